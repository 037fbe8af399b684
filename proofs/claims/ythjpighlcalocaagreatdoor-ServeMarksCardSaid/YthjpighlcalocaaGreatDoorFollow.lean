/-
  The program's Clean and Follow.
-/
import Derived.Test.YthjpighlcalocaaGreatDoorWalk
namespace Go.Proofs.YthjpighlcalocaaGreatDoor
open Go.RowKit
set_option linter.unusedVariables false
set_option linter.unusedSimpArgs false

theorem clean_any (p : Byt) (w : World) :
    Calls Tryz.prog 66 #[.string (tx p)] w (RetN w (pfrom [] p)) := by
  have HC := Lib.hid (walk_any none 0 0 [] p w (Ls.nil _ _) rfl (by omega))
  obtain ⟨r, hr⟩ : ∃ r, pfrom [] p = r := ⟨_, rfl⟩
  rw [hr] at HC ⊢
  clear hr
  go_enter Tryz.func66, Tryz.ntmps66
  go_wp2_with (go_at_call 83; refine HC.out.mono ?_; intro e w1 h1; obtain ⟨hb1, ⟨c, rfl, rfl⟩ | ⟨l1, A1, c1, n1, rfl, hn1, rfl, ho1⟩⟩ := h1.is)
  · go_ret2
    exact RetN.err rfl hb1
  · go_ret2
    exact RetN.ok rfl hb1 (by first | exact hn1 | rfl) (by first | exact ho1 | (rw [← hn1]; exact ho1))

theorem RetN.mono {W W0 w' : World} {r : Except Int (List Byt)} {e : Ending} (h : RetN W r e w') (hb : Below W0.heap.size W0 W) : RetN W0 r e w' := by
  refine ⟨bthen hb h.1, ?_⟩
  rcases r with c | l
  · exact h.2
  · obtain ⟨A, c, h1, h2⟩ := h.2
    exact ⟨A, c, h1, h2.base hb.size⟩
theorem pfollow_fault {l : List Byt} {p : Byt} (h : nfault l ≠ 0) : pfollow l p = .error (nfault l) := by unfold pfollow; rw [if_pos h]
theorem pfollow_own {l : List Byt} {p : Byt} (h : nfault l = 0) (hp : p.head? = some 47) : pfollow l p = pfrom [] p := by unfold pfollow; rw [if_neg (by simpa using h), if_pos hp]
theorem pfollow_on {l : List Byt} {p : Byt} (h : nfault l = 0) (hp : p.head? ≠ some 47) : pfollow l p = pfrom l p := by unfold pfollow; rw [if_neg (by simpa using h), if_neg hp]
theorem hasPrefix_is (p : Byt) : Lib.hasPrefix p [47] = decide (p.head? = some 47) := by
  rcases p with _ | ⟨b, r⟩
  · rfl
  · rw [Bool.eq_iff_iff]
    simp [Lib.hasPrefix, List.isPrefixOf]
    exact eq_comm

theorem follow_any (A : Option Addr) (n c : Nat) (l : List Byt) (p : Byt) (w : World) (hb : Ls stS w A l) (hn : l.length = n) :
    Calls Tryz.prog 99 #[.slice A n c, .string (tx p)] w (RetN w (pfollow l p)) := by
  have HB := Lib.hid hb
  have HN := Lib.hid hn
  have HC := Lib.hid (check_any A n c l w hb hn)
  have HP := Lib.hid (fun wx => Tryz.strings_HasPrefix (tx p) ⟨#[47]⟩ wx)
  rw [tx_list, show (⟨#[47]⟩ : ByteArray).data.toList = [47] from rfl, hasPrefix_is] at HP
  clear hb hn
  by_cases h0 : nfault l = 0
  · have h12 : n ≤ 12 := by have := (nfault_zero h0).1; have := HN.out; omega
    rw [h0] at HC
    by_cases hp : p.head? = some 47
    · rw [decide_eq_true hp] at HP
      rw [pfollow_own h0 hp]
      have HW := Lib.hid (fun wx => walk_any none 0 0 [] p wx (Ls.nil _ _) rfl (by omega))
      obtain ⟨r, hr⟩ : ∃ r, pfrom [] p = r := ⟨_, rfl⟩
      rw [hr] at HW ⊢
      clear hr hp h0
      go_enter Tryz.func99, Tryz.ntmps99
      go_wp2_with (first
        | (go_at_call 114; refine HC.out.mono ?_; rintro e w1 ⟨rfl, hb1⟩; have HB1 := Lib.hid hb1; clear hb1)
        | (go_at_call 115; refine (HP.out w1).mono ?_; rintro e w2 ⟨rfl, rfl⟩)
        | (go_at_call 83; refine (HW.out _).mono ?_; intro e w3 h3; have h3 := h3.mono HB1.out; obtain ⟨hb3, ⟨c3, rfl, rfl⟩ | ⟨l3, A3, c3, n3, rfl, hn3, rfl, ho3⟩⟩ := h3.is))
      · go_ret2
        exact RetN.err rfl hb3
      · go_ret2
        exact RetN.ok rfl hb3 (by first | exact hn3 | rfl) (by first | exact ho3 | (rw [← hn3]; exact ho3))
    · rw [decide_eq_false hp] at HP
      rw [pfollow_on h0 hp]
      have HW := Lib.hid (fun wx (hb : Below w.heap.size w wx) => walk_any A n c l p wx (HB.out.below hb) HN.out h12)
      obtain ⟨r, hr⟩ : ∃ r, pfrom l p = r := ⟨_, rfl⟩
      rw [hr] at HW ⊢
      clear hr hp h0
      go_enter Tryz.func99, Tryz.ntmps99
      go_wp2_with (first
        | (go_at_call 114; refine HC.out.mono ?_; rintro e w1 ⟨rfl, hb1⟩; have HB1 := Lib.hid hb1; clear hb1)
        | (go_at_call 115; refine (HP.out w1).mono ?_; rintro e w2 ⟨rfl, rfl⟩)
        | (go_at_call 83; refine (HW.out _ HB1.out).mono ?_; intro e w3 h3; have h3 := h3.mono HB1.out; obtain ⟨hb3, ⟨c3, rfl, rfl⟩ | ⟨l3, A3, c3, n3, rfl, hn3, rfl, ho3⟩⟩ := h3.is))
      · go_ret2
        exact RetN.err rfl hb3
      · go_ret2
        exact RetN.ok rfl hb3 (by first | exact hn3 | rfl) (by first | exact ho3 | (rw [← hn3]; exact ho3))
  · rw [pfollow_fault h0]
    obtain ⟨v, hv⟩ : ∃ v, nfault l = v := ⟨_, rfl⟩
    rw [hv] at HC h0 ⊢
    have h1 : (v == 0) = false := by simpa using h0
    have h2 : (v != 0) = true := by simpa using h0
    clear hv
    go_enter Tryz.func99, Tryz.ntmps99
    go_wp2_with (go_at_call 114; refine HC.out.mono ?_; rintro e w1 ⟨rfl, hb1⟩; have HB1 := Lib.hid hb1; clear hb1)
    go_ret2
    exact RetN.err rfl HB1.out

end Go.Proofs.YthjpighlcalocaaGreatDoor
