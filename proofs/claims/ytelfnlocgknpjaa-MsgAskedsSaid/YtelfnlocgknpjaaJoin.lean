/-
  The program's Join.
-/
import Derived.Test.YtelfnlocgknpjaaIsName
namespace Go.Proofs.Ytelfnlocgknpjaa
open Go.RowKit
set_option linter.unusedVariables false
set_option linter.unusedSimpArgs false

theorem joinTail_is : ∀ r : List Byt, Lib.joinTail [47] r = joinP r
  | [] => rfl
  | x :: r => by
    have ih := joinTail_is r
    have e : Lib.joinTail [47] (x :: r) = [47] ++ x ++ Lib.joinTail [47] r := by simp [Lib.joinTail]
    rw [e, ih]; simp [joinP]
theorem join_is (l : List Byt) : 47 :: Lib.join l [47] = joinN l := by
  rcases l with _ | ⟨x, r⟩
  · rfl
  · rw [joinN, if_neg (by simp), Lib.join_cons, joinTail_is]; rfl
theorem map_tx (l : List Byt) : (l.map tx).map (fun s => s.data.toList) = l := by
  rw [List.map_map]
  conv => rhs; rw [← List.map_id l]
  exact List.map_congr_left fun x _ => tx_list x

theorem joinS_any (A : Option Addr) (n c : Nat) (l : List Byt) (w : World) (hb : Ls stS w A l) (hn : l.length = n) (hc : n ≤ c) (hk : Clean_ l) :
    Calls Try.prog 57 #[.slice A n c, .string ⟨#[47]⟩] w fun e w' => e = .returned (.string (tx (Lib.join l [47]))) ∧ Below w.heap.size w w' := by
  rcases hl : l with _ | ⟨x, t⟩
  · obtain rfl : n = 0 := by rw [← hn, hl]; rfl
    refine (Try.strings_Join_none A c ⟨#[47]⟩ w).mono ?_
    rintro e w' ⟨rfl, rfl⟩
    exact ⟨rfl, Below.refl _ _⟩
  · rw [← hl]
    have hpos : 0 < l.length := by rw [hl]; simp
    obtain ⟨b, o, rfl, hbl, -⟩ := hb.text 0 hpos
    have hlen : (l.map tx).length = n := by rw [List.length_map, hn]
    have := Try.strings_Join b o c (l.map tx) ⟨#[47]⟩ w (fun j x hj => by
        have hjl : j < l.length := by
          rcases Nat.lt_or_ge j l.length with g | g
          · exact g
          · rw [List.getElem?_eq_none (by simpa using g)] at hj; cases hj
        obtain ⟨b', o', hA, -, hcell⟩ := hb.text j hjl
        injection hA with hA; injection hA with e1 e2
        subst e1; subst e2
        rw [hcell]
        rw [List.getElem?_map, List.getElem?_eq_getElem hjl] at hj
        rw [List.getD_eq_getElem?_getD, List.getElem?_eq_getElem hjl]
        simpa using hj) hbl (by rw [hlen]; have := hk.1; omega) (by rw [hlen]; exact hc) (by
        rw [map_tx]
        have h1 := joinN_len hk
        rw [← join_is] at h1
        simp only [List.length_cons] at h1
        show (Lib.join l [47]).length ≤ _
        omega)
    rw [hlen, map_tx] at this
    exact this

theorem join_fault (A : Option Addr) (n c : Nat) (l : List Byt) (w : World) (hb : Ls stS w A l) (hn : l.length = n) (h0 : nfault l ≠ 0) :
    Calls Try.prog 50 #[.slice A n c] w fun e w' => e = .returned (.tuple #[.string ⟨#[]⟩, .int .i64 (nfault l)]) ∧ Below w.heap.size w w' := by
  have HC := Lib.hid (check_any A n c l w hb hn)
  obtain ⟨v, hv⟩ : ∃ v, nfault l = v := ⟨_, rfl⟩
  rw [hv] at HC h0 ⊢
  have h1 : (v == 0) = false := by simpa using h0
  have h2 : (v != 0) = true := by simpa using h0
  clear hv hb hn
  go_enter Try.func50, Try.ntmps50
  go_wp2_with (go_at_call 56; refine HC.out.mono ?_; rintro e w1 ⟨rfl, hb1⟩; have HB1 := Lib.hid hb1; clear hb1)
  go_ret2
  exact ⟨rfl, HB1.out⟩
theorem join_ok (A : Option Addr) (n c : Nat) (l : List Byt) (w : World) (hb : Ls stS w A l) (hn : l.length = n) (hc : n ≤ c) (hk : Clean_ l) :
    Calls Try.prog 50 #[.slice A n c] w fun e w' => e = .returned (.tuple #[.string (tx (joinN l)), .int .i64 0]) ∧ Below w.heap.size w w' := by
  have HC := Lib.hid (check_any A n c l w hb hn)
  rw [nfault_clean hk] at HC
  have HJ := Lib.hid (fun wx (h : Below w.heap.size w wx) => joinS_any A n c l wx (hb.below h) hn hc hk)
  obtain ⟨j, hj⟩ : ∃ j, Lib.join l [47] = j := ⟨_, rfl⟩
  have hjl : j.length ≤ 204 := by
    have h1 := joinN_len hk
    rw [← join_is, hj] at h1
    simp only [List.length_cons] at h1
    omega
  have hx : (⟨#[47]⟩ : ByteArray) ++ tx j = tx (joinN l) := by rw [← join_is, hj]; exact tx_app [47] j
  have hsz := tx_size j
  have hbig : ¬ 9223372036854775807 < 1 + j.length := by omega
  rw [hj] at HJ
  clear hb hn hj
  go_enter Try.func50, Try.ntmps50
  go_wp2_with (first
    | (go_at_call 56; refine HC.out.mono ?_; rintro e w1 ⟨rfl, hb1⟩; have HB1 := Lib.hid hb1; clear hb1)
    | (go_at_call 57; refine (HJ.out _ HB1.out).mono ?_; rintro e w2 ⟨rfl, hb2⟩; have HB2 := Lib.hid hb2; clear hb2))
  go_ret2
  exact ⟨rfl, bthen HB1.out HB2.out⟩

end Go.Proofs.Ytelfnlocgknpjaa
