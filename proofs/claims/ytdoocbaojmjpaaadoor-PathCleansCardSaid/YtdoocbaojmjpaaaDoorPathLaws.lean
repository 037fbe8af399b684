/-
  The walks of PathCleans and PathFollows.
-/
import Derived.Test.YtdoocbaojmjpaaaDoorFollow
import Derived.Test.YtdoocbaojmjpaaaDoorStLaw
namespace Go.Proofs.YtdoocbaojmjpaaaDoor
open Go.RowKit
set_option linter.unusedVariables false
set_option linter.unusedSimpArgs false

theorem walkPathCleans (s : ByteArray) (w : World) :
    Calls Tryd.prog 3 #[.string s] w fun e w' => e = .returned (.bool true) ∧ Below w.heap.size w w' := by
  obtain ⟨p, rfl⟩ : ∃ p, s = tx p := ⟨_, tx_of s⟩
  have H1 := Lib.hid (clean_any p w)
  have H2 := Lib.hid (fun wx => pclean_any p wx)
  have h12 : ∀ l, pfrom [] p = .ok l → l.length ≤ 12 := fun l h => (pfrom_clean clean_nil h).1
  obtain ⟨r, hr⟩ : ∃ r, pfrom [] p = r := ⟨_, rfl⟩
  rw [hr] at H1 H2 h12
  clear hr
  rcases r with c | l
  · clear h12
    go_enter Tryd.func3, Tryd.ntmps3
    go_wp2_with (first
      | (go_at_call 8; refine H1.out.mono ?_; rintro e w1 ⟨hb1, rfl⟩; have HB1 := Lib.hid hb1; clear hb1)
      | (go_at_call 9; refine (H2.out w1).mono ?_; rintro e w2 ⟨hb2, rfl⟩; have HB2 := Lib.hid hb2; clear hb2)
      | (go_at_call 10; refine (texts_law none 0 0 none 0 [] w2 (Ls.nil _ _) (Ls.nil _ _) rfl (by omega)).mono ?_; rintro e w3 ⟨rfl, hb3⟩; have HB3 := Lib.hid hb3; clear hb3))
    go_ret
    exact ⟨by simp, bthen (bthen HB1.out HB2.out) HB3.out⟩
  · have hl := h12 l rfl
    obtain ⟨n, hn⟩ : ∃ n, l.length = n := ⟨_, rfl⟩
    have HN := Lib.hid hn
    rw [hn] at hl
    clear h12 hn
    go_enter Tryd.func3, Tryd.ntmps3
    go_wp2_with (first
      | (go_at_call 8; refine H1.out.mono ?_; rintro e w1 ⟨hb1, A1, c1, rfl, ho1⟩; rw [HN.out] at ho1 ⊢; have HB1 := Lib.hid hb1; have HO1 := Lib.hid ho1; clear hb1 ho1)
      | (go_at_call 9; refine (H2.out w1).mono ?_; rintro e w2 ⟨hb2, A2, c2, rfl, ho2⟩; rw [HN.out] at ho2 ⊢; have HB2 := Lib.hid hb2; have HO2 := Lib.hid ho2; clear hb2 ho2)
      | (go_at_call 10; refine (texts_law A1 n c1 A2 c2 l w2 (HO1.out.below HB2.out).ls HO2.out.ls HN.out (by omega)).mono ?_; rintro e w3 ⟨rfl, hb3⟩; have HB3 := Lib.hid hb3; clear hb3))
    go_ret
    exact ⟨by simp, bthen (bthen HB1.out HB2.out) HB3.out⟩

theorem pfollow_len {l : List Byt} {p : Byt} {o : List Byt} (h : pfollow l p = .ok o) : o.length ≤ 12 := by
  unfold pfollow at h
  split at h
  · cases h
  · rename_i h0
    have hc := nfault_zero (by simpa using h0)
    split at h
    · exact (pfrom_clean clean_nil h).1
    · exact (pfrom_clean hc h).1

theorem walkPathFollows (A : Option Addr) (n c : Nat) (l : List Byt) (s : ByteArray) (w : World) (hb : Ls stS w A l) (hn : l.length = n) (hc : n ≤ c) (hr : c ≤ 8796093021952) :
    Calls Tryd.prog 4 #[.slice A n c, .string s] w fun e w' => e = .returned (.bool true) ∧ Below w.heap.size w w' := by
  obtain ⟨p, rfl⟩ : ∃ p, s = tx p := ⟨_, tx_of s⟩
  have HA := Lib.hid hb
  have H1 := Lib.hid (follow_any A n c l p w hb hn)
  have H2 := Lib.hid (fun wx (h : Below w.heap.size w wx) => pfollowR_any A n c l p wx (HA.out.below h) hn)
  have h12 : ∀ o, pfollow l p = .ok o → o.length ≤ 12 := fun o h => pfollow_len h
  obtain ⟨r, hr'⟩ : ∃ r, pfollow l p = r := ⟨_, rfl⟩
  rw [hr'] at H1 H2 h12
  clear hr' hb hn
  rcases r with c' | o
  · clear h12
    go_enter Tryd.func4, Tryd.ntmps4
    go_wp2_with (first
      | (go_at_call 11; refine H1.out.mono ?_; rintro e w1 ⟨hb1, rfl⟩; have HB1 := Lib.hid hb1; clear hb1)
      | (go_at_call 12; refine (H2.out w1 HB1.out).mono ?_; rintro e w2 ⟨hb2, rfl⟩; have HB2 := Lib.hid hb2; clear hb2)
      | (go_at_call 10; refine (texts_law none 0 0 none 0 [] w2 (Ls.nil _ _) (Ls.nil _ _) rfl (by omega)).mono ?_; rintro e w3 ⟨rfl, hb3⟩; have HB3 := Lib.hid hb3; clear hb3))
    go_ret
    exact ⟨by simp, bthen (bthen HB1.out HB2.out) HB3.out⟩
  · have hl := h12 o rfl
    obtain ⟨m, hm⟩ : ∃ m, o.length = m := ⟨_, rfl⟩
    have HM := Lib.hid hm
    rw [hm] at hl
    clear h12 hm
    go_enter Tryd.func4, Tryd.ntmps4
    go_wp2_with (first
      | (go_at_call 11; refine H1.out.mono ?_; rintro e w1 ⟨hb1, A1, c1, rfl, ho1⟩; rw [HM.out] at ho1 ⊢; have HB1 := Lib.hid hb1; have HO1 := Lib.hid ho1; clear hb1 ho1)
      | (go_at_call 12; refine (H2.out w1 HB1.out).mono ?_; rintro e w2 ⟨hb2, A2, c2, rfl, ho2⟩; rw [HM.out] at ho2 ⊢; have HB2 := Lib.hid hb2; have HO2 := Lib.hid ho2; clear hb2 ho2)
      | (go_at_call 10; refine (texts_law A1 m c1 A2 c2 o w2 (HO1.out.below HB2.out).ls HO2.out.ls HM.out (by omega)).mono ?_; rintro e w3 ⟨rfl, hb3⟩; have HB3 := Lib.hid hb3; clear hb3))
    go_ret
    exact ⟨by simp, bthen (bthen HB1.out HB2.out) HB3.out⟩

end Go.Proofs.YtdoocbaojmjpaaaDoor
