/-
  The document's answer to Add: contracts.
-/
import Derived.Test.YtdfidmdgdajgoaaHoleMath4
import Derived.BigQuiet
import Derived.Deep.QuietTactic
import Derived.IntWalk
namespace Go.Proofs.Ytdfidmdgdajgoaa
open Go.RowKit
set_option linter.unusedVariables false
set_option linter.unusedSimpArgs false

theorem refAdd_form (d : Int) (A : Option Addr) (n c : Nat) (l : List Rg) (r : Rg) (w : World) (hb : Rs w A l) (hn : l.length = n) (h47 : n ≤ 140737488355328) (hm : mayB d l = false) :
    Calls Try.prog 14 #[.int .i64 d, .slice A n c, rv r] w fun e w' => e = .returned (.tuple #[.int .i64 0, .slice none 0 0, .int .i64 4]) ∧ Below w.heap.size w w' := by
  have HB := Lib.hid hb
  have HN := Lib.hid hn
  have HM := Lib.hid hm
  clear hb hn hm
  obtain ⟨r1, r2⟩ := r
  unfold rv
  simp only
  go_enter Try.func14, Try.ntmps14
  go_wp2_with (go_at_call 12; refine (refMay_any d A n c l _ (HB.out.below (ba1 _ _)) HN.out h47).mono ?_; rw [HM.out]; rintro e w1 ⟨rfl, hb1⟩)
  go_ret3; exact ⟨by simp, bthen (ba1 _ _) hb1⟩

theorem refAdd_range (d : Int) (A : Option Addr) (n c : Nat) (l : List Rg) (r : Rg) (w : World) (hb : Rs w A l) (hn : l.length = n) (h47 : n ≤ 140737488355328) (hm : mayB d l = true) (hr : ¬ (0 ≤ r.1 ∧ r.1 ≤ r.2 ∧ r.2 ≤ 1048576)) :
    Calls Try.prog 14 #[.int .i64 d, .slice A n c, rv r] w fun e w' => e = .returned (.tuple #[.int .i64 0, .slice none 0 0, .int .i64 2]) ∧ Below w.heap.size w w' := by
  have HB := Lib.hid hb
  have HN := Lib.hid hn
  have HM := Lib.hid hm
  clear hb hn hm
  obtain ⟨r1, r2⟩ := r
  unfold rv
  simp only at hr ⊢
  have three : r1 < 0 ∨ (0 ≤ r1 ∧ r2 < r1) ∨ (0 ≤ r1 ∧ ¬ r2 < r1 ∧ 1048576 < r2) := by omega
  rcases three with g | ⟨g, g'⟩ | ⟨g, g', g''⟩
  all_goals
    go_enter Try.func14, Try.ntmps14
    go_wp2_with (go_at_call 12; refine (refMay_any d A n c l _ (HB.out.below (ba1 _ _)) HN.out h47).mono ?_; rw [HM.out]; rintro e w1 ⟨rfl, hb1⟩; have hT := (two_new w 25 (r1, r2)).below hb1; have hc0 := hT.c0; have hc1 := hT.c1; have hl := hT.lt; simp only at hc0 hc1; clear hT)
    go_ret3; exact ⟨by simp, bthen (ba1 _ _) hb1⟩

/-- whether a place came, as the document's answer asks it -/
theorem cameRef_any (d : Int) (A : Option Addr) (n c : Nat) (l : List Rg) (x : Int) (r : Bool) (w : World) (hr : Hid (IsIt r (Came d l x))) (hb : Rs w A l) (hn : l.length = n) (h47 : n ≤ 100) :
    Calls Try.prog 27 #[.int .i64 d, .slice A n c, .int .i64 x] w fun e w' => e = .returned (.bool r) ∧ Below w.heap.size w w' := by
  have HB := Lib.hid hb
  have HN := Lib.hid hn
  clear hb hn
  by_cases hd : x < d
  · have HF : Hid (r = true) := Lib.hid (hr.out.2 (.inl hd))
    go_enter Try.func27, Try.ntmps27
    go_wp2
    go_ret
    exact ⟨by rw [HF.out]; rfl, Below.refl _ _⟩
  · go_enter Try.func27, Try.ntmps27
    go_wp2
    go_loopw [14] (fun i wr => ∃ k : Nat, k ≤ n ∧ i = .int .i64 k ∧ (inR l x ↔ inR (l.drop k) x) ∧ Below w.heap.size w wr) (fun i _ => n - (intOf i).toNat)
    case atStart => exact ⟨0, Nat.zero_le _, rfl, by simp, Below.refl _ _⟩
    case round =>
      obtain ⟨k, hk, rfl, hz, hb1⟩ := hrel
      have HZ := Lib.hid hz
      clear hz
      by_cases hlt : k < n
      · obtain ⟨⟨x1, x2⟩, hx, hdr⟩ := drop_at l k (by rw [HN.out]; exact hlt)
        obtain ⟨b, o, rfl, hbs, hc1, hc2⟩ := (HB.out.below hb1).at k _ hx
        have HD := Lib.hid hdr
        clear hx hdr
        simp only at hc1 hc2
        by_cases hin : x1 ≤ x ∧ x < x2
        · have HF : Hid (r = true) := Lib.hid (hr.out.2 (.inr (HZ.out.2 (by rw [HD.out]; exact (inR_cons _ _ _).2 (.inl hin)))))
          obtain ⟨g1, g2⟩ := hin
          go_wp2
          go_ret
          exact ⟨by rw [HF.out]; rfl, hb1.alloc hb1.size _⟩
        · have HF : Hid (inR l x ↔ inR (l.drop (k + 1)) x) := Lib.hid (by rw [HZ.out, HD.out, inR_cons]; simp only; exact ⟨fun h => h.elim (fun g => absurd g hin) id, .inr⟩)
          go_wp2
          all_goals
            go_roundw
            case rel => exact ⟨k + 1, by omega, by go_num, HF.out, hb1.alloc hb1.size _⟩
            case measure => simp [intOf]; omega
      · have HF : Hid (r = false) := Lib.hid (by
          rw [← Bool.not_eq_true, show r = true ↔ Came d l x from hr.out]
          rintro (g | g)
          · omega
          · have := HZ.out.1 g
            rw [List.drop_eq_nil_of_le (by rw [HN.out]; omega)] at this
            exact inR_nil _ this)
        go_wp2
        go_ret
        exact ⟨by rw [HF.out]; rfl, hb1⟩

end Go.Proofs.Ytdfidmdgdajgoaa
