/-
  Contracts of package rto, and of the document's: Back.
-/
import Derived.Test.YtoidpnmllmkaeaaRto3
namespace Go.Proofs.Ytoidpnmllmkaeaa
open Go.RowKit
set_option linter.unusedVariables false
set_option linter.unusedSimpArgs false

theorem back_cases {t T : Int} (h : T = back' t) : (2 * t ≤ 60000 ∧ T = 2 * t) ∨ (60000 < 2 * t ∧ T = 60000) := by unfold back' at h; omega
theorem back_cases' {t T : Int} (h : T = back' t) : (t + t ≤ 60000 ∧ T = t + t) ∨ (60000 < t + t ∧ T = 60000) := by unfold back' at h; omega

set_option maxHeartbeats 4000000 in
theorem back_ok (s v t b T : Int) (w : World) (hm : Tm s v t b) (hb : b < 12) (hT : T = back' t) :
    Calls Try.prog 17 #[.agg #[.int .i64 s, .int .i64 v, .int .i64 t, .int .i64 b]] w fun e w' => e = .returned (.tuple #[.agg #[.int .i64 s, .int .i64 v, .int .i64 T, .int .i64 (b + 1)], .int .i64 0]) ∧ Below w.heap.size w w' := by
  have HN := Lib.hid (two_boxes w s v t b)
  have HM := Lib.hid hm
  obtain ⟨-, -, -, -, t0, t1, b0, b1⟩ := hm
  have hb12 : (b == 12) = false := by simp; omega
  rcases back_cases hT with ⟨k0, rfl⟩ | ⟨k0, rfl⟩
  · clear hT
    go_enter Try.func17, Try.ntmps17
    go_wp2_with (go_at_call 11; (refine (may_ok s v t b _ HM.out).mono ?_); rintro e w1 ⟨rfl, hb1⟩; have HB1 := Lib.hid (bthen (ba2 _ _ _) hb1); have HA1 := Lib.hid (HN.out.1.below hb1); have HR1 := Lib.hid (HN.out.2.below hb1); clear hb1; obtain ⟨lA, cA0, cA1, cA2, cA3, fA⟩ := (HA1.out).cells; have fA0 := fA 0; have fA1 := fA 1; have fA2 := fA 2; have fA3 := fA 3; clear fA; obtain ⟨lR, cR0, cR1, cR2, cR3, fR⟩ := (HR1.out).cells; have fR0 := fR 0; have fR1 := fR 1; have fR2 := fR 2; have fR3 := fR 3; clear fR)
    obtain ⟨wf, hwf⟩ : ∃ wf, wf = ((((((w1.setCell ⟨w.heap.size, 2, none⟩ (.int .i64 (2 * t))).setCell ⟨w.heap.size, 3, none⟩ (.int .i64 (b + 1))).setCell ⟨(w.heap.size + 1), 0, none⟩ (.int .i64 s)).setCell ⟨(w.heap.size + 1), 1, none⟩ (.int .i64 v)).setCell ⟨(w.heap.size + 1), 2, none⟩ (.int .i64 (2 * t))).setCell ⟨(w.heap.size + 1), 3, none⟩ (.int .i64 (b + 1))) := ⟨_, rfl⟩
    have hf : Box4 wf (w.heap.size + 1) s v (2 * t) (b + 1) := by rw [hwf]; exact (((((HR1.out).other (by omega) _)).other (by omega) _)).store _ _ _ _
    have hbf : Below w.heap.size w wf := by rw [hwf]; exact below_store4 ((((HB1.out).setCell (Nat.le_refl _) _)).setCell (Nat.le_refl _) _) (by first | exact Nat.le_refl _ | exact Nat.le_succ _) _ _ _ _
    obtain ⟨-, r0, r1, r2, r3, -⟩ := hf.cells
    rw [← hwf]
    exact end_ret (v := .tuple #[.agg #[.int .i64 s, .int .i64 v, .int .i64 (2 * t), .int .i64 (b + 1)], .int .i64 0]) (by simp [results, Try.results17, go_sem, r0, r1, r2, r3]) ⟨rfl, hbf⟩
  · clear hT
    go_enter Try.func17, Try.ntmps17
    go_wp2_with (go_at_call 11; (refine (may_ok s v t b _ HM.out).mono ?_); rintro e w1 ⟨rfl, hb1⟩; have HB1 := Lib.hid (bthen (ba2 _ _ _) hb1); have HA1 := Lib.hid (HN.out.1.below hb1); have HR1 := Lib.hid (HN.out.2.below hb1); clear hb1; obtain ⟨lA, cA0, cA1, cA2, cA3, fA⟩ := (HA1.out).cells; have fA0 := fA 0; have fA1 := fA 1; have fA2 := fA 2; have fA3 := fA 3; clear fA; obtain ⟨lR, cR0, cR1, cR2, cR3, fR⟩ := (HR1.out).cells; have fR0 := fR 0; have fR1 := fR 1; have fR2 := fR 2; have fR3 := fR 3; clear fR)
    obtain ⟨wf, hwf⟩ : ∃ wf, wf = ((((((w1.setCell ⟨w.heap.size, 2, none⟩ (.int .i64 60000)).setCell ⟨w.heap.size, 3, none⟩ (.int .i64 (b + 1))).setCell ⟨(w.heap.size + 1), 0, none⟩ (.int .i64 s)).setCell ⟨(w.heap.size + 1), 1, none⟩ (.int .i64 v)).setCell ⟨(w.heap.size + 1), 2, none⟩ (.int .i64 60000)).setCell ⟨(w.heap.size + 1), 3, none⟩ (.int .i64 (b + 1))) := ⟨_, rfl⟩
    have hf : Box4 wf (w.heap.size + 1) s v 60000 (b + 1) := by rw [hwf]; exact (((((HR1.out).other (by omega) _)).other (by omega) _)).store _ _ _ _
    have hbf : Below w.heap.size w wf := by rw [hwf]; exact below_store4 ((((HB1.out).setCell (Nat.le_refl _) _)).setCell (Nat.le_refl _) _) (by first | exact Nat.le_refl _ | exact Nat.le_succ _) _ _ _ _
    obtain ⟨-, r0, r1, r2, r3, -⟩ := hf.cells
    rw [← hwf]
    exact end_ret (v := .tuple #[.agg #[.int .i64 s, .int .i64 v, .int .i64 60000, .int .i64 (b + 1)], .int .i64 0]) (by simp [results, Try.results17, go_sem, r0, r1, r2, r3]) ⟨rfl, hbf⟩

theorem back_form (s v t b : Int) (w : World) (hm : ¬ Tm s v t b) :
    Calls Try.prog 17 #[.agg #[.int .i64 s, .int .i64 v, .int .i64 t, .int .i64 b]] w fun e w' => e = .returned (.tuple #[.agg #[.int .i64 0, .int .i64 0, .int .i64 0, .int .i64 0], .int .i64 4]) ∧ Below w.heap.size w w' := by
  have HN := Lib.hid (two_boxes w s v t b)
  have HM := Lib.hid hm
  clear hm
  go_enter Try.func17, Try.ntmps17
  go_wp2_with (go_at_call 11; (refine (may_no s v t b _ HM.out).mono ?_); rintro e w1 ⟨rfl, hb1⟩; have HB1 := Lib.hid (bthen (ba2 _ _ _) hb1); have HA1 := Lib.hid (HN.out.1.below hb1); have HR1 := Lib.hid (HN.out.2.below hb1); clear hb1; obtain ⟨lA, cA0, cA1, cA2, cA3, fA⟩ := (HA1.out).cells; have fA0 := fA 0; have fA1 := fA 1; have fA2 := fA 2; have fA3 := fA 3; clear fA; obtain ⟨lR, cR0, cR1, cR2, cR3, fR⟩ := (HR1.out).cells; have fR0 := fR 0; have fR1 := fR 1; have fR2 := fR 2; have fR3 := fR 3; clear fR)
  obtain ⟨wf, hwf⟩ : ∃ wf, wf = ((((w1.setCell ⟨(w.heap.size + 1), 0, none⟩ (.int .i64 0)).setCell ⟨(w.heap.size + 1), 1, none⟩ (.int .i64 0)).setCell ⟨(w.heap.size + 1), 2, none⟩ (.int .i64 0)).setCell ⟨(w.heap.size + 1), 3, none⟩ (.int .i64 0)) := ⟨_, rfl⟩
  have hf : Box4 wf (w.heap.size + 1) 0 0 0 0 := by rw [hwf]; exact (HR1.out).store _ _ _ _
  have hbf : Below w.heap.size w wf := by rw [hwf]; exact below_store4 HB1.out (by first | exact Nat.le_refl _ | exact Nat.le_succ _) _ _ _ _
  obtain ⟨-, r0, r1, r2, r3, -⟩ := hf.cells
  rw [← hwf]
  exact end_ret (v := .tuple #[.agg #[.int .i64 0, .int .i64 0, .int .i64 0, .int .i64 0], .int .i64 4]) (by simp [results, Try.results17, go_sem, r0, r1, r2, r3]) ⟨rfl, hbf⟩

theorem back_full (s v t b : Int) (w : World) (hm : Tm s v t b) (hb : ¬ b < 12) :
    Calls Try.prog 17 #[.agg #[.int .i64 s, .int .i64 v, .int .i64 t, .int .i64 b]] w fun e w' => e = .returned (.tuple #[.agg #[.int .i64 0, .int .i64 0, .int .i64 0, .int .i64 0], .int .i64 9]) ∧ Below w.heap.size w w' := by
  obtain rfl : b = 12 := by have := hm.b1; omega
  have HN := Lib.hid (two_boxes w s v t 12)
  have HM := Lib.hid hm
  clear hm hb
  go_enter Try.func17, Try.ntmps17
  go_wp2_with (go_at_call 11; (refine (may_ok s v t 12 _ HM.out).mono ?_); rintro e w1 ⟨rfl, hb1⟩; have HB1 := Lib.hid (bthen (ba2 _ _ _) hb1); have HA1 := Lib.hid (HN.out.1.below hb1); have HR1 := Lib.hid (HN.out.2.below hb1); clear hb1; obtain ⟨lA, cA0, cA1, cA2, cA3, fA⟩ := (HA1.out).cells; have fA0 := fA 0; have fA1 := fA 1; have fA2 := fA 2; have fA3 := fA 3; clear fA; obtain ⟨lR, cR0, cR1, cR2, cR3, fR⟩ := (HR1.out).cells; have fR0 := fR 0; have fR1 := fR 1; have fR2 := fR 2; have fR3 := fR 3; clear fR)
  obtain ⟨wf, hwf⟩ : ∃ wf, wf = ((((w1.setCell ⟨(w.heap.size + 1), 0, none⟩ (.int .i64 0)).setCell ⟨(w.heap.size + 1), 1, none⟩ (.int .i64 0)).setCell ⟨(w.heap.size + 1), 2, none⟩ (.int .i64 0)).setCell ⟨(w.heap.size + 1), 3, none⟩ (.int .i64 0)) := ⟨_, rfl⟩
  have hf : Box4 wf (w.heap.size + 1) 0 0 0 0 := by rw [hwf]; exact (HR1.out).store _ _ _ _
  have hbf : Below w.heap.size w wf := by rw [hwf]; exact below_store4 HB1.out (by first | exact Nat.le_refl _ | exact Nat.le_succ _) _ _ _ _
  obtain ⟨-, r0, r1, r2, r3, -⟩ := hf.cells
  rw [← hwf]
  exact end_ret (v := .tuple #[.agg #[.int .i64 0, .int .i64 0, .int .i64 0, .int .i64 0], .int .i64 9]) (by simp [results, Try.results17, go_sem, r0, r1, r2, r3]) ⟨rfl, hbf⟩

set_option maxHeartbeats 4000000 in
theorem refBack_ok (s v t b T : Int) (w : World) (hm : Tm s v t b) (hb : b < 12) (hT : T = back' t) :
    Calls Try.prog 18 #[.agg #[.int .i64 s, .int .i64 v, .int .i64 t, .int .i64 b]] w fun e w' => e = .returned (.tuple #[.agg #[.int .i64 s, .int .i64 v, .int .i64 T, .int .i64 (b + 1)], .int .i64 0]) ∧ Below w.heap.size w w' := by
  have HN := Lib.hid (two_boxes w s v t b)
  have HM := Lib.hid hm
  obtain ⟨-, -, -, -, t0, t1, b0, b1⟩ := hm
  have hb12 : (b == 12) = false := by simp; omega
  rcases back_cases' hT with ⟨k0, rfl⟩ | ⟨k0, rfl⟩
  · clear hT
    go_enter Try.func18, Try.ntmps18
    go_wp2_with (go_at_call 12; (refine (refMay_ok s v t b _ HM.out).mono ?_); rintro e w1 ⟨rfl, hb1⟩; have HB1 := Lib.hid (bthen (ba2 _ _ _) hb1); have HA1 := Lib.hid (HN.out.1.below hb1); have HR1 := Lib.hid (HN.out.2.below hb1); clear hb1; obtain ⟨lA, cA0, cA1, cA2, cA3, fA⟩ := (HA1.out).cells; have fA0 := fA 0; have fA1 := fA 1; have fA2 := fA 2; have fA3 := fA 3; clear fA; obtain ⟨lR, cR0, cR1, cR2, cR3, fR⟩ := (HR1.out).cells; have fR0 := fR 0; have fR1 := fR 1; have fR2 := fR 2; have fR3 := fR 3; clear fR)
    obtain ⟨wf, hwf⟩ : ∃ wf, wf = ((((((w1.setCell ⟨w.heap.size, 3, none⟩ (.int .i64 (b + 1))).setCell ⟨w.heap.size, 2, none⟩ (.int .i64 (t + t))).setCell ⟨(w.heap.size + 1), 0, none⟩ (.int .i64 s)).setCell ⟨(w.heap.size + 1), 1, none⟩ (.int .i64 v)).setCell ⟨(w.heap.size + 1), 2, none⟩ (.int .i64 (t + t))).setCell ⟨(w.heap.size + 1), 3, none⟩ (.int .i64 (b + 1))) := ⟨_, rfl⟩
    have hf : Box4 wf (w.heap.size + 1) s v (t + t) (b + 1) := by rw [hwf]; exact (((((HR1.out).other (by omega) _)).other (by omega) _)).store _ _ _ _
    have hbf : Below w.heap.size w wf := by rw [hwf]; exact below_store4 ((((HB1.out).setCell (Nat.le_refl _) _)).setCell (Nat.le_refl _) _) (by first | exact Nat.le_refl _ | exact Nat.le_succ _) _ _ _ _
    obtain ⟨-, r0, r1, r2, r3, -⟩ := hf.cells
    rw [← hwf]
    exact end_ret (v := .tuple #[.agg #[.int .i64 s, .int .i64 v, .int .i64 (t + t), .int .i64 (b + 1)], .int .i64 0]) (by simp [results, Try.results18, go_sem, r0, r1, r2, r3]) ⟨rfl, hbf⟩
  · clear hT
    go_enter Try.func18, Try.ntmps18
    go_wp2_with (go_at_call 12; (refine (refMay_ok s v t b _ HM.out).mono ?_); rintro e w1 ⟨rfl, hb1⟩; have HB1 := Lib.hid (bthen (ba2 _ _ _) hb1); have HA1 := Lib.hid (HN.out.1.below hb1); have HR1 := Lib.hid (HN.out.2.below hb1); clear hb1; obtain ⟨lA, cA0, cA1, cA2, cA3, fA⟩ := (HA1.out).cells; have fA0 := fA 0; have fA1 := fA 1; have fA2 := fA 2; have fA3 := fA 3; clear fA; obtain ⟨lR, cR0, cR1, cR2, cR3, fR⟩ := (HR1.out).cells; have fR0 := fR 0; have fR1 := fR 1; have fR2 := fR 2; have fR3 := fR 3; clear fR; obtain ⟨-, e0, e1, e2, e3, -⟩ := (((HA1.out.s3 (b + 1)).s2 (t + t)).s2 60000).cells)
    obtain ⟨wf, hwf⟩ : ∃ wf, wf = (((((((w1.setCell ⟨w.heap.size, 3, none⟩ (.int .i64 (b + 1))).setCell ⟨w.heap.size, 2, none⟩ (.int .i64 (t + t))).setCell ⟨w.heap.size, 2, none⟩ (.int .i64 60000)).setCell ⟨(w.heap.size + 1), 0, none⟩ (.int .i64 s)).setCell ⟨(w.heap.size + 1), 1, none⟩ (.int .i64 v)).setCell ⟨(w.heap.size + 1), 2, none⟩ (.int .i64 60000)).setCell ⟨(w.heap.size + 1), 3, none⟩ (.int .i64 (b + 1))) := ⟨_, rfl⟩
    have hf : Box4 wf (w.heap.size + 1) s v 60000 (b + 1) := by rw [hwf]; exact (((((((HR1.out).other (by omega) _)).other (by omega) _)).other (by omega) _)).store _ _ _ _
    have hbf : Below w.heap.size w wf := by rw [hwf]; exact below_store4 ((((((HB1.out).setCell (Nat.le_refl _) _)).setCell (Nat.le_refl _) _)).setCell (Nat.le_refl _) _) (by first | exact Nat.le_refl _ | exact Nat.le_succ _) _ _ _ _
    obtain ⟨-, r0, r1, r2, r3, -⟩ := hf.cells
    rw [← hwf]
    exact end_ret (v := .tuple #[.agg #[.int .i64 s, .int .i64 v, .int .i64 60000, .int .i64 (b + 1)], .int .i64 0]) (by simp [results, Try.results18, go_sem, r0, r1, r2, r3]) ⟨rfl, hbf⟩

theorem refBack_form (s v t b : Int) (w : World) (hm : ¬ Tm s v t b) :
    Calls Try.prog 18 #[.agg #[.int .i64 s, .int .i64 v, .int .i64 t, .int .i64 b]] w fun e w' => e = .returned (.tuple #[.agg #[.int .i64 0, .int .i64 0, .int .i64 0, .int .i64 0], .int .i64 4]) ∧ Below w.heap.size w w' := by
  have HN := Lib.hid (two_boxes w s v t b)
  have HM := Lib.hid hm
  clear hm
  go_enter Try.func18, Try.ntmps18
  go_wp2_with (go_at_call 12; (refine (refMay_no s v t b _ HM.out).mono ?_); rintro e w1 ⟨rfl, hb1⟩; have HB1 := Lib.hid (bthen (ba2 _ _ _) hb1); have HA1 := Lib.hid (HN.out.1.below hb1); have HR1 := Lib.hid (HN.out.2.below hb1); clear hb1; obtain ⟨lA, cA0, cA1, cA2, cA3, fA⟩ := (HA1.out).cells; have fA0 := fA 0; have fA1 := fA 1; have fA2 := fA 2; have fA3 := fA 3; clear fA; obtain ⟨lR, cR0, cR1, cR2, cR3, fR⟩ := (HR1.out).cells; have fR0 := fR 0; have fR1 := fR 1; have fR2 := fR 2; have fR3 := fR 3; clear fR)
  obtain ⟨wf, hwf⟩ : ∃ wf, wf = ((((w1.setCell ⟨(w.heap.size + 1), 0, none⟩ (.int .i64 0)).setCell ⟨(w.heap.size + 1), 1, none⟩ (.int .i64 0)).setCell ⟨(w.heap.size + 1), 2, none⟩ (.int .i64 0)).setCell ⟨(w.heap.size + 1), 3, none⟩ (.int .i64 0)) := ⟨_, rfl⟩
  have hf : Box4 wf (w.heap.size + 1) 0 0 0 0 := by rw [hwf]; exact (HR1.out).store _ _ _ _
  have hbf : Below w.heap.size w wf := by rw [hwf]; exact below_store4 HB1.out (by first | exact Nat.le_refl _ | exact Nat.le_succ _) _ _ _ _
  obtain ⟨-, r0, r1, r2, r3, -⟩ := hf.cells
  rw [← hwf]
  exact end_ret (v := .tuple #[.agg #[.int .i64 0, .int .i64 0, .int .i64 0, .int .i64 0], .int .i64 4]) (by simp [results, Try.results18, go_sem, r0, r1, r2, r3]) ⟨rfl, hbf⟩

theorem refBack_full (s v t b : Int) (w : World) (hm : Tm s v t b) (hb : ¬ b < 12) :
    Calls Try.prog 18 #[.agg #[.int .i64 s, .int .i64 v, .int .i64 t, .int .i64 b]] w fun e w' => e = .returned (.tuple #[.agg #[.int .i64 0, .int .i64 0, .int .i64 0, .int .i64 0], .int .i64 9]) ∧ Below w.heap.size w w' := by
  obtain rfl : b = 12 := by have := hm.b1; omega
  have HN := Lib.hid (two_boxes w s v t 12)
  have HM := Lib.hid hm
  clear hm hb
  go_enter Try.func18, Try.ntmps18
  go_wp2_with (go_at_call 12; (refine (refMay_ok s v t 12 _ HM.out).mono ?_); rintro e w1 ⟨rfl, hb1⟩; have HB1 := Lib.hid (bthen (ba2 _ _ _) hb1); have HA1 := Lib.hid (HN.out.1.below hb1); have HR1 := Lib.hid (HN.out.2.below hb1); clear hb1; obtain ⟨lA, cA0, cA1, cA2, cA3, fA⟩ := (HA1.out).cells; have fA0 := fA 0; have fA1 := fA 1; have fA2 := fA 2; have fA3 := fA 3; clear fA; obtain ⟨lR, cR0, cR1, cR2, cR3, fR⟩ := (HR1.out).cells; have fR0 := fR 0; have fR1 := fR 1; have fR2 := fR 2; have fR3 := fR 3; clear fR)
  obtain ⟨wf, hwf⟩ : ∃ wf, wf = ((((w1.setCell ⟨(w.heap.size + 1), 0, none⟩ (.int .i64 0)).setCell ⟨(w.heap.size + 1), 1, none⟩ (.int .i64 0)).setCell ⟨(w.heap.size + 1), 2, none⟩ (.int .i64 0)).setCell ⟨(w.heap.size + 1), 3, none⟩ (.int .i64 0)) := ⟨_, rfl⟩
  have hf : Box4 wf (w.heap.size + 1) 0 0 0 0 := by rw [hwf]; exact (HR1.out).store _ _ _ _
  have hbf : Below w.heap.size w wf := by rw [hwf]; exact below_store4 HB1.out (by first | exact Nat.le_refl _ | exact Nat.le_succ _) _ _ _ _
  obtain ⟨-, r0, r1, r2, r3, -⟩ := hf.cells
  rw [← hwf]
  exact end_ret (v := .tuple #[.agg #[.int .i64 0, .int .i64 0, .int .i64 0, .int .i64 0], .int .i64 9]) (by simp [results, Try.results18, go_sem, r0, r1, r2, r3]) ⟨rfl, hbf⟩

end Go.Proofs.Ytoidpnmllmkaeaa
