/-
  Contracts of package rto, and of the document's: Next.
-/
import Derived.Test.YtoidpnmllmkaeaaRto2
namespace Go.Proofs.Ytoidpnmllmkaeaa
open Go.RowKit
set_option linter.unusedVariables false
set_option linter.unusedSimpArgs false

/-- two boxes are laid: the argument's and the answer's -/
theorem two_boxes (w : World) (s v t b : Int) : Box4 ((w.alloc (.cells #[.int .i64 s, .int .i64 v, .int .i64 t, .int .i64 b] 23)).alloc (.cells #[.int .i64 0, .int .i64 0, .int .i64 0, .int .i64 0] 23)) w.heap.size s v t b ∧ Box4 ((w.alloc (.cells #[.int .i64 s, .int .i64 v, .int .i64 t, .int .i64 b] 23)).alloc (.cells #[.int .i64 0, .int .i64 0, .int .i64 0, .int .i64 0] 23)) (w.heap.size + 1) 0 0 0 0 :=
  ⟨(box4_new w s v t b).below (ba1 _ _), by simpa using box4_new (w.alloc (.cells #[.int .i64 s, .int .i64 v, .int .i64 t, .int .i64 b] 23)) 0 0 0 0⟩

theorem refMay_ok (s v t b : Int) (w : World) (h : Tm s v t b) :
    Calls Try.prog 12 #[.agg #[.int .i64 s, .int .i64 v, .int .i64 t, .int .i64 b]] w fun e w' => e = .returned (.bool true) ∧ Below w.heap.size w w' := by
  obtain ⟨a0, a1, a2, a3, a4, a5, a6, a7⟩ := h
  go_enter Try.func12, Try.ntmps12
  go_wp2
  go_ret
  exact ⟨rfl, ba1 _ _⟩
theorem refMay_no (s v t b : Int) (w : World) (h : ¬ Tm s v t b) :
    Calls Try.prog 12 #[.agg #[.int .i64 s, .int .i64 v, .int .i64 t, .int .i64 b]] w fun e w' => e = .returned (.bool false) ∧ Below w.heap.size w w' := by
  have H : s < 0 ∨ 0 ≤ s ∧ (8388608 < s ∨ s ≤ 8388608 ∧ (v < 0 ∨ 0 ≤ v ∧ (4194304 < v ∨ v ≤ 4194304 ∧ (t < 200 ∨ 200 ≤ t ∧ (60000 < t ∨ t ≤ 60000 ∧ (b < 0 ∨ 0 ≤ b ∧ 12 < b)))))) := by
    have : ¬ (0 ≤ s ∧ s ≤ 8388608 ∧ 0 ≤ v ∧ v ≤ 4194304 ∧ 200 ≤ t ∧ t ≤ 60000 ∧ 0 ≤ b ∧ b ≤ 12) := fun ⟨a0, a1, a2, a3, a4, a5, a6, a7⟩ => h ⟨a0, a1, a2, a3, a4, a5, a6, a7⟩
    omega
  clear h
  rcases H with H | ⟨H0, H | ⟨H1, H | ⟨H2, H | ⟨H3, H | ⟨H4, H | ⟨H5, H | ⟨H6, H⟩⟩⟩⟩⟩⟩⟩
  all_goals
    go_enter Try.func12, Try.ntmps12
    go_wp2
    go_ret
    first | exact ⟨rfl, ba1 _ _⟩ | exact ⟨by simp; omega, ba1 _ _⟩

set_option maxHeartbeats 4000000 in
theorem next_ok (s v t b x S V T : Int) (w : World) (hm : Tm s v t b) (hx : 0 ≤ x ∧ x ≤ 1048576) (hS : S = srtt' s x) (hV : V = var' s v x) (hT : T = wait' s v x) :
    Calls Try.prog 15 #[.agg #[.int .i64 s, .int .i64 v, .int .i64 t, .int .i64 b], .int .i64 x] w fun e w' => e = .returned (.tuple #[.agg #[.int .i64 S, .int .i64 V, .int .i64 T, .int .i64 0], .int .i64 0]) ∧ Below w.heap.size w w' := by
  have HN := Lib.hid (two_boxes w s v t b)
  have HM := Lib.hid hm
  have HX := Lib.hid hx
  have bS := srtt'_bd hm hx.1 hx.2
  have bV := var'_bd hm hx.1 hx.2
  obtain ⟨hx0, hx1⟩ := hx
  obtain ⟨s0, s1, v0, v1, -, -, -, -⟩ := hm
  rw [show wait' s v x = waitOf S V by rw [hS, hV]; rfl] at hT
  rw [← hS] at bS
  rw [← hV] at bV
  rw [show srtt' s x = s + (x - s / 8) from rfl] at hS
  have hc : -(x - s / 8) ≤ x - s / 8 ∨ x - s / 8 < -(x - s / 8) := by omega
  rcases hc with hc | hc
  · rw [show var' s v x = v + (x - s / 8) - v / 4 by unfold var'; omega] at hV
    subst hS hV
    have HT := Lib.hid hT
    clear hT
    go_enter Try.func15, Try.ntmps15
    go_wp2_with (first | (go_at_call 11; (refine (may_ok s v t b _ HM.out).mono ?_); rintro e w1 ⟨rfl, hb1⟩; have HB1 := Lib.hid (bthen (ba2 _ _ _) hb1); have HA1 := Lib.hid (HN.out.1.below hb1); have HR1 := Lib.hid (HN.out.2.below hb1); clear hb1; obtain ⟨lA, cA0, cA1, cA2, cA3, fA⟩ := (HA1.out).cells; have fA0 := fA 0; have fA1 := fA 1; have fA2 := fA 2; have fA3 := fA 3; clear fA; obtain ⟨lR, cR0, cR1, cR2, cR3, fR⟩ := (HR1.out).cells; have fR0 := fR 0; have fR1 := fR 1; have fR2 := fR 2; have fR3 := fR 3; clear fR) | (go_at_call 22; (refine (isTime_ok x _ HX.out).mono ?_); rintro e w2 ⟨rfl, rfl⟩) | (go_at_call 23; (refine (begun_any (s + (x - s / 8)) (v + (x - s / 8) - v / 4) T _ (by omega) (by omega) (by omega) (by omega) HT.out).mono ?_); rintro e w3 ⟨rfl, hb3⟩; have HB3 := Lib.hid (bthen HB1.out hb3); have HR3 := Lib.hid (HR1.out.below hb3); clear hb3; obtain ⟨lS, cS0, cS1, cS2, cS3, fS⟩ := (HR3.out).cells; have fS0 := fS 0; have fS1 := fS 1; have fS2 := fS 2; have fS3 := fS 3; clear fS))
    obtain ⟨wf, hwf⟩ : ∃ wf, wf = ((((w3.setCell ⟨(w.heap.size + 1), 0, none⟩ (.int .i64 (s + (x - s / 8)))).setCell ⟨(w.heap.size + 1), 1, none⟩ (.int .i64 (v + (x - s / 8) - v / 4))).setCell ⟨(w.heap.size + 1), 2, none⟩ (.int .i64 T)).setCell ⟨(w.heap.size + 1), 3, none⟩ (.int .i64 0)) := ⟨_, rfl⟩
    have hf : Box4 wf (w.heap.size + 1) (s + (x - s / 8)) (v + (x - s / 8) - v / 4) T 0 := by rw [hwf]; exact (HR3.out).store _ _ _ _
    have hbf : Below w.heap.size w wf := by rw [hwf]; exact below_store4 HB3.out (by first | exact Nat.le_refl _ | exact Nat.le_succ _) _ _ _ _
    obtain ⟨-, r0, r1, r2, r3, -⟩ := hf.cells
    rw [← hwf]
    exact end_ret (v := .tuple #[.agg #[.int .i64 (s + (x - s / 8)), .int .i64 (v + (x - s / 8) - v / 4), .int .i64 T, .int .i64 0], .int .i64 0]) (by simp [results, Try.results15, go_sem, r0, r1, r2, r3]) ⟨rfl, hbf⟩
  · rw [show var' s v x = v + -(x - s / 8) - v / 4 by unfold var'; omega] at hV
    subst hS hV
    have HT := Lib.hid hT
    clear hT
    go_enter Try.func15, Try.ntmps15
    go_wp2_with (first | (go_at_call 11; (refine (may_ok s v t b _ HM.out).mono ?_); rintro e w1 ⟨rfl, hb1⟩; have HB1 := Lib.hid (bthen (ba2 _ _ _) hb1); have HA1 := Lib.hid (HN.out.1.below hb1); have HR1 := Lib.hid (HN.out.2.below hb1); clear hb1; obtain ⟨lA, cA0, cA1, cA2, cA3, fA⟩ := (HA1.out).cells; have fA0 := fA 0; have fA1 := fA 1; have fA2 := fA 2; have fA3 := fA 3; clear fA; obtain ⟨lR, cR0, cR1, cR2, cR3, fR⟩ := (HR1.out).cells; have fR0 := fR 0; have fR1 := fR 1; have fR2 := fR 2; have fR3 := fR 3; clear fR) | (go_at_call 22; (refine (isTime_ok x _ HX.out).mono ?_); rintro e w2 ⟨rfl, rfl⟩) | (go_at_call 23; (refine (begun_any (s + (x - s / 8)) (v + -(x - s / 8) - v / 4) T _ (by omega) (by omega) (by omega) (by omega) HT.out).mono ?_); rintro e w3 ⟨rfl, hb3⟩; have HB3 := Lib.hid (bthen HB1.out hb3); have HR3 := Lib.hid (HR1.out.below hb3); clear hb3; obtain ⟨lS, cS0, cS1, cS2, cS3, fS⟩ := (HR3.out).cells; have fS0 := fS 0; have fS1 := fS 1; have fS2 := fS 2; have fS3 := fS 3; clear fS))
    obtain ⟨wf, hwf⟩ : ∃ wf, wf = ((((w3.setCell ⟨(w.heap.size + 1), 0, none⟩ (.int .i64 (s + (x - s / 8)))).setCell ⟨(w.heap.size + 1), 1, none⟩ (.int .i64 (v + -(x - s / 8) - v / 4))).setCell ⟨(w.heap.size + 1), 2, none⟩ (.int .i64 T)).setCell ⟨(w.heap.size + 1), 3, none⟩ (.int .i64 0)) := ⟨_, rfl⟩
    have hf : Box4 wf (w.heap.size + 1) (s + (x - s / 8)) (v + -(x - s / 8) - v / 4) T 0 := by rw [hwf]; exact (HR3.out).store _ _ _ _
    have hbf : Below w.heap.size w wf := by rw [hwf]; exact below_store4 HB3.out (by first | exact Nat.le_refl _ | exact Nat.le_succ _) _ _ _ _
    obtain ⟨-, r0, r1, r2, r3, -⟩ := hf.cells
    rw [← hwf]
    exact end_ret (v := .tuple #[.agg #[.int .i64 (s + (x - s / 8)), .int .i64 (v + -(x - s / 8) - v / 4), .int .i64 T, .int .i64 0], .int .i64 0]) (by simp [results, Try.results15, go_sem, r0, r1, r2, r3]) ⟨rfl, hbf⟩

theorem next_form (s v t b x : Int) (w : World) (hm : ¬ Tm s v t b) :
    Calls Try.prog 15 #[.agg #[.int .i64 s, .int .i64 v, .int .i64 t, .int .i64 b], .int .i64 x] w fun e w' => e = .returned (.tuple #[.agg #[.int .i64 0, .int .i64 0, .int .i64 0, .int .i64 0], .int .i64 4]) ∧ Below w.heap.size w w' := by
  have HN := Lib.hid (two_boxes w s v t b)
  have HM := Lib.hid hm
  clear hm
  go_enter Try.func15, Try.ntmps15
  go_wp2_with (go_at_call 11; (refine (may_no s v t b _ HM.out).mono ?_); rintro e w1 ⟨rfl, hb1⟩; have HB1 := Lib.hid (bthen (ba2 _ _ _) hb1); have HA1 := Lib.hid (HN.out.1.below hb1); have HR1 := Lib.hid (HN.out.2.below hb1); clear hb1; obtain ⟨lA, cA0, cA1, cA2, cA3, fA⟩ := (HA1.out).cells; have fA0 := fA 0; have fA1 := fA 1; have fA2 := fA 2; have fA3 := fA 3; clear fA; obtain ⟨lR, cR0, cR1, cR2, cR3, fR⟩ := (HR1.out).cells; have fR0 := fR 0; have fR1 := fR 1; have fR2 := fR 2; have fR3 := fR 3; clear fR)
  obtain ⟨wf, hwf⟩ : ∃ wf, wf = ((((w1.setCell ⟨(w.heap.size + 1), 0, none⟩ (.int .i64 0)).setCell ⟨(w.heap.size + 1), 1, none⟩ (.int .i64 0)).setCell ⟨(w.heap.size + 1), 2, none⟩ (.int .i64 0)).setCell ⟨(w.heap.size + 1), 3, none⟩ (.int .i64 0)) := ⟨_, rfl⟩
  have hf : Box4 wf (w.heap.size + 1) 0 0 0 0 := by rw [hwf]; exact (HR1.out).store _ _ _ _
  have hbf : Below w.heap.size w wf := by rw [hwf]; exact below_store4 HB1.out (by first | exact Nat.le_refl _ | exact Nat.le_succ _) _ _ _ _
  obtain ⟨-, r0, r1, r2, r3, -⟩ := hf.cells
  rw [← hwf]
  exact end_ret (v := .tuple #[.agg #[.int .i64 0, .int .i64 0, .int .i64 0, .int .i64 0], .int .i64 4]) (by simp [results, Try.results15, go_sem, r0, r1, r2, r3]) ⟨rfl, hbf⟩

theorem next_range (s v t b x : Int) (w : World) (hm : Tm s v t b) (hx : ¬ (0 ≤ x ∧ x ≤ 1048576)) :
    Calls Try.prog 15 #[.agg #[.int .i64 s, .int .i64 v, .int .i64 t, .int .i64 b], .int .i64 x] w fun e w' => e = .returned (.tuple #[.agg #[.int .i64 0, .int .i64 0, .int .i64 0, .int .i64 0], .int .i64 2]) ∧ Below w.heap.size w w' := by
  have HN := Lib.hid (two_boxes w s v t b)
  have HM := Lib.hid hm
  clear hm
  have HX := Lib.hid hx
  clear hx
  go_enter Try.func15, Try.ntmps15
  go_wp2_with (first | (go_at_call 11; (refine (may_ok s v t b _ HM.out).mono ?_); rintro e w1 ⟨rfl, hb1⟩; have HB1 := Lib.hid (bthen (ba2 _ _ _) hb1); have HA1 := Lib.hid (HN.out.1.below hb1); have HR1 := Lib.hid (HN.out.2.below hb1); clear hb1; obtain ⟨lA, cA0, cA1, cA2, cA3, fA⟩ := (HA1.out).cells; have fA0 := fA 0; have fA1 := fA 1; have fA2 := fA 2; have fA3 := fA 3; clear fA; obtain ⟨lR, cR0, cR1, cR2, cR3, fR⟩ := (HR1.out).cells; have fR0 := fR 0; have fR1 := fR 1; have fR2 := fR 2; have fR3 := fR 3; clear fR) | (go_at_call 22; (refine (isTime_no x _ HX.out).mono ?_); rintro e w2 ⟨rfl, rfl⟩))
  obtain ⟨wf, hwf⟩ : ∃ wf, wf = ((((w1.setCell ⟨(w.heap.size + 1), 0, none⟩ (.int .i64 0)).setCell ⟨(w.heap.size + 1), 1, none⟩ (.int .i64 0)).setCell ⟨(w.heap.size + 1), 2, none⟩ (.int .i64 0)).setCell ⟨(w.heap.size + 1), 3, none⟩ (.int .i64 0)) := ⟨_, rfl⟩
  have hf : Box4 wf (w.heap.size + 1) 0 0 0 0 := by rw [hwf]; exact (HR1.out).store _ _ _ _
  have hbf : Below w.heap.size w wf := by rw [hwf]; exact below_store4 HB1.out (by first | exact Nat.le_refl _ | exact Nat.le_succ _) _ _ _ _
  obtain ⟨-, r0, r1, r2, r3, -⟩ := hf.cells
  rw [← hwf]
  exact end_ret (v := .tuple #[.agg #[.int .i64 0, .int .i64 0, .int .i64 0, .int .i64 0], .int .i64 2]) (by simp [results, Try.results15, go_sem, r0, r1, r2, r3]) ⟨rfl, hbf⟩

set_option maxHeartbeats 4000000 in
theorem refNext_ok (s v t b x S V T : Int) (w : World) (hm : Tm s v t b) (hx : 0 ≤ x ∧ x ≤ 1048576) (hS : S = srtt' s x) (hV : V = var' s v x) (hT : T = wait' s v x) :
    Calls Try.prog 16 #[.agg #[.int .i64 s, .int .i64 v, .int .i64 t, .int .i64 b], .int .i64 x] w fun e w' => e = .returned (.tuple #[.agg #[.int .i64 S, .int .i64 V, .int .i64 T, .int .i64 0], .int .i64 0]) ∧ Below w.heap.size w w' := by
  have HN := Lib.hid (two_boxes w s v t b)
  have HM := Lib.hid hm
  have HX := Lib.hid hx
  have bS := srtt'_bd hm hx.1 hx.2
  have bV := var'_bd hm hx.1 hx.2
  obtain ⟨hx0, hx1⟩ := hx
  obtain ⟨s0, s1, v0, v1, -, -, -, -⟩ := hm
  rw [show wait' s v x = waitOf S V by rw [hS, hV]; rfl] at hT
  rw [← hS] at bS
  rw [← hV] at bV
  rw [show srtt' s x = s + (x - s / 8) from rfl] at hS
  have hc : 0 ≤ x - s / 8 ∨ x - s / 8 < 0 := by omega
  rcases hc with hc | hc
  · rw [show var' s v x = v - v / 4 + (x - s / 8) by unfold var'; omega] at hV
    subst hS hV
    have HT := Lib.hid hT
    clear hT
    go_enter Try.func16, Try.ntmps16
    go_wp2_with (first | (go_at_call 12; (refine (refMay_ok s v t b _ HM.out).mono ?_); rintro e w1 ⟨rfl, hb1⟩; have HB1 := Lib.hid (bthen (ba2 _ _ _) hb1); have HA1 := Lib.hid (HN.out.1.below hb1); have HR1 := Lib.hid (HN.out.2.below hb1); clear hb1; obtain ⟨lA, cA0, cA1, cA2, cA3, fA⟩ := (HA1.out).cells; have fA0 := fA 0; have fA1 := fA 1; have fA2 := fA 2; have fA3 := fA 3; clear fA; obtain ⟨lR, cR0, cR1, cR2, cR3, fR⟩ := (HR1.out).cells; have fR0 := fR 0; have fR1 := fR 1; have fR2 := fR 2; have fR3 := fR 3; clear fR) | (go_at_call 24; (refine (waits_any (s + (x - s / 8)) (v - v / 4 + (x - s / 8)) T _ (by omega) (by omega) (by omega) (by omega) HT.out).mono ?_); rintro e w3 ⟨rfl, hb3⟩; have HB3 := Lib.hid (bthen HB1.out hb3); have HR3 := Lib.hid (HR1.out.below hb3); clear hb3; obtain ⟨lS, cS0, cS1, cS2, cS3, fS⟩ := (HR3.out).cells; have fS0 := fS 0; have fS1 := fS 1; have fS2 := fS 2; have fS3 := fS 3; clear fS))
    obtain ⟨wf, hwf⟩ : ∃ wf, wf = ((((w3.setCell ⟨(w.heap.size + 1), 0, none⟩ (.int .i64 (s + (x - s / 8)))).setCell ⟨(w.heap.size + 1), 1, none⟩ (.int .i64 (v - v / 4 + (x - s / 8)))).setCell ⟨(w.heap.size + 1), 2, none⟩ (.int .i64 T)).setCell ⟨(w.heap.size + 1), 3, none⟩ (.int .i64 0)) := ⟨_, rfl⟩
    have hf : Box4 wf (w.heap.size + 1) (s + (x - s / 8)) (v - v / 4 + (x - s / 8)) T 0 := by rw [hwf]; exact (HR3.out).store _ _ _ _
    have hbf : Below w.heap.size w wf := by rw [hwf]; exact below_store4 HB3.out (by first | exact Nat.le_refl _ | exact Nat.le_succ _) _ _ _ _
    obtain ⟨-, r0, r1, r2, r3, -⟩ := hf.cells
    rw [← hwf]
    exact end_ret (v := .tuple #[.agg #[.int .i64 (s + (x - s / 8)), .int .i64 (v - v / 4 + (x - s / 8)), .int .i64 T, .int .i64 0], .int .i64 0]) (by simp [results, Try.results16, go_sem, r0, r1, r2, r3]) ⟨rfl, hbf⟩
  · rw [show var' s v x = v - v / 4 + -(x - s / 8) by unfold var'; omega] at hV
    subst hS hV
    have HT := Lib.hid hT
    clear hT
    go_enter Try.func16, Try.ntmps16
    go_wp2_with (first | (go_at_call 12; (refine (refMay_ok s v t b _ HM.out).mono ?_); rintro e w1 ⟨rfl, hb1⟩; have HB1 := Lib.hid (bthen (ba2 _ _ _) hb1); have HA1 := Lib.hid (HN.out.1.below hb1); have HR1 := Lib.hid (HN.out.2.below hb1); clear hb1; obtain ⟨lA, cA0, cA1, cA2, cA3, fA⟩ := (HA1.out).cells; have fA0 := fA 0; have fA1 := fA 1; have fA2 := fA 2; have fA3 := fA 3; clear fA; obtain ⟨lR, cR0, cR1, cR2, cR3, fR⟩ := (HR1.out).cells; have fR0 := fR 0; have fR1 := fR 1; have fR2 := fR 2; have fR3 := fR 3; clear fR) | (go_at_call 24; (refine (waits_any (s + (x - s / 8)) (v - v / 4 + -(x - s / 8)) T _ (by omega) (by omega) (by omega) (by omega) HT.out).mono ?_); rintro e w3 ⟨rfl, hb3⟩; have HB3 := Lib.hid (bthen HB1.out hb3); have HR3 := Lib.hid (HR1.out.below hb3); clear hb3; obtain ⟨lS, cS0, cS1, cS2, cS3, fS⟩ := (HR3.out).cells; have fS0 := fS 0; have fS1 := fS 1; have fS2 := fS 2; have fS3 := fS 3; clear fS))
    obtain ⟨wf, hwf⟩ : ∃ wf, wf = ((((w3.setCell ⟨(w.heap.size + 1), 0, none⟩ (.int .i64 (s + (x - s / 8)))).setCell ⟨(w.heap.size + 1), 1, none⟩ (.int .i64 (v - v / 4 + -(x - s / 8)))).setCell ⟨(w.heap.size + 1), 2, none⟩ (.int .i64 T)).setCell ⟨(w.heap.size + 1), 3, none⟩ (.int .i64 0)) := ⟨_, rfl⟩
    have hf : Box4 wf (w.heap.size + 1) (s + (x - s / 8)) (v - v / 4 + -(x - s / 8)) T 0 := by rw [hwf]; exact (HR3.out).store _ _ _ _
    have hbf : Below w.heap.size w wf := by rw [hwf]; exact below_store4 HB3.out (by first | exact Nat.le_refl _ | exact Nat.le_succ _) _ _ _ _
    obtain ⟨-, r0, r1, r2, r3, -⟩ := hf.cells
    rw [← hwf]
    exact end_ret (v := .tuple #[.agg #[.int .i64 (s + (x - s / 8)), .int .i64 (v - v / 4 + -(x - s / 8)), .int .i64 T, .int .i64 0], .int .i64 0]) (by simp [results, Try.results16, go_sem, r0, r1, r2, r3]) ⟨rfl, hbf⟩

theorem refNext_form (s v t b x : Int) (w : World) (hm : ¬ Tm s v t b) :
    Calls Try.prog 16 #[.agg #[.int .i64 s, .int .i64 v, .int .i64 t, .int .i64 b], .int .i64 x] w fun e w' => e = .returned (.tuple #[.agg #[.int .i64 0, .int .i64 0, .int .i64 0, .int .i64 0], .int .i64 4]) ∧ Below w.heap.size w w' := by
  have HN := Lib.hid (two_boxes w s v t b)
  have HM := Lib.hid hm
  clear hm
  go_enter Try.func16, Try.ntmps16
  go_wp2_with (go_at_call 12; (refine (refMay_no s v t b _ HM.out).mono ?_); rintro e w1 ⟨rfl, hb1⟩; have HB1 := Lib.hid (bthen (ba2 _ _ _) hb1); have HA1 := Lib.hid (HN.out.1.below hb1); have HR1 := Lib.hid (HN.out.2.below hb1); clear hb1; obtain ⟨lA, cA0, cA1, cA2, cA3, fA⟩ := (HA1.out).cells; have fA0 := fA 0; have fA1 := fA 1; have fA2 := fA 2; have fA3 := fA 3; clear fA; obtain ⟨lR, cR0, cR1, cR2, cR3, fR⟩ := (HR1.out).cells; have fR0 := fR 0; have fR1 := fR 1; have fR2 := fR 2; have fR3 := fR 3; clear fR)
  obtain ⟨wf, hwf⟩ : ∃ wf, wf = ((((w1.setCell ⟨(w.heap.size + 1), 0, none⟩ (.int .i64 0)).setCell ⟨(w.heap.size + 1), 1, none⟩ (.int .i64 0)).setCell ⟨(w.heap.size + 1), 2, none⟩ (.int .i64 0)).setCell ⟨(w.heap.size + 1), 3, none⟩ (.int .i64 0)) := ⟨_, rfl⟩
  have hf : Box4 wf (w.heap.size + 1) 0 0 0 0 := by rw [hwf]; exact (HR1.out).store _ _ _ _
  have hbf : Below w.heap.size w wf := by rw [hwf]; exact below_store4 HB1.out (by first | exact Nat.le_refl _ | exact Nat.le_succ _) _ _ _ _
  obtain ⟨-, r0, r1, r2, r3, -⟩ := hf.cells
  rw [← hwf]
  exact end_ret (v := .tuple #[.agg #[.int .i64 0, .int .i64 0, .int .i64 0, .int .i64 0], .int .i64 4]) (by simp [results, Try.results16, go_sem, r0, r1, r2, r3]) ⟨rfl, hbf⟩

theorem refNext_range (s v t b x : Int) (w : World) (hm : Tm s v t b) (hx : ¬ (0 ≤ x ∧ x ≤ 1048576)) :
    Calls Try.prog 16 #[.agg #[.int .i64 s, .int .i64 v, .int .i64 t, .int .i64 b], .int .i64 x] w fun e w' => e = .returned (.tuple #[.agg #[.int .i64 0, .int .i64 0, .int .i64 0, .int .i64 0], .int .i64 2]) ∧ Below w.heap.size w w' := by
  have HN := Lib.hid (two_boxes w s v t b)
  have HM := Lib.hid hm
  clear hm
  have H2 : x < 0 ∨ 0 ≤ x ∧ 1048576 < x := by omega
  clear hx
  rcases H2 with H2 | ⟨H2, H3⟩
  all_goals
    go_enter Try.func16, Try.ntmps16
    go_wp2_with (go_at_call 12; (refine (refMay_ok s v t b _ HM.out).mono ?_); rintro e w1 ⟨rfl, hb1⟩; have HB1 := Lib.hid (bthen (ba2 _ _ _) hb1); have HA1 := Lib.hid (HN.out.1.below hb1); have HR1 := Lib.hid (HN.out.2.below hb1); clear hb1; obtain ⟨lA, cA0, cA1, cA2, cA3, fA⟩ := (HA1.out).cells; have fA0 := fA 0; have fA1 := fA 1; have fA2 := fA 2; have fA3 := fA 3; clear fA; obtain ⟨lR, cR0, cR1, cR2, cR3, fR⟩ := (HR1.out).cells; have fR0 := fR 0; have fR1 := fR 1; have fR2 := fR 2; have fR3 := fR 3; clear fR)
    obtain ⟨wf, hwf⟩ : ∃ wf, wf = ((((w1.setCell ⟨(w.heap.size + 1), 0, none⟩ (.int .i64 0)).setCell ⟨(w.heap.size + 1), 1, none⟩ (.int .i64 0)).setCell ⟨(w.heap.size + 1), 2, none⟩ (.int .i64 0)).setCell ⟨(w.heap.size + 1), 3, none⟩ (.int .i64 0)) := ⟨_, rfl⟩
    have hf : Box4 wf (w.heap.size + 1) 0 0 0 0 := by rw [hwf]; exact (HR1.out).store _ _ _ _
    have hbf : Below w.heap.size w wf := by rw [hwf]; exact below_store4 HB1.out (by first | exact Nat.le_refl _ | exact Nat.le_succ _) _ _ _ _
    obtain ⟨-, r0, r1, r2, r3, -⟩ := hf.cells
    rw [← hwf]
    exact end_ret (v := .tuple #[.agg #[.int .i64 0, .int .i64 0, .int .i64 0, .int .i64 0], .int .i64 2]) (by simp [results, Try.results16, go_sem, r0, r1, r2, r3]) ⟨rfl, hbf⟩

end Go.Proofs.Ytoidpnmllmkaeaa
