/-
  Contracts of package rto, and of the document's: begun, First, Next, Back.
-/
import Derived.Test.YtoidpnmllmkaeaaRto
namespace Go.Proofs.Ytoidpnmllmkaeaa
open Go.RowKit
set_option linter.unusedVariables false
set_option linter.unusedSimpArgs false

theorem waitOf_cases {s v t : Int} (h : t = waitOf s v) : (s / 8 + v < 200 ∧ t = 200) ∨ (200 ≤ s / 8 + v ∧ s / 8 + v ≤ 60000 ∧ t = s / 8 + v) ∨ (200 ≤ s / 8 + v ∧ 60000 < s / 8 + v ∧ t = 60000) := by
  unfold waitOf at h; omega

theorem begun_any (s v t : Int) (w : World) (h0 : 0 ≤ s) (h1 : s ≤ 8388608) (h2 : 0 ≤ v) (h3 : v ≤ 4194304) (ht : t = waitOf s v) :
    Calls Try.prog 23 #[.int .i64 s, .int .i64 v] w fun e w' => e = .returned (.agg #[.int .i64 s, .int .i64 v, .int .i64 t, .int .i64 0]) ∧ Below w.heap.size w w' := by
  rcases waitOf_cases ht with ⟨k0, rfl⟩ | ⟨k0, k1, rfl⟩ | ⟨k0, k1, rfl⟩
  all_goals
    clear ht
    go_enter Try.func23, Try.ntmps23
    go_wp2
    exact end_ret (v := .agg #[.int .i64 s, .int .i64 v, .int .i64 _, .int .i64 0]) (by simp [results, Try.results23, go_sem]; try rfl) ⟨rfl, ba1 _ _⟩

theorem waits_any (s v t : Int) (w : World) (h0 : 0 ≤ s) (h1 : s ≤ 8388608) (h2 : 0 ≤ v) (h3 : v ≤ 4194304) (ht : t = waitOf s v) :
    Calls Try.prog 24 #[.int .i64 s, .int .i64 v] w fun e w' => e = .returned (.agg #[.int .i64 s, .int .i64 v, .int .i64 t, .int .i64 0]) ∧ Below w.heap.size w w' := by
  rcases waitOf_cases ht with ⟨k0, rfl⟩ | ⟨k0, k1, rfl⟩ | ⟨k0, k1, rfl⟩
  all_goals
    clear ht
    go_enter Try.func24, Try.ntmps24
    go_wp2
    exact end_ret (v := .agg #[.int .i64 s, .int .i64 v, .int .i64 _, .int .i64 0]) (by simp [results, Try.results24, go_sem]; try rfl) ⟨rfl, ba1 _ _⟩

theorem first_ok (x t : Int) (w : World) (h0 : 0 ≤ x) (h1 : x ≤ 1048576) (ht : t = waitOf (8 * x) (2 * x)) :
    Calls Try.prog 13 #[.int .i64 x] w fun e w' => e = .returned (.tuple #[.agg #[.int .i64 (8 * x), .int .i64 (2 * x), .int .i64 t, .int .i64 0], .int .i64 0]) ∧ Below w.heap.size w w' := by
  have HT := Lib.hid ht
  have HX : Hid (0 ≤ x ∧ x ≤ 1048576) := Lib.hid ⟨h0, h1⟩
  have HN := Lib.hid (box4_new w 0 0 0 0)
  clear ht
  go_enter Try.func13, Try.ntmps13
  go_wp2_with (first | (go_at_call 22; (refine (isTime_ok x _ HX.out).mono ?_); rintro e w2 ⟨rfl, rfl⟩) | (go_at_call 23; (refine (begun_any (8 * x) (2 * x) t _ (by omega) (by omega) (by omega) (by omega) HT.out).mono ?_); rintro e w1 ⟨rfl, hb1⟩; have HB1 := Lib.hid (bthen (ba1 _ _) hb1); have HR1 := Lib.hid (HN.out.below hb1); clear hb1; obtain ⟨lR, cR0, cR1, cR2, cR3, fR⟩ := (HR1.out).cells; have fR0 := fR 0; have fR1 := fR 1; have fR2 := fR 2; have fR3 := fR 3; clear fR))
  obtain ⟨wf, hwf⟩ : ∃ wf, wf = ((((w1.setCell ⟨w.heap.size, 0, none⟩ (.int .i64 (8 * x))).setCell ⟨w.heap.size, 1, none⟩ (.int .i64 (2 * x))).setCell ⟨w.heap.size, 2, none⟩ (.int .i64 t)).setCell ⟨w.heap.size, 3, none⟩ (.int .i64 0)) := ⟨_, rfl⟩
  have hf : Box4 wf w.heap.size (8 * x) (2 * x) t 0 := by rw [hwf]; exact (HR1.out).store _ _ _ _
  have hbf : Below w.heap.size w wf := by rw [hwf]; exact below_store4 HB1.out (by first | exact Nat.le_refl _ | exact Nat.le_succ _) _ _ _ _
  obtain ⟨-, r0, r1, r2, r3, -⟩ := hf.cells
  rw [← hwf]
  exact end_ret (v := .tuple #[.agg #[.int .i64 (8 * x), .int .i64 (2 * x), .int .i64 t, .int .i64 0], .int .i64 0]) (by simp [results, Try.results13, go_sem, r0, r1, r2, r3]) ⟨rfl, hbf⟩

theorem first_no (x : Int) (w : World) (h : ¬ (0 ≤ x ∧ x ≤ 1048576)) :
    Calls Try.prog 13 #[.int .i64 x] w fun e w' => e = .returned (.tuple #[.agg #[.int .i64 0, .int .i64 0, .int .i64 0, .int .i64 0], .int .i64 2]) ∧ Below w.heap.size w w' := by
  have HX := Lib.hid h
  clear h
  go_enter Try.func13, Try.ntmps13
  go_wp2_with (go_at_call 22; (refine (isTime_no x _ HX.out).mono ?_); rintro e w2 ⟨rfl, rfl⟩)
  exact end_ret (v := .tuple #[.agg #[.int .i64 0, .int .i64 0, .int .i64 0, .int .i64 0], .int .i64 2]) (by simp [results, Try.results13, go_sem]; try rfl) ⟨rfl, ba1 _ _⟩

theorem refFirst_ok (x t : Int) (w : World) (h0 : 0 ≤ x) (h1 : x ≤ 1048576) (ht : t = waitOf (8 * x) (2 * x)) :
    Calls Try.prog 14 #[.int .i64 x] w fun e w' => e = .returned (.tuple #[.agg #[.int .i64 (8 * x), .int .i64 (2 * x), .int .i64 t, .int .i64 0], .int .i64 0]) ∧ Below w.heap.size w w' := by
  have HT := Lib.hid ht
  have HX : Hid (0 ≤ x ∧ x ≤ 1048576) := Lib.hid ⟨h0, h1⟩
  have HN := Lib.hid (box4_new w 0 0 0 0)
  clear ht
  go_enter Try.func14, Try.ntmps14
  go_wp2_with (go_at_call 24; (refine (waits_any (8 * x) (2 * x) t _ (by omega) (by omega) (by omega) (by omega) HT.out).mono ?_); rintro e w1 ⟨rfl, hb1⟩; have HB1 := Lib.hid (bthen (ba1 _ _) hb1); have HR1 := Lib.hid (HN.out.below hb1); clear hb1; obtain ⟨lR, cR0, cR1, cR2, cR3, fR⟩ := (HR1.out).cells; have fR0 := fR 0; have fR1 := fR 1; have fR2 := fR 2; have fR3 := fR 3; clear fR)
  obtain ⟨wf, hwf⟩ : ∃ wf, wf = ((((w1.setCell ⟨w.heap.size, 0, none⟩ (.int .i64 (8 * x))).setCell ⟨w.heap.size, 1, none⟩ (.int .i64 (2 * x))).setCell ⟨w.heap.size, 2, none⟩ (.int .i64 t)).setCell ⟨w.heap.size, 3, none⟩ (.int .i64 0)) := ⟨_, rfl⟩
  have hf : Box4 wf w.heap.size (8 * x) (2 * x) t 0 := by rw [hwf]; exact (HR1.out).store _ _ _ _
  have hbf : Below w.heap.size w wf := by rw [hwf]; exact below_store4 HB1.out (by first | exact Nat.le_refl _ | exact Nat.le_succ _) _ _ _ _
  obtain ⟨-, r0, r1, r2, r3, -⟩ := hf.cells
  rw [← hwf]
  exact end_ret (v := .tuple #[.agg #[.int .i64 (8 * x), .int .i64 (2 * x), .int .i64 t, .int .i64 0], .int .i64 0]) (by simp [results, Try.results14, go_sem, r0, r1, r2, r3]) ⟨rfl, hbf⟩

theorem refFirst_no (x : Int) (w : World) (h : ¬ (0 ≤ x ∧ x ≤ 1048576)) :
    Calls Try.prog 14 #[.int .i64 x] w fun e w' => e = .returned (.tuple #[.agg #[.int .i64 0, .int .i64 0, .int .i64 0, .int .i64 0], .int .i64 2]) ∧ Below w.heap.size w w' := by
  have HX := Lib.hid h
  have H2 : x < 0 ∨ 0 ≤ x ∧ 1048576 < x := by omega
  clear h
  rcases H2 with H2 | ⟨H2, H3⟩
  all_goals
    go_enter Try.func14, Try.ntmps14
    go_wp2
    exact end_ret (v := .tuple #[.agg #[.int .i64 0, .int .i64 0, .int .i64 0, .int .i64 0], .int .i64 2]) (by simp [results, Try.results14, go_sem]; try rfl) ⟨rfl, ba1 _ _⟩

end Go.Proofs.Ytoidpnmllmkaeaa
