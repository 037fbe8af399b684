/-
  Contracts of package seg's inner functions: check; the flags; numbers laid behind bytes.
-/
import Derived.Test.YtgmpablmkpamaaaSeg1
import Derived.Test.YtgmpablmkpamaaaOwn
import Derived.Laws.NewBlocks
namespace Go.Proofs.Ytgmpablmkpamaaa
open Go.RowKit
set_option linter.unusedVariables false
set_option linter.unusedSimpArgs false

/-- a segment as a value -/
def segV (s : Sg) (A : Option Addr) (n c : Nat) (D : Option Addr) (m d : Nat) : Value :=
  .agg #[.int .i64 s.seq, .int .i64 s.ack, .int .i64 s.win, .bool s.f0, .bool s.f1, .bool s.f2, .bool s.f3, .slice A n c, .slice D m d]

theorem flags_any (B : Nat) (w : World) (hB : B < w.heap.size) :
    Calls Try.prog 41 #[.pointer (some ⟨B, 0, none⟩)] w fun e w' => e = .returned (.agg #[.pointer (some ⟨B, 3, none⟩), .pointer (some ⟨B, 4, none⟩), .pointer (some ⟨B, 5, none⟩), .pointer (some ⟨B, 6, none⟩)]) ∧ Below w.heap.size w w' := by
  go_enter Try.func41, Try.ntmps41
  go_wp2_with fail
  obtain ⟨wn, hwn⟩ : ∃ wn, wn = (w.alloc (Obj.cells #[Value.pointer none, Value.pointer none, Value.pointer none, Value.pointer none] 61)) := ⟨_, rfl⟩
  obtain ⟨X, hX⟩ : ∃ X, X = w.heap.size := ⟨_, rfl⟩
  have e0 : wn.cell? ⟨X, 0, none⟩ = some (.pointer none) := by subst hwn; subst hX; simp
  have e1 : wn.cell? ⟨X, 1, none⟩ = some (.pointer none) := by subst hwn; subst hX; simp
  have e2 : wn.cell? ⟨X, 2, none⟩ = some (.pointer none) := by subst hwn; subst hX; simp
  have e3 : wn.cell? ⟨X, 3, none⟩ = some (.pointer none) := by subst hwn; subst hX; simp
  have g0 : wn.frozen? ⟨X, 0, none⟩ = false := by subst hwn; subst hX; simp
  have g1 : wn.frozen? ⟨X, 1, none⟩ = false := by subst hwn; subst hX; simp
  have g2 : wn.frozen? ⟨X, 2, none⟩ = false := by subst hwn; subst hX; simp
  have g3 : wn.frozen? ⟨X, 3, none⟩ = false := by subst hwn; subst hX; simp
  have hB0 : Below X w wn := by subst hwn; subst hX; exact ba1 _ _
  rw [← hwn, ← hX]
  have HW := Lib.hid hwn; have HX := Lib.hid hX; have HB0 := Lib.hid hB0
  clear hwn hX hB0
  go_region
  obtain ⟨w5, hw5⟩ : ∃ w5, w5 = ((((wn.setCell ⟨X, 0, none⟩ (.pointer (some ⟨B, 3, none⟩))).setCell ⟨X, 1, none⟩ (.pointer (some ⟨B, 4, none⟩))).setCell ⟨X, 2, none⟩ (.pointer (some ⟨B, 5, none⟩))).setCell ⟨X, 3, none⟩ (.pointer (some ⟨B, 6, none⟩))).drew := ⟨_, rfl⟩
  have hB5 : Below w.heap.size w w5 := by
    have hx := HX.out
    subst hw5
    rw [← hx]
    exact ((((HB0.out.setCell (Nat.le_refl _) _).setCell (Nat.le_refl _) _).setCell (Nat.le_refl _) _).setCell (Nat.le_refl _) _).drew
  obtain ⟨q0, q1, q2, q3⟩ : w5.cell? ⟨X, 0, none⟩ = some (.pointer (some ⟨B, 3, none⟩)) ∧ w5.cell? ⟨X, 1, none⟩ = some (.pointer (some ⟨B, 4, none⟩)) ∧ w5.cell? ⟨X, 2, none⟩ = some (.pointer (some ⟨B, 5, none⟩)) ∧ w5.cell? ⟨X, 3, none⟩ = some (.pointer (some ⟨B, 6, none⟩)) := by
    subst hw5
    refine ⟨?_, ?_, ?_, ?_⟩ <;> simp [World.cell?_setCell_same, World.cell?_setCell_other, e0, e1, e2, e3]
  rw [← hw5]
  clear hw5 e0 e1 e2 e3 g0 g1 g2 g3 HW HB0
  have H5 := Lib.hid hB5
  clear hB5
  go_wp2
  exact bodyPost_ret (v := .agg #[.pointer (some ⟨B, 3, none⟩), .pointer (some ⟨B, 4, none⟩), .pointer (some ⟨B, 5, none⟩), .pointer (some ⟨B, 6, none⟩)]) (by simp [results, Try.results41, go_sem, q0, q1, q2, q3]) rfl ⟨rfl, H5.out⟩

theorem flag_at0 (B : Nat) (w : World) : (Instr.index 61 (.agg #[.pointer (some ⟨B, 3, none⟩), .pointer (some ⟨B, 4, none⟩), .pointer (some ⟨B, 5, none⟩), .pointer (some ⟨B, 6, none⟩)]) (.int .i64 0)).run Try.prog w = .ok (.pointer (some ⟨B, 3, none⟩)) w := by kernel_rfl
theorem flag_at1 (B : Nat) (w : World) : (Instr.index 61 (.agg #[.pointer (some ⟨B, 3, none⟩), .pointer (some ⟨B, 4, none⟩), .pointer (some ⟨B, 5, none⟩), .pointer (some ⟨B, 6, none⟩)]) (.int .i64 1)).run Try.prog w = .ok (.pointer (some ⟨B, 4, none⟩)) w := by kernel_rfl
theorem flag_at2 (B : Nat) (w : World) : (Instr.index 61 (.agg #[.pointer (some ⟨B, 3, none⟩), .pointer (some ⟨B, 4, none⟩), .pointer (some ⟨B, 5, none⟩), .pointer (some ⟨B, 6, none⟩)]) (.int .i64 2)).run Try.prog w = .ok (.pointer (some ⟨B, 5, none⟩)) w := by kernel_rfl
theorem flag_at3 (B : Nat) (w : World) : (Instr.index 61 (.agg #[.pointer (some ⟨B, 3, none⟩), .pointer (some ⟨B, 4, none⟩), .pointer (some ⟨B, 5, none⟩), .pointer (some ⟨B, 6, none⟩)]) (.int .i64 3)).run Try.prog w = .ok (.pointer (some ⟨B, 6, none⟩)) w := by kernel_rfl

set_option maxHeartbeats 4000000 in
theorem told_any (B : Nat) (f0 f1 f2 f3 : Bool) (w : World) (hB : B < w.heap.size) (c3 : w.cell? ⟨B, 3, none⟩ = some (.bool f0)) (c4 : w.cell? ⟨B, 4, none⟩ = some (.bool f1)) (c5 : w.cell? ⟨B, 5, none⟩ = some (.bool f2)) (c6 : w.cell? ⟨B, 6, none⟩ = some (.bool f3)) :
    Calls Try.prog 24 #[.pointer (some ⟨B, 0, none⟩)] w fun e w' => e = .returned (.int .u8 (fl f0 f1 f2 f3)) ∧ Below w.heap.size w w' := by
  have i0 := flag_at0 B; have i1 := flag_at1 B; have i2 := flag_at2 B; have i3 := flag_at3 B
  cases f0 <;> cases f1 <;> cases f2 <;> cases f3
  all_goals
    go_enter Try.func24, Try.ntmps24
    go_wp2_with (go_at_call 41; refine (flags_any _ _ hB).mono ?_; rintro e w' ⟨rfl, hb1⟩; have d3 := (hb1.cell (p := ⟨B, 3, none⟩) hB).trans c3; have d4 := (hb1.cell (p := ⟨B, 4, none⟩) hB).trans c4; have d5 := (hb1.cell (p := ⟨B, 5, none⟩) hB).trans c5; have d6 := (hb1.cell (p := ⟨B, 6, none⟩) hB).trans c6; have H1 := Lib.hid hb1; clear hb1 c3 c4 c5 c6)
    go_rounds 5
    all_goals go_ret
    all_goals exact ⟨rfl, H1.out⟩

end Go.Proofs.Ytgmpablmkpamaaa
