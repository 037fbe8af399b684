/-
  Contract of seg.tell: the flags that a byte tells.
-/
import Derived.Test.YtgmpablmkpamaaaSeg6
import Derived.OneCell
namespace Go.Proofs.Ytgmpablmkpamaaa
open Go.RowKit
set_option linter.unusedVariables false
set_option linter.unusedSimpArgs false

theorem wraps_u8 (n : Int) (h₀ : 0 ≤ n) (h₁ : n < 2 ^ 8) : IntKind.u8.wrap n = n := by rw [IntKind.wrap_u8]; omega
theorem and1 (n : Int) (h0 : 0 ≤ n) (h1 : n ≤ 255) : bits .and .u8 n 1 = n % 2 :=
  bits_mask .u8 8 (by decide) wraps_u8 1 (by decide) n h0 (by omega)

/-- a struct of nine cells that lies at block B -/
def Box9 (w : World) (B : Nat) (v0 v1 v2 v3 v4 v5 v6 v7 v8 : Value) : Prop := w.heap[B]? = some (.cells #[v0, v1, v2, v3, v4, v5, v6, v7, v8] 25 (0, 0))

theorem cells_setCell {w : World} {b j : Nat} {cs : Array Value} {u : Value} {t : TypeId} (h : w.heap[b]? = some (.cells cs t (0, 0))) : (w.setCell ⟨b, j, none⟩ u).heap[b]? = some (.cells (cs.modify j fun _ => u) t (0, 0)) := by
  have hlt := lt_of_block h
  have h' : w.heap[b] = .cells cs t (0, 0) := by simpa [Array.getElem?_eq_getElem hlt] using h
  show (w.heap.modify b _)[b]? = _
  rw [Array.getElem?_eq_getElem (by simpa using hlt), Array.getElem_modify_self, h']
  rfl

theorem bit_eq (x k : Int) : (x / k % 2 == 1) = bit x k := by unfold bit; rw [Bool.beq_eq_decide_eq]

theorem Box9.cells {w : World} {B : Nat} {v0 v1 v2 v3 v4 v5 v6 v7 v8 : Value} (h : Box9 w B v0 v1 v2 v3 v4 v5 v6 v7 v8) :
    B < w.heap.size ∧ w.cell? ⟨B, 0, none⟩ = some v0 ∧ w.cell? ⟨B, 1, none⟩ = some v1 ∧ w.cell? ⟨B, 2, none⟩ = some v2 ∧ w.cell? ⟨B, 3, none⟩ = some v3 ∧ w.cell? ⟨B, 4, none⟩ = some v4 ∧ w.cell? ⟨B, 5, none⟩ = some v5 ∧ w.cell? ⟨B, 6, none⟩ = some v6 ∧ w.cell? ⟨B, 7, none⟩ = some v7 ∧ w.cell? ⟨B, 8, none⟩ = some v8 ∧ ∀ j, w.frozen? ⟨B, j, none⟩ = false := by
  unfold Box9 at h
  refine ⟨lt_of_block h, ?_, ?_, ?_, ?_, ?_, ?_, ?_, ?_, ?_, ?_⟩ <;> simp [World.cell?, World.frozen?, h]

set_option maxHeartbeats 4000000 in
theorem tell_any (B : Nat) (x : Int) (r : Bool) (v0 v1 v2 v7 v8 : Value) (f0 f1 f2 f3 : Bool) (w : World) (h0 : 0 ≤ x) (h1 : x ≤ 255) (hr : r = decide (x ≤ 15)) (hh : Box9 w B v0 v1 v2 (.bool f0) (.bool f1) (.bool f2) (.bool f3) v7 v8) :
    Calls Try.prog 44 #[.pointer (some ⟨B, 0, none⟩), .int .u8 x] w fun e w' => e = .returned (.bool r) ∧ Box9 w' B v0 v1 v2 (.bool (bit x 1)) (.bool (bit x 2)) (.bool (bit x 4)) (.bool (bit x 8)) v7 v8 ∧ Below B w w' := by
  have i0 := flag_at0 B; have i1 := flag_at1 B; have i2 := flag_at2 B; have i3 := flag_at3 B
  obtain ⟨hB, -, -, -, c3, c4, c5, c6, -, -, hsoft⟩ := hh.cells
  have d3 := hsoft 3; have d4 := hsoft 4; have d5 := hsoft 5; have d6 := hsoft 6
  have HH := Lib.hid hh; have HR := Lib.hid hr
  clear hh hr hsoft
  obtain ⟨g0, g1, g2, g3, hG⟩ : ∃ g0 g1 g2 g3, g0 = bit x 1 ∧ g1 = bit x 2 ∧ g2 = bit x 4 ∧ g3 = bit x 8 := ⟨_, _, _, _, rfl, rfl, rfl, rfl⟩
  have z0 : (bits .and .u8 x 1 == 1) = g0 := by rw [and1 x h0 h1, hG.1, ← bit_eq, Int.ediv_one]
  have z1 : (bits .and .u8 (x / 2) 1 == 1) = g1 := by rw [and1 (x / 2) (by omega) (by omega), hG.2.1, ← bit_eq]
  have z2 : (bits .and .u8 (x / 4) 1 == 1) = g2 := by rw [and1 (x / 4) (by omega) (by omega), hG.2.2.1, ← bit_eq]
  have z3 : (bits .and .u8 (x / 8) 1 == 1) = g3 := by rw [and1 (x / 8) (by omega) (by omega), hG.2.2.2, ← bit_eq]
  have HFL : Hid (fl g0 g1 g2 g3 = x % 16) := Lib.hid (by rw [hG.1, hG.2.1, hG.2.2.1, hG.2.2.2]; exact fl_bit x h0 h1)
  have HG := Lib.hid hG
  clear hG
  go_enter Try.func44, Try.ntmps44
  go_wp2_with (go_at_call 41; refine (flags_any _ _ hB).mono ?_; rintro e w1 ⟨rfl, hb1⟩; have k3 := (hb1.cell (p := ⟨B, 3, none⟩) hB).trans c3; have k4 := (hb1.cell (p := ⟨B, 4, none⟩) hB).trans c4; have k5 := (hb1.cell (p := ⟨B, 5, none⟩) hB).trans c5; have k6 := (hb1.cell (p := ⟨B, 6, none⟩) hB).trans c6; have m3 := (hb1.frozen (p := ⟨B, 3, none⟩) hB).trans d3; have m4 := (hb1.frozen (p := ⟨B, 4, none⟩) hB).trans d4; have m5 := (hb1.frozen (p := ⟨B, 5, none⟩) hB).trans d5; have m6 := (hb1.frozen (p := ⟨B, 6, none⟩) hB).trans d6; have HB1 := Lib.hid hb1; have HH1 : Hid (Box9 w1 B v0 v1 v2 (.bool f0) (.bool f1) (.bool f2) (.bool f3) v7 v8) := Lib.hid ((hb1.block B hB).trans HH.out); have hB1 : B < w1.heap.size := Nat.lt_of_lt_of_le hB hb1.size; clear hb1 c3 c4 c5 c6 d3 d4 d5 d6)
  refine wp_loop_rounds 5 ?_
  rw [rounds_succ]; go_wp2
  rw [rounds_succ]; go_wp2
  rw [rounds_succ]; go_wp2
  rw [rounds_succ]; go_wp2
  obtain ⟨w4, hw4⟩ : ∃ w4, w4 = ((((w1.setCell ⟨B, 3, none⟩ (.bool g0)).setCell ⟨B, 4, none⟩ (.bool g1)).setCell ⟨B, 5, none⟩ (.bool g2)).setCell ⟨B, 6, none⟩ (.bool g3)) := ⟨_, rfl⟩
  have hb4 : Box9 w4 B v0 v1 v2 (.bool g0) (.bool g1) (.bool g2) (.bool g3) v7 v8 := by
    rw [hw4]
    exact cells_setCell (cells_setCell (cells_setCell (cells_setCell HH1.out)))
  have hq4 : Below B w w4 := by
    rw [hw4]
    exact ((((HB1.out.mono (Nat.le_of_lt hB)).setCell (Nat.le_refl _) _).setCell (Nat.le_refl _) _).setCell (Nat.le_refl _) _).setCell (Nat.le_refl _) _
  obtain ⟨hB4, -, -, -, e3, e4, e5, e6, -, -, -⟩ := hb4.cells
  rw [← hw4]
  have HH4 := Lib.hid hb4; have HQ4 := Lib.hid hq4
  clear hw4 hb4 hq4 k3 k4 k5 k6 m3 m4 m5 m6 z0 z1 z2 z3
  rw [rounds_succ]
  go_wp2_with (go_at_call 24; refine (told_any B g0 g1 g2 g3 _ hB4 e3 e4 e5 e6).mono ?_; rw [HFL.out]; rintro e w5 ⟨rfl, hb5⟩; have HB5 := Lib.hid hb5; clear hb5)
  go_ret
  refine ⟨?_, ?_, HQ4.out.trans (HB5.out.mono (Nat.le_of_lt hB4))⟩
  · rw [HR.out]
    have : (x % 16 == x) = decide (x ≤ 15) := by rw [Bool.beq_eq_decide_eq]; congr 1; apply propext; constructor <;> omega
    simp [this]
  · rw [← HG.out.1, ← HG.out.2.1, ← HG.out.2.2.1, ← HG.out.2.2.2]
    exact (HB5.out.block B hB4).trans HH4.out

end Go.Proofs.Ytgmpablmkpamaaa
