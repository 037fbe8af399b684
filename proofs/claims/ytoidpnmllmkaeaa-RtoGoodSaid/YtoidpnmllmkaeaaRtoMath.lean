/-
  Mathematics of timers: what a sample makes of them, and where it ends when all samples are the same.
-/
import Derived.Lib.Hide
namespace Go.Proofs.Ytoidpnmllmkaeaa

/-- a timer that may be -/
structure Tm (s v w b : Int) : Prop where
  s0 : 0 ≤ s
  s1 : s ≤ 8388608
  v0 : 0 ≤ v
  v1 : v ≤ 4194304
  w0 : 200 ≤ w
  w1 : w ≤ 60000
  b0 : 0 ≤ b
  b1 : b ≤ 12

def waitOf (s v : Int) : Int := min (max (s / 8 + v) 200) 60000
def srtt' (s x : Int) : Int := s + (x - s / 8)
def var' (s v x : Int) : Int := v + max (x - s / 8) (-(x - s / 8)) - v / 4
def wait' (s v x : Int) : Int := waitOf (srtt' s x) (var' s v x)
def back' (w : Int) : Int := min (2 * w) 60000

theorem waitOf_bd (s v : Int) : 200 ≤ waitOf s v ∧ waitOf s v ≤ 60000 := by unfold waitOf; omega
theorem back'_bd (w : Int) (h : 200 ≤ w) : 200 ≤ back' w ∧ back' w ≤ 60000 := by unfold back'; omega

theorem srtt'_bd {s v w b x : Int} (h : Tm s v w b) (h0 : 0 ≤ x) (h1 : x ≤ 1048576) : 0 ≤ srtt' s x ∧ srtt' s x ≤ 8388608 := by
  obtain ⟨s0, s1, v0, v1, -, -, -, -⟩ := h; unfold srtt'; omega
theorem var'_bd {s v w b x : Int} (h : Tm s v w b) (h0 : 0 ≤ x) (h1 : x ≤ 1048576) : 0 ≤ var' s v x ∧ var' s v x ≤ 4194304 := by
  obtain ⟨s0, s1, v0, v1, -, -, -, -⟩ := h; unfold var'; omega
theorem next_tm {s v w b x : Int} (h : Tm s v w b) (h0 : 0 ≤ x) (h1 : x ≤ 1048576) : Tm (srtt' s x) (var' s v x) (wait' s v x) 0 :=
  have a := srtt'_bd h h0 h1; have c := var'_bd h h0 h1; have d := waitOf_bd (srtt' s x) (var' s v x)
  ⟨a.1, a.2, c.1, c.2, d.1, d.2, by omega, by omega⟩
theorem back_tm {s v w b : Int} (h : Tm s v w b) (hb : b < 12) : Tm s v (back' w) (b + 1) :=
  have d := back'_bd w h.w0
  ⟨h.s0, h.s1, h.v0, h.v1, d.1, d.2, by have := h.b0; omega, by omega⟩
theorem first_tm (x : Int) (h0 : 0 ≤ x) (h1 : x ≤ 1048576) : Tm (8 * x) (2 * x) (waitOf (8 * x) (2 * x)) 0 :=
  have d := waitOf_bd (8 * x) (2 * x)
  ⟨by omega, by omega, by omega, by omega, d.1, d.2, by omega, by omega⟩

theorem wait_good {s v w b x : Int} (h : Tm s v w b) (h0 : 0 ≤ x) (h1 : x ≤ 1048576) : srtt' s x / 8 ≤ wait' s v x ∨ wait' s v x = 60000 := by
  have := (var'_bd h h0 h1).1
  unfold wait' waitOf; omega

theorem between (s x : Int) : min (s / 8) x ≤ srtt' s x / 8 ∧ srtt' s x / 8 ≤ max (s / 8) x := by
  unfold srtt'; omega

/-! ### all samples the same -/
/-- bounds of what Srtt lacks, of what it has too much, and of Var -/
def bd : Nat → Nat × Nat × Nat
  | 0 => (8388608, 8388608, 4194304)
  | n + 1 => match bd n with
    | (d, e, v) => (d - (d + 7) / 8, e - e / 8, v - v / 4 + max ((d + 7) / 8) (e / 8))

def Near (n : Nat) (x s v : Int) : Prop := 8 * x - s ≤ ((bd n).1 : Int) ∧ s - 8 * x ≤ ((bd n).2.1 : Int) ∧ v ≤ ((bd n).2.2 : Int)

theorem near_start {s v w b x : Int} (h : Tm s v w b) (h0 : 0 ≤ x) (h1 : x ≤ 1048576) : Near 0 x s v := by
  obtain ⟨s0, s1, v0, v1, -, -, -, -⟩ := h
  refine ⟨?_, ?_, ?_⟩ <;> simp only [bd] <;> omega

theorem near_step {n : Nat} {x s v : Int} (h : Near n x s v) : Near (n + 1) x (srtt' s x) (var' s v x) := by
  obtain ⟨h1, h2, h3⟩ := h
  unfold Near
  simp only [bd]
  generalize bd n = t at *
  obtain ⟨d, e, u⟩ := t
  simp only at *
  unfold srtt' var'
  refine ⟨?_, ?_, ?_⟩ <;> omega

theorem bd_end : bd 300 = (0, 7, 3) := by decide +kernel

theorem near_end {x s v : Int} (h : Near 300 x s v) : s / 8 = x ∧ v < 4 := by
  unfold Near at h
  rw [bd_end] at h
  simp only at h
  omega

end Go.Proofs.Ytoidpnmllmkaeaa
