/-
  What there is against parts.
-/
import Derived.Test.YtelfnlocgknpjaaMParts
namespace Go.Proofs.Ytelfnlocgknpjaa
open Go.RowKit
set_option linter.unusedVariables false
set_option linter.unusedSimpArgs false

/-- what there is against a part -/
def CkAt (w : World) (e : Int) : Pt → Prop
  | .num a k => ∃ v : Int, (k = 1 ∨ k = 2 ∨ k = 4) ∧ a.block < w.heap.size ∧ w.cell? a = some (.int .i64 v) ∧ e = if v < 0 ∨ 256 ^ k ≤ v then 2 else 0
  | .txt a => ∃ s : Byt, a.block < w.heap.size ∧ w.cell? a = some (.string (tx s)) ∧ e = if 200 < s.length then 1 else 0
  | .dat a => ∃ (D : Option Addr) (m d : Nat), a.block < w.heap.size ∧ w.cell? a = some (.slice D m d) ∧ e = if 100 < m then 1 else 0
theorem CkAt.below {w w' : World} {e : Int} {p : Pt} (h : CkAt w e p) (hb : Below w.heap.size w w') : CkAt w' e p := by
  rcases p with ⟨a, k⟩ | a | a
  · obtain ⟨v, h0, h1, h2, h3⟩ := h
    exact ⟨v, h0, Nat.lt_of_lt_of_le h1 hb.size, (hb.cell h1).trans h2, h3⟩
  · obtain ⟨v, h1, h2, h3⟩ := h
    exact ⟨v, Nat.lt_of_lt_of_le h1 hb.size, (hb.cell h1).trans h2, h3⟩
  · obtain ⟨D, m, d, h1, h2, h3⟩ := h
    exact ⟨D, m, d, Nat.lt_of_lt_of_le h1 hb.size, (hb.cell h1).trans h2, h3⟩
def ckF : Pt → Nat
  | .num _ _ => 96
  | .txt _ => 100
  | .dat _ => 106
set_option maxHeartbeats 4000000 in
theorem numCk_any (a : Addr) (k : Nat) (v : Int) (w : World) (hk : k = 1 ∨ k = 2 ∨ k = 4) (ha : a.block < w.heap.size) (hc : w.cell? a = some (.int .i64 v)) (c : Int) (hcc : (v < 0 ∧ c = 2) ∨ (0 ≤ v ∧ 256 ^ k ≤ v ∧ c = 2) ∨ (0 ≤ v ∧ v < 256 ^ k ∧ c = 0)) :
    Calls Try.prog 96 #[.agg #[.pointer (some a), .int .i64 k]] w fun e w' => e = .returned (.int .i64 c) ∧ Below w.heap.size w w' := by
  obtain ⟨w1, hw1⟩ : ∃ w1, w1 = w.alloc (.cells #[.pointer (some a), .int .i64 k] 68) := ⟨_, rfl⟩
  obtain ⟨B, hB⟩ : ∃ B, B = w.heap.size := ⟨_, rfl⟩
  have HB1 : Hid (Below w.heap.size w w1) := Lib.hid (by rw [hw1]; exact ba1 _ _)
  have HX : Hid (Bx 68 w1 B #[.pointer (some a), .int .i64 k]) := Lib.hid (by rw [hw1, hB]; exact bx_new _ _ _)
  have HBV := Lib.hid hB
  have h1 : w1.cell? a = some (.int .i64 v) := (HB1.out.cell (p := a) ha).trans hc
  have b0 : w1.cell? ⟨B, 0, none⟩ = some (.pointer (some a)) := HX.out.cell 0 _ rfl
  have b1 : w1.cell? ⟨B, 1, none⟩ = some (.int .i64 k) := HX.out.cell 1 _ rfl
  have hlb := HX.out.lt
  clear hc hB ha
  rcases hcc with ⟨h0, rfl⟩ | ⟨h0, h2, rfl⟩ | ⟨h0, h2, rfl⟩
  · have h0d : decide (v < 0) = true := by simp; omega
    go_enter Try.func96, Try.ntmps96
    go_upto_region 1 with fail
    rw [← hw1, ← HBV.out]
    clear hw1
    go_quiet (fail)
    go_wp2_with fail
    go_ret
    exact ⟨rfl, below_drewN HB1.out _⟩
  · have h0d : decide (v < 0) = false := by simp; omega
    have hw8 : IntKind.i64.wrap (8 * (k : Int)) = 8 * (k : Int) := by rw [IntKind.wrap_i64]; omega
    have hn8 : ¬ (8 * (k : Int) < 0) := by omega
    go_enter Try.func96, Try.ntmps96
    go_upto_region 1 with fail
    rw [← hw1, ← HBV.out]
    clear hw1
    go_quiet (fail)
    have hsh : wrap64 (2 ^ (8 * k)) = 256 ^ k := by rcases hk with rfl | rfl | rfl <;> (unfold wrap64; omega)
    have hcm : decide (wrap64 (2 ^ (8 * k)) ≤ v) = true := by rw [hsh]; simp; exact h2
    go_wp2_with fail
    go_ret
    exact ⟨rfl, below_drewN HB1.out _⟩
  · have h0d : decide (v < 0) = false := by simp; omega
    have hw8 : IntKind.i64.wrap (8 * (k : Int)) = 8 * (k : Int) := by rw [IntKind.wrap_i64]; omega
    have hn8 : ¬ (8 * (k : Int) < 0) := by omega
    go_enter Try.func96, Try.ntmps96
    go_upto_region 1 with fail
    rw [← hw1, ← HBV.out]
    clear hw1
    go_quiet (fail)
    have hsh : wrap64 (2 ^ (8 * k)) = 256 ^ k := by rcases hk with rfl | rfl | rfl <;> (unfold wrap64; omega)
    have hcm : decide (wrap64 (2 ^ (8 * k)) ≤ v) = false := by rw [hsh]; simp; exact h2
    go_wp2_with fail
    go_ret
    exact ⟨rfl, below_drewN HB1.out _⟩
theorem txtCk_any (a : Addr) (s : Byt) (w : World) (ha : a.block < w.heap.size) (hc : w.cell? a = some (.string (tx s))) :
    Calls Try.prog 100 #[.agg #[.pointer (some a)]] w fun e w' => e = .returned (.int .i64 (if 200 < s.length then 1 else 0)) ∧ Below w.heap.size w w' := by
  obtain ⟨w1, hw1⟩ : ∃ w1, w1 = w.alloc (.cells #[.pointer (some a)] 78) := ⟨_, rfl⟩
  obtain ⟨B, hB⟩ : ∃ B, B = w.heap.size := ⟨_, rfl⟩
  have HB1 : Hid (Below w.heap.size w w1) := Lib.hid (by rw [hw1]; exact ba1 _ _)
  have HX : Hid (Bx 78 w1 B #[.pointer (some a)]) := Lib.hid (by rw [hw1, hB]; exact bx_new _ _ _)
  have HBV := Lib.hid hB
  have h1 : w1.cell? a = some (.string (tx s)) := (HB1.out.cell (p := a) ha).trans hc
  have b0 : w1.cell? ⟨B, 0, none⟩ = some (.pointer (some a)) := HX.out.cell 0 _ rfl
  have hsz : (tx s).size = s.length := tx_size s
  clear hc hB ha
  obtain ⟨m, hm⟩ : ∃ m, m = s.length := ⟨_, rfl⟩
  rw [← hm] at hsz ⊢
  clear hm
  by_cases h2 : 200 < m
  · have h3 : decide ((200 : Int) < (m : Int)) = true := by simp; omega
    rw [if_pos h2]
    go_enter Try.func100, Try.ntmps100
    go_upto_region 1 with fail
    rw [← hw1, ← HBV.out]
    clear hw1
    go_wp2_with fail
    go_ret
    exact ⟨rfl, HB1.out⟩
  · have h3 : decide ((200 : Int) < (m : Int)) = false := by simp; omega
    rw [if_neg h2]
    go_enter Try.func100, Try.ntmps100
    go_upto_region 1 with fail
    rw [← hw1, ← HBV.out]
    clear hw1
    go_wp2_with fail
    go_ret
    exact ⟨rfl, HB1.out⟩
theorem datCk_any (a : Addr) (D : Option Addr) (m d : Nat) (w : World) (ha : a.block < w.heap.size) (hc : w.cell? a = some (.slice D m d)) :
    Calls Try.prog 106 #[.agg #[.pointer (some a)]] w fun e w' => e = .returned (.int .i64 (if 100 < m then 1 else 0)) ∧ Below w.heap.size w w' := by
  obtain ⟨w1, hw1⟩ : ∃ w1, w1 = w.alloc (.cells #[.pointer (some a)] 81) := ⟨_, rfl⟩
  obtain ⟨B, hB⟩ : ∃ B, B = w.heap.size := ⟨_, rfl⟩
  have HB1 : Hid (Below w.heap.size w w1) := Lib.hid (by rw [hw1]; exact ba1 _ _)
  have HX : Hid (Bx 81 w1 B #[.pointer (some a)]) := Lib.hid (by rw [hw1, hB]; exact bx_new _ _ _)
  have HBV := Lib.hid hB
  have h1 : w1.cell? a = some (.slice D m d) := (HB1.out.cell (p := a) ha).trans hc
  have b0 : w1.cell? ⟨B, 0, none⟩ = some (.pointer (some a)) := HX.out.cell 0 _ rfl
  clear hc hB ha
  by_cases h2 : 100 < m
  · have h3 : decide ((100 : Int) < (m : Int)) = true := by simp; omega
    rw [if_pos h2]
    go_enter Try.func106, Try.ntmps106
    go_upto_region 1 with fail
    rw [← hw1, ← HBV.out]
    clear hw1
    go_wp2_with fail
    go_ret
    exact ⟨rfl, HB1.out⟩
  · have h3 : decide ((100 : Int) < (m : Int)) = false := by simp; omega
    rw [if_neg h2]
    go_enter Try.func106, Try.ntmps106
    go_upto_region 1 with fail
    rw [← hw1, ← HBV.out]
    clear hw1
    go_wp2_with fail
    go_ret
    exact ⟨rfl, HB1.out⟩
theorem ptCk_any (p : Pt) (c : Int) (w : World) (h : CkAt w c p) : Calls Try.prog (ckF p) #[tkG p] w fun e w' => e = .returned (.int .i64 c) ∧ Below w.heap.size w w' := by
  rcases p with ⟨a, k⟩ | a | a
  · obtain ⟨v, h0, h1, h2, h3⟩ := h
    refine numCk_any a k v w h0 h1 h2 c ?_
    by_cases g : v < 0
    · rw [if_pos (.inl g)] at h3; exact .inl ⟨g, h3⟩
    · by_cases g2 : 256 ^ k ≤ v
      · rw [if_pos (.inr g2)] at h3; exact .inr (.inl ⟨by omega, g2, h3⟩)
      · rw [if_neg (by rintro (x | x); exact g x; exact g2 x)] at h3; exact .inr (.inr ⟨by omega, by omega, h3⟩)
  · obtain ⟨s, h1, h2, rfl⟩ := h
    exact txtCk_any a s w h1 h2
  · obtain ⟨D, m, d, h1, h2, rfl⟩ := h
    exact datCk_any a D m d w h1 h2

end Go.Proofs.Ytelfnlocgknpjaa
