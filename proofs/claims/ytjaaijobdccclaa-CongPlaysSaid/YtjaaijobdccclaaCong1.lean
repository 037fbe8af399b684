/-
  Contracts of package cong: halved, grown; the shapes of signals and widths.
-/
import Derived.Test.YtjaaijobdccclaaCongMath
import Derived.Test.YtjaaijobdccclaaBox
import Derived.Test.YtjaaijobdccclaaRow
namespace Go.Proofs.Ytjaaijobdccclaa
open Go.RowKit
set_option linter.unusedVariables false
set_option linter.unusedSimpArgs false

theorem int_one (a : Int) : (Value.int .i64 a).oneCell' = true := rfl
def sgS : Shape Sig := { cells := fun x => [.int .i64 x.1, .int .i64 x.2], size := 2, len := fun _ => rfl, pos := by decide, one := by intro x u hu; simp at hu; rcases hu with rfl | rfl <;> rfl }
def wdS : Shape Wd := { cells := fun x => [.int .i64 x.win, .int .i64 x.slow, .int .i64 x.again], size := 3, len := fun _ => rfl, pos := by decide, one := by intro x u hu; simp at hu; rcases hu with rfl | rfl | rfl <;> rfl }

theorem half_cases {a h : Int} (hh : h = half a) (h0 : 0 ≤ a) : (a / 2 < 2 ∧ h = 2) ∨ (2 ≤ a / 2 ∧ h = a / 2) := by unfold half at hh; omega

theorem halved_any (a b c h : Int) (w : World) (h0 : 0 ≤ a) (h1 : a ≤ 64) (hh : h = half a) :
    Calls Try.prog 16 #[.agg #[.int .i64 a, .int .i64 b, .int .i64 c]] w fun e w' => e = .returned (.int .i64 h) ∧ Below w.heap.size w w' := by
  rcases half_cases hh h0 with ⟨k0, rfl⟩ | ⟨k0, rfl⟩
  all_goals
    clear hh
    go_enter Try.func16, Try.ntmps16
    go_wp2
    go_ret
    exact ⟨rfl, ba1 _ _⟩

theorem ack1_cases {a b c A C : Int} (hg : Good ⟨a, b, c⟩) (h : (⟨A, b, C⟩ : Wd) = ack1 ⟨a, b, c⟩) :
    (a < b ∧ A = a + 1 ∧ C = c ∧ a < 64) ∨ (b ≤ a ∧ c + 1 < a ∧ A = a ∧ C = c + 1) ∨ (b ≤ a ∧ a ≤ c + 1 ∧ a < 64 ∧ A = a + 1 ∧ C = 0) ∨ (b ≤ a ∧ a ≤ c + 1 ∧ a = 64 ∧ A = 64 ∧ C = 0) := by
  obtain ⟨w0, w1, s0, s1, a0, a1⟩ := hg
  unfold ack1 cap at h
  simp only at h w0 w1 s0 s1 a0 a1
  repeat' split at h
  all_goals (simp only [Wd.mk.injEq] at h; omega)

theorem grown_any (a b c A C : Int) (w : World) (hg : Good ⟨a, b, c⟩) (h : (⟨A, b, C⟩ : Wd) = ack1 ⟨a, b, c⟩) :
    Calls Try.prog 15 #[.agg #[.int .i64 a, .int .i64 b, .int .i64 c]] w fun e w' => e = .returned (.agg #[.int .i64 A, .int .i64 b, .int .i64 C]) ∧ Below w.heap.size w w' := by
  have hc := ack1_cases hg h
  obtain ⟨w0, w1, s0, s1, a0, a1⟩ := hg
  simp only at w0 w1 s0 s1 a0 a1
  clear h
  rcases hc with ⟨k0, rfl, rfl, k1⟩ | ⟨k0, k1, rfl, rfl⟩ | ⟨k0, k1, k2, rfl, rfl⟩ | ⟨k0, k1, rfl, rfl, rfl⟩
  all_goals
    go_enter Try.func15, Try.ntmps15
    go_wp2
    exact end_ret (v := .agg #[.int .i64 _, .int .i64 b, .int .i64 _]) (by simp [results, Try.results15, go_sem]; try rfl) ⟨rfl, ba2 _ _ _⟩

/-! behind: the parts -/
theorem two_new (w : World) (cs ds : Array Value) (t u : TypeId) : Bx t ((w.alloc (.cells cs t)).alloc (.cells ds u)) w.heap.size cs ∧ Bx u ((w.alloc (.cells cs t)).alloc (.cells ds u)) (w.heap.size + 1) ds :=
  ⟨(bx_new w t cs).below (ba1 _ _), by simpa using bx_new (w.alloc (.cells cs t)) u ds⟩
theorem three_new (w : World) (cs ds es : Array Value) (t u v : TypeId) : Bx t (((w.alloc (.cells cs t)).alloc (.cells ds u)).alloc (.cells es v)) w.heap.size cs ∧ Bx u (((w.alloc (.cells cs t)).alloc (.cells ds u)).alloc (.cells es v)) (w.heap.size + 1) ds ∧ Bx v (((w.alloc (.cells cs t)).alloc (.cells ds u)).alloc (.cells es v)) (w.heap.size + 2) es :=
  ⟨(two_new w cs ds t u).1.below (ba1 _ _), (two_new w cs ds t u).2.below (ba1 _ _), by simpa using bx_new ((w.alloc (.cells cs t)).alloc (.cells ds u)) v es⟩
theorem ba3 (w : World) (o p q : Obj) : Below w.heap.size w (((w.alloc o).alloc p).alloc q) := (ba2 w o p).alloc (by simp; omega) _

/-- a signal of no kind, or of a count that may not be: refused -/
theorem behind_no (a b c k n code : Int) (w : World) (hc : code = sigCode (k, n)) (h0 : code ≠ 0) :
    Calls Try.prog 14 #[.agg #[.int .i64 a, .int .i64 b, .int .i64 c], .agg #[.int .i64 k, .int .i64 n]] w fun e w' => e = .returned (.tuple #[.agg #[.int .i64 0, .int .i64 0, .int .i64 0], .int .i64 code]) ∧ Below w.heap.size w w' := by
  have hk : (k = 1 ∧ n < 1 ∧ code = 2) ∨ (k = 1 ∧ 1 ≤ n ∧ 64 < n ∧ code = 2) ∨ (k < 1 ∧ code = 3) ∨ (3 < k ∧ code = 3) := by
    unfold sigCode at hc; simp only at hc
    split at hc
    · omega
    · split at hc <;> omega
  clear hc h0
  rcases hk with ⟨rfl, k0, rfl⟩ | ⟨rfl, k0, k1, rfl⟩ | ⟨k0, rfl⟩ | ⟨k0, rfl⟩
  all_goals
    go_enter Try.func14, Try.ntmps14
    go_wp2
    exact end_ret (v := .tuple #[.agg #[.int .i64 0, .int .i64 0, .int .i64 0], .int .i64 _]) (by simp [results, Try.results14, go_sem]; try rfl) ⟨rfl, ba3 _ _ _ _⟩

end Go.Proofs.Ytjaaijobdccclaa
