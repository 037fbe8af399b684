/-
  A struct of four ints in a block of its own (api.Timer, boxed).
-/
import Derived.Test.YtoidpnmllmkaeaaKit
namespace Go.Proofs.Ytoidpnmllmkaeaa
open Go.RowKit
set_option linter.unusedVariables false
set_option linter.unusedSimpArgs false

theorem end_ret {P : Program} {fn : Func} {tmps : Array Value} {R : Ending → World → Prop} {w : World} {v : Value} (h : (results fn tmps).run P w = .ok v w) (hR : R (.returned v) w) : bodyPost P fn R .ret { tmps := tmps, defers := [] } w :=
  bodyPost_ret h rfl hR

/-- a timer that lies at block B -/
def Box4 (w : World) (B : Nat) (a b c d : Int) : Prop := w.heap[B]? = some (.cells #[.int .i64 a, .int .i64 b, .int .i64 c, .int .i64 d] 23 (0, 0))
/-- a timer as a value -/
def tv (a b c d : Int) : Value := .agg #[.int .i64 a, .int .i64 b, .int .i64 c, .int .i64 d]

theorem cells_setCell {w : World} {b j : Nat} {cs : Array Value} {u : Value} {t : TypeId} (h : w.heap[b]? = some (.cells cs t (0, 0))) : (w.setCell ⟨b, j, none⟩ u).heap[b]? = some (.cells (cs.modify j fun _ => u) t (0, 0)) := by
  have hlt := lt_of_block h
  have h' : w.heap[b] = .cells cs t (0, 0) := by simpa [Array.getElem?_eq_getElem hlt] using h
  show (w.heap.modify b _)[b]? = _
  rw [Array.getElem?_eq_getElem (by simpa using hlt), Array.getElem_modify_self, h']
  rfl

theorem Box4.cells {w : World} {B : Nat} {a b c d : Int} (h : Box4 w B a b c d) :
    B < w.heap.size ∧ w.cell? ⟨B, 0, none⟩ = some (.int .i64 a) ∧ w.cell? ⟨B, 1, none⟩ = some (.int .i64 b) ∧ w.cell? ⟨B, 2, none⟩ = some (.int .i64 c) ∧ w.cell? ⟨B, 3, none⟩ = some (.int .i64 d) ∧ ∀ j, w.frozen? ⟨B, j, none⟩ = false := by
  unfold Box4 at h
  refine ⟨lt_of_block h, ?_, ?_, ?_, ?_, ?_⟩ <;> simp [World.cell?, World.frozen?, h]
theorem box4_new (w : World) (a b c d : Int) : Box4 (w.alloc (.cells #[.int .i64 a, .int .i64 b, .int .i64 c, .int .i64 d] 23)) w.heap.size a b c d :=
  show (w.heap.push _)[w.heap.size]? = some _ from by simp
theorem Box4.below {w w' : World} {B : Nat} {a b c d : Int} (h : Box4 w B a b c d) (hb : Below w.heap.size w w') : Box4 w' B a b c d := (hb.block B (lt_of_block h)).trans h
theorem Box4.below' {w w' : World} {B K : Nat} {a b c d : Int} (h : Box4 w B a b c d) (hb : Below K w w') (hk : B < K) : Box4 w' B a b c d := (hb.block B hk).trans h
theorem Box4.s2 {w : World} {B : Nat} {a b c d : Int} (h : Box4 w B a b c d) (u : Int) : Box4 (w.setCell ⟨B, 2, none⟩ (.int .i64 u)) B a b u d := cells_setCell h
theorem Box4.s3 {w : World} {B : Nat} {a b c d : Int} (h : Box4 w B a b c d) (u : Int) : Box4 (w.setCell ⟨B, 3, none⟩ (.int .i64 u)) B a b c u := cells_setCell h
theorem Box4.s0 {w : World} {B : Nat} {a b c d : Int} (h : Box4 w B a b c d) (u : Int) : Box4 (w.setCell ⟨B, 0, none⟩ (.int .i64 u)) B u b c d := cells_setCell h
theorem Box4.s1 {w : World} {B : Nat} {a b c d : Int} (h : Box4 w B a b c d) (u : Int) : Box4 (w.setCell ⟨B, 1, none⟩ (.int .i64 u)) B a u c d := cells_setCell h
theorem Box4.store {w : World} {B : Nat} {a b c d : Int} (h : Box4 w B a b c d) (a' b' c' d' : Int) :
    Box4 ((((w.setCell ⟨B, 0, none⟩ (.int .i64 a')).setCell ⟨B, 1, none⟩ (.int .i64 b')).setCell ⟨B, 2, none⟩ (.int .i64 c')).setCell ⟨B, 3, none⟩ (.int .i64 d')) B a' b' c' d' :=
  (((h.s0 a').s1 b').s2 c').s3 d'
theorem Box4.other {w : World} {B S j : Nat} {a b c d : Int} (h : Box4 w B a b c d) (hS : B ≠ S) (u : Value) : Box4 (w.setCell ⟨S, j, none⟩ u) B a b c d := by
  unfold Box4; rw [Below.heap_setCell _ _ _ _ hS]; exact h
theorem below_store4 {w0 w : World} {K S : Nat} (h : Below K w0 w) (hS : K ≤ S) (v0 v1 v2 v3 : Value) :
    Below K w0 ((((w.setCell ⟨S, 0, none⟩ v0).setCell ⟨S, 1, none⟩ v1).setCell ⟨S, 2, none⟩ v2).setCell ⟨S, 3, none⟩ v3) :=
  (((h.setCell hS _).setCell hS _).setCell hS _).setCell hS _

end Go.Proofs.Ytoidpnmllmkaeaa
