/-
  A struct of ints in a block of its own, whatever its type: 'Bx' (the block's cells); nothing of the program.
-/
import Derived.Test.YtdilpebhecmjmaaKit
namespace Go.Proofs.Ytdilpebhecmjmaa
open Go.RowKit
set_option linter.unusedVariables false
set_option linter.unusedSimpArgs false

theorem end_ret {P : Program} {fn : Func} {tmps : Array Value} {R : Ending → World → Prop} {w : World} {v : Value} (h : (results fn tmps).run P w = .ok v w) (hR : R (.returned v) w) : bodyPost P fn R .ret { tmps := tmps, defers := [] } w :=
  bodyPost_ret h rfl hR

/-- block B holds the cells cs, all of it of type t -/
def Bx (t : TypeId) (w : World) (B : Nat) (cs : Array Value) : Prop := w.heap[B]? = some (.cells cs t (0, 0))

theorem cells_setCell {w : World} {b j : Nat} {cs : Array Value} {u : Value} {t : TypeId} (h : w.heap[b]? = some (.cells cs t (0, 0))) : (w.setCell ⟨b, j, none⟩ u).heap[b]? = some (.cells (cs.modify j fun _ => u) t (0, 0)) := by
  have hlt := lt_of_block h
  have h' : w.heap[b] = .cells cs t (0, 0) := by simpa [Array.getElem?_eq_getElem hlt] using h
  show (w.heap.modify b _)[b]? = _
  rw [Array.getElem?_eq_getElem (by simpa using hlt), Array.getElem_modify_self, h']
  rfl

variable {t : TypeId} {w w' : World} {B : Nat} {cs : Array Value}
theorem Bx.lt (h : Bx t w B cs) : B < w.heap.size := lt_of_block h
theorem Bx.cell (h : Bx t w B cs) (j : Nat) (v : Value) (hv : cs[j]? = some v) : w.cell? ⟨B, j, none⟩ = some v := by
  unfold Bx at h; simp [World.cell?, h, hv]
theorem Bx.soft (h : Bx t w B cs) (j : Nat) : w.frozen? ⟨B, j, none⟩ = false := by unfold Bx at h; simp [World.frozen?, h]
theorem bx_new (w : World) (t : TypeId) (cs : Array Value) : Bx t (w.alloc (.cells cs t)) w.heap.size cs :=
  show (w.heap.push _)[w.heap.size]? = some _ from by simp
theorem Bx.below (h : Bx t w B cs) (hb : Below w.heap.size w w') : Bx t w' B cs := (hb.block B (lt_of_block h)).trans h
theorem Bx.below' {K : Nat} (h : Bx t w B cs) (hb : Below K w w') (hk : B < K) : Bx t w' B cs := (hb.block B hk).trans h
theorem Bx.set (h : Bx t w B cs) (j : Nat) (u : Value) : Bx t (w.setCell ⟨B, j, none⟩ u) B (cs.modify j fun _ => u) := cells_setCell h
theorem Bx.other {S j : Nat} (h : Bx t w B cs) (hS : B ≠ S) (u : Value) : Bx t (w.setCell ⟨S, j, none⟩ u) B cs := by
  unfold Bx; rw [Below.heap_setCell _ _ _ _ hS]; exact h

/-- three ints -/
def i3 (a b c : Int) : Array Value := #[.int .i64 a, .int .i64 b, .int .i64 c]
def i2 (a b : Int) : Array Value := #[.int .i64 a, .int .i64 b]
theorem Bx.store3 {a b c : Int} (h : Bx t w B (i3 a b c)) (a' b' c' : Int) : Bx t (((w.setCell ⟨B, 0, none⟩ (.int .i64 a')).setCell ⟨B, 1, none⟩ (.int .i64 b')).setCell ⟨B, 2, none⟩ (.int .i64 c')) B (i3 a' b' c') := ((h.set 0 _).set 1 _).set 2 _
theorem Bx.store2 {a b : Int} (h : Bx t w B (i2 a b)) (a' b' : Int) : Bx t ((w.setCell ⟨B, 0, none⟩ (.int .i64 a')).setCell ⟨B, 1, none⟩ (.int .i64 b')) B (i2 a' b') := (h.set 0 _).set 1 _
theorem Bx.other3 {S : Nat} (h : Bx t w B cs) (hS : ¬ B = S) (v0 v1 v2 : Value) : Bx t (((w.setCell ⟨S, 0, none⟩ v0).setCell ⟨S, 1, none⟩ v1).setCell ⟨S, 2, none⟩ v2) B cs := ((h.other hS _).other hS _).other hS _
theorem Bx.other2 {S : Nat} (h : Bx t w B cs) (hS : ¬ B = S) (v0 v1 : Value) : Bx t ((w.setCell ⟨S, 0, none⟩ v0).setCell ⟨S, 1, none⟩ v1) B cs := (h.other hS _).other hS _
theorem Bx.cells3 {a b c : Int} (h : Bx t w B (i3 a b c)) :
    B < w.heap.size ∧ w.cell? ⟨B, 0, none⟩ = some (.int .i64 a) ∧ w.cell? ⟨B, 1, none⟩ = some (.int .i64 b) ∧ w.cell? ⟨B, 2, none⟩ = some (.int .i64 c) ∧ w.frozen? ⟨B, 0, none⟩ = false ∧ w.frozen? ⟨B, 1, none⟩ = false ∧ w.frozen? ⟨B, 2, none⟩ = false :=
  ⟨h.lt, h.cell 0 _ rfl, h.cell 1 _ rfl, h.cell 2 _ rfl, h.soft 0, h.soft 1, h.soft 2⟩
theorem Bx.cells2 {a b : Int} (h : Bx t w B (i2 a b)) :
    B < w.heap.size ∧ w.cell? ⟨B, 0, none⟩ = some (.int .i64 a) ∧ w.cell? ⟨B, 1, none⟩ = some (.int .i64 b) ∧ w.frozen? ⟨B, 0, none⟩ = false ∧ w.frozen? ⟨B, 1, none⟩ = false :=
  ⟨h.lt, h.cell 0 _ rfl, h.cell 1 _ rfl, h.soft 0, h.soft 1⟩
theorem below_store3 {w0 w : World} {K S : Nat} (h : Below K w0 w) (hS : K ≤ S) (v0 v1 v2 : Value) :
    Below K w0 (((w.setCell ⟨S, 0, none⟩ v0).setCell ⟨S, 1, none⟩ v1).setCell ⟨S, 2, none⟩ v2) := ((h.setCell hS _).setCell hS _).setCell hS _
theorem below_store2 {w0 w : World} {K S : Nat} (h : Below K w0 w) (hS : K ≤ S) (v0 v1 : Value) :
    Below K w0 ((w.setCell ⟨S, 0, none⟩ v0).setCell ⟨S, 1, none⟩ v1) := (h.setCell hS _).setCell hS _

end Go.Proofs.Ytdilpebhecmjmaa
