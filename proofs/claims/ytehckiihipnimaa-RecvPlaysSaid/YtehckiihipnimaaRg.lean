/-
  Lists of ranges in memory (two cells an element): 'Rs' of any, 'OwnR' of those of the call's own; the builtin append on them. Nothing of the program but the numbers of its types.
-/
import Derived.Test.YtehckiihipnimaaChecked
import Derived.Test.YtehckiihipnimaaHoleMath
import Derived.Test.YtehckiihipnimaaInts
import Derived.WalkKit
import Derived.Handy
import Derived.Lib.Hide
import Derived.Outline
import Derived.OwnWalk
import Derived.Laws.Rows
import Derived.Below
namespace Go.Proofs.Ytehckiihipnimaa
open Go.RowKit
set_option linter.unusedVariables false

def rv (x : Rg) : Value := .agg #[.int .i64 x.1, .int .i64 x.2]
def rcells : List Rg → List Value
  | [] => []
  | x :: t => .int .i64 x.1 :: .int .i64 x.2 :: rcells t
theorem rcells_len : ∀ l : List Rg, (rcells l).length = l.length * 2
  | [] => rfl
  | x :: t => by simp only [rcells, List.length_cons, rcells_len t]; omega
theorem rcells_app : ∀ l m : List Rg, rcells (l ++ m) = rcells l ++ rcells m
  | [], m => rfl
  | x :: t, m => by simp only [rcells, List.cons_append, rcells_app t m]
theorem rcells_get : ∀ (l : List Rg) (k : Nat) (x : Rg), l[k]? = some x → (rcells l)[k * 2]? = some (.int .i64 x.1) ∧ (rcells l)[k * 2 + 1]? = some (.int .i64 x.2)
  | [], k, x, h => by simp at h
  | y :: t, 0, x, h => by simp at h; subst h; exact ⟨rfl, rfl⟩
  | y :: t, k + 1, x, h => by
    have := rcells_get t k x (by simpa using h)
    rw [show (k + 1) * 2 = k * 2 + 1 + 1 by omega]
    exact this
theorem rcells_take : ∀ (l : List Rg) (k : Nat), rcells (l.take k) = (rcells l).take (k * 2)
  | l, 0 => by simp [rcells]
  | [], k + 1 => by simp [rcells]
  | y :: t, k + 1 => by
    rw [show (k + 1) * 2 = k * 2 + 1 + 1 by omega]
    simp only [List.take_succ_cons, rcells, rcells_take t k]
theorem rcells_one : ∀ (l : List Rg) (u : Value), u ∈ rcells l → u.oneCell' = true
  | [], u, h => by simp [rcells] at h
  | x :: t, u, h => by
    simp only [rcells, List.mem_cons] at h
    rcases h with rfl | rfl | h
    · rfl
    · rfl
    · exact rcells_one t u h

theorem rgInfo : (Try.prog.info? 44).map (fun i => (i.zero, i.size, i.bytes)) = some (some (.agg #[.int .i64 0, .int .i64 0]), 2, 16) := by kernel_rfl

/-- The slice's address A leads to the ranges l. -/
def Rs (w : World) (A : Option Addr) (l : List Rg) : Prop := Cs w A (rcells l)
theorem Rs.nil (w : World) (A : Option Addr) : Rs w A [] := .inl rfl
theorem Rs.below {w w' : World} {A : Option Addr} {l : List Rg} (h : Rs w A l) (hb : Below w.heap.size w w') : Rs w' A l := Cs.below h hb
theorem Rs.take {w : World} {A : Option Addr} {l : List Rg} (h : Rs w A l) (k : Nat) : Rs w A (l.take k) := by
  unfold Rs; rw [rcells_take]; exact Cs.take h _
theorem Rs.at {w : World} {A : Option Addr} {l : List Rg} (h : Rs w A l) (k : Nat) (x : Rg) (hk : l[k]? = some x) :
    ∃ b o, A = some ⟨b, o, none⟩ ∧ b < w.heap.size ∧ w.cell? ⟨b, o + k * 2, none⟩ = some (.int .i64 x.1) ∧ w.cell? ⟨b, o + k * 2 + 1, none⟩ = some (.int .i64 x.2) := by
  rcases h with h | ⟨b, o, rfl, hlt, hc⟩
  · have := (rcells_get l k x hk).1; rw [h] at this; simp at this
  · exact ⟨b, o, rfl, hlt, hc _ _ (rcells_get l k x hk).1, by have := hc _ _ (rcells_get l k x hk).2; rwa [Nat.add_assoc]⟩

/-- The slice '.slice A n c' is nil, or of the call's own (a block from 'base' on), and holds the n ranges l. -/
def OwnR (w : World) (base : Nat) (A : Option Addr) (n c : Nat) (l : List Rg) : Prop := l.length = n ∧ w.ownsRow base 44 2 (.slice A n c) n (rcells l)
theorem OwnR.rs {w : World} {base : Nat} {A : Option Addr} {n c : Nat} {l : List Rg} (h : OwnR w base A n c l) : Rs w A l := own_cs h.2
theorem OwnR.below {w w' : World} {base : Nat} {A : Option Addr} {n c : Nat} {l : List Rg} (h : OwnR w base A n c l) (hb : Below w.heap.size w w') : OwnR w' base A n c l := ⟨h.1, own_below h.2 hb⟩
theorem OwnR.base {w : World} {base base' : Nat} {A : Option Addr} {n c : Nat} {l : List Rg} (h : OwnR w base A n c l) (hb : base' ≤ base) : OwnR w base' A n c l := ⟨h.1, own_base h.2 hb⟩
theorem OwnR.beside {w w' : World} {base : Nat} {A : Option Addr} {n c : Nat} {l : List Rg} {u u' : Value} (h : OwnR w base A n c l) (hb : Beside u u' w w') (ha : Apart (.slice A n c) u) : OwnR w' base A n c l := ⟨h.1, own_beside h.2 hb ha⟩
theorem OwnR.nil (w : World) (base : Nat) : OwnR w base none 0 0 [] := ⟨rfl, w.ownsRow_nil _ _ _⟩

theorem wpList_appR {ops : Array Oper} {rest : List Oper} {o : Oper} {a : Act} {Q : Exit → Act → World → Prop} (hw : Region.wanted o (yielded ops a.tmps) = true) (w : World) (s x : Operand)
    (ho : o.op = .call { callee := .builtin .append, args := #[s, x], argTypes := #[37, 37] })
    (base : Nat) (A : Option Addr) (n c : Nat) (zs : List Rg) (hs : a.eval s = .slice A n c) (hown : OwnR w base A n c zs)
    (B : Option Addr) (m d : Nat) (ys : List Rg) (hx : a.eval x = .slice B m d) (hb : Rs w B ys) (hm : ys.length = m)
    (N : Nat) (hN : n + m = N) (small : N ≤ 8796093022200) (hbase : base ≤ w.heap.size)
    (h : ∀ A' c' w', OwnR w' base A' N c' (zs ++ ys) → Below base w w' → Beside (.slice A n c) (.slice A' N c') w w' → wpList Try.prog ops Q rest (a.put o.dst (.slice A' N c')) w') : wpList Try.prog ops Q (o :: rest) a w := by
  obtain ⟨i0, hi, hz0, hz1, hz2⟩ := info_parts rgInfo
  refine wpList_app3 hw w s x 37 ho base 44 i0 _ 2 16 Try.underlying37 hi hz0 hz1 hz2 rfl (by decide) A n c _ hs hown.2 B m d (rcells ys) hx (by rw [rcells_len, hm]) hb
    (rcells_one ys) N hN (by simp only [maxLen]; omega) (by omega) hbase ?_
  intro A' c' w' h2 h3 h4
  exact h A' c' w' ⟨by rw [List.length_append, hown.1, hm, hN], by rw [rcells_app]; exact h2⟩ h3 h4

theorem step_appR {ops : Array Oper} {o : Oper} {a : Act} {K : Act → World → Prop} {Q : Exit → Act → World → Prop} {E : Prop} (hw : Region.wanted o (yielded ops a.tmps) = true) (w : World) (s x : Operand)
    (ho : o.op = .call { callee := .builtin .append, args := #[s, x], argTypes := #[37, 37] })
    (base : Nat) (A : Option Addr) (n c : Nat) (zs : List Rg) (hs : a.eval s = .slice A n c) (hown : OwnR w base A n c zs)
    (B : Option Addr) (m d : Nat) (ys : List Rg) (hx : a.eval x = .slice B m d) (hb : Rs w B ys) (hm : ys.length = m)
    (N : Nat) (hN : n + m = N) (small : N ≤ 8796093022200) (hbase : base ≤ w.heap.size)
    (h : ∀ A' c' w', OwnR w' base A' N c' (zs ++ ys) → Below base w w' → Beside (.slice A n c) (.slice A' N c') w w' → K (a.put o.dst (.slice A' N c')) w') : if Region.wanted o (yielded ops a.tmps) = true then Oper.wp Try.prog o a w K Q else E := by
  obtain ⟨i0, hi, hz0, hz1, hz2⟩ := info_parts rgInfo
  refine step_app3 hw w s x 37 ho base 44 i0 _ 2 16 Try.underlying37 hi hz0 hz1 hz2 rfl (by decide) A n c _ hs hown.2 B m d (rcells ys) hx (by rw [rcells_len, hm]) hb
    (rcells_one ys) N hN (by simp only [maxLen]; omega) (by omega) hbase ?_
  intro A' c' w' h2 h3 h4
  exact h A' c' w' ⟨by rw [List.length_append, hown.1, hm, hN], by rw [rcells_app]; exact h2⟩ h3 h4

theorem OwnR.lt {w : World} {base : Nat} {A : Option Addr} {n c : Nat} {l : List Rg} (h : OwnR w base A n c l) : ∀ k, (Value.slice A n c).ownBlock = some k → base ≤ k ∧ k < w.heap.size := own_block h.2

/-- A list of ranges that has just been laid. -/
theorem rs_new (w : World) (t : TypeId) (l : List Rg) (cs : Array Value) (hcs : cs = (rcells l).toArray) (b : Nat) (hb : b = w.heap.size) : Rs (w.alloc (.cells cs t)) (some ⟨b, 0, none⟩) l := by
  subst hb; subst hcs
  refine .inr ⟨w.heap.size, 0, rfl, by simp, fun j u hu => ?_⟩
  have hh : (w.alloc (.cells (rcells l).toArray t)).heap[w.heap.size]? = some (.cells (rcells l).toArray t (0, 0)) := heap_alloc_new w _
  rw [Nat.zero_add, cell_of_row _ _ j _ t (0, 0) hh]
  simpa using hu

end Go.Proofs.Ytehckiihipnimaa
