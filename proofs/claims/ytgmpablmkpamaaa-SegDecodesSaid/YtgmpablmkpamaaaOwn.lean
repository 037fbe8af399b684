/-
  Lists of bytes of the call's own: 'OwnB'; the builtin append on them; stores into them.
-/
import Derived.Test.YtgmpablmkpamaaaFold
import Derived.Test.YtgmpablmkpamaaaMem
import Derived.WalkKit
import Derived.Handy
import Derived.Lib.Hide
import Derived.Outline
import Derived.OwnWalk
import Derived.Laws.Rows
import Derived.Laws.OwnMore
namespace Go.Proofs.Ytgmpablmkpamaaa
open Go.RowKit
set_option linter.unusedVariables false

theorem byteInfo : (Try.prog.info? 5).map (fun i => (i.zero, i.size, i.bytes)) = some (some (.int .u8 0), 1, 1) := by kernel_rfl

/-- The slice '.slice A n c' is nil, or of the call's own (a block from 'base' on), and holds the n bytes zs. -/
def OwnB (w : World) (base : Nat) (A : Option Addr) (n c : Nat) (zs : List Int) : Prop :=
  (∀ z ∈ zs, 0 ≤ z ∧ z ≤ 255) ∧ zs.length = n ∧ w.ownsRow base 5 1 (.slice A n c) n (zs.map (Value.int .u8))

theorem bs_of_cs {w : World} {A : Option Addr} {zs : List Int} (h0 : ∀ z ∈ zs, 0 ≤ z ∧ z ≤ 255) (h : Cs w A (zs.map (Value.int .u8))) : Bs w A zs := by
  refine ⟨h0, ?_⟩
  rcases h with h | ⟨b, o, rfl, hlt, hc⟩
  · exact .inl (by simpa using h)
  · refine .inr ⟨b, o, rfl, hlt, fun j hj => hc j _ ?_⟩
    rw [List.getElem?_map, List.getElem?_eq_getElem hj]
    simp [hj]
theorem Bs.cs {w : World} {A : Option Addr} {zs : List Int} (h : Bs w A zs) : Cs w A (zs.map (Value.int .u8)) := by
  rcases h.2 with h | ⟨b, o, rfl, hlt, hc⟩
  · exact .inl (by rw [h]; rfl)
  · refine .inr ⟨b, o, rfl, hlt, fun j u hu => ?_⟩
    rw [List.getElem?_map] at hu
    by_cases hj : j < zs.length
    · rw [List.getElem?_eq_getElem hj] at hu
      rw [hc j hj, ← hu]
      simp [hj]
    · rw [List.getElem?_eq_none (by omega)] at hu; cases hu
theorem Bs.below {w w' : World} {A : Option Addr} {zs : List Int} (h : Bs w A zs) (hb : Below w.heap.size w w') : Bs w' A zs := bs_of_cs h.1 (h.cs.below hb)
theorem OwnB.bs {w : World} {base : Nat} {A : Option Addr} {n c : Nat} {zs : List Int} (h : OwnB w base A n c zs) : Bs w A zs := bs_of_cs h.1 (own_cs h.2.2)
theorem OwnB.below {w w' : World} {base : Nat} {A : Option Addr} {n c : Nat} {zs : List Int} (h : OwnB w base A n c zs) (hb : Below w.heap.size w w') : OwnB w' base A n c zs :=
  ⟨h.1, h.2.1, own_below h.2.2 hb⟩
theorem OwnB.base {w : World} {base base' : Nat} {A : Option Addr} {n c : Nat} {zs : List Int} (h : OwnB w base A n c zs) (hb : base' ≤ base) : OwnB w base' A n c zs :=
  ⟨h.1, h.2.1, own_base h.2.2 hb⟩
theorem OwnB.nil (w : World) (base : Nat) : OwnB w base none 0 0 [] := ⟨by simp, rfl, w.ownsRow_nil _ _ _⟩

theorem wpList_appB {ops : Array Oper} {rest : List Oper} {o : Oper} {a : Act} {Q : Exit → Act → World → Prop} (hw : Region.wanted o (yielded ops a.tmps) = true) (w : World) (s x : Operand)
    (ho : o.op = .call { callee := .builtin .append, args := #[s, x], argTypes := #[23, 23] })
    (base : Nat) (A : Option Addr) (n c : Nat) (zs : List Int) (hs : a.eval s = .slice A n c) (hown : OwnB w base A n c zs)
    (B : Option Addr) (m d : Nat) (ys : List Int) (hx : a.eval x = .slice B m d) (hb : Bs w B ys) (hm : ys.length = m)
    (N : Nat) (hN : n + m = N) (small : N ≤ 140737488355328) (hbase : base ≤ w.heap.size)
    (h : ∀ A' c' w', OwnB w' base A' N c' (zs ++ ys) → Below base w w' → Beside (.slice A n c) (.slice A' N c') w w' → wpList Try.prog ops Q rest (a.put o.dst (.slice A' N c')) w') : wpList Try.prog ops Q (o :: rest) a w := by
  obtain ⟨i0, hi, hz0, hz1, hz2⟩ := info_parts byteInfo
  refine wpList_app3 hw w s x 23 ho base 5 i0 (.int .u8 0) 1 1 Try.underlying23 hi hz0 hz1 hz2 rfl (by decide) A n c _ hs hown.2.2 B m d (ys.map (Value.int .u8)) hx (by simpa using hm) hb.cs
    (by intro u hu; simp at hu; obtain ⟨y, _, rfl⟩ := hu; rfl) N hN (by simp only [maxLen]; omega) (by omega) hbase ?_
  intro A' c' w' h2 h3 h4
  refine h A' c' w' ⟨?_, ?_, by simpa using h2⟩ h3 h4
  · intro z hz
    rcases List.mem_append.1 hz with h | h
    · exact hown.1 z h
    · exact hb.1 z h
  · rw [List.length_append, hown.2.1, hm, hN]

theorem step_appB {ops : Array Oper} {o : Oper} {a : Act} {K : Act → World → Prop} {Q : Exit → Act → World → Prop} {E : Prop} (hw : Region.wanted o (yielded ops a.tmps) = true) (w : World) (s x : Operand)
    (ho : o.op = .call { callee := .builtin .append, args := #[s, x], argTypes := #[23, 23] })
    (base : Nat) (A : Option Addr) (n c : Nat) (zs : List Int) (hs : a.eval s = .slice A n c) (hown : OwnB w base A n c zs)
    (B : Option Addr) (m d : Nat) (ys : List Int) (hx : a.eval x = .slice B m d) (hb : Bs w B ys) (hm : ys.length = m)
    (N : Nat) (hN : n + m = N) (small : N ≤ 140737488355328) (hbase : base ≤ w.heap.size)
    (h : ∀ A' c' w', OwnB w' base A' N c' (zs ++ ys) → Below base w w' → Beside (.slice A n c) (.slice A' N c') w w' → K (a.put o.dst (.slice A' N c')) w') : if Region.wanted o (yielded ops a.tmps) = true then Oper.wp Try.prog o a w K Q else E := by
  obtain ⟨i0, hi, hz0, hz1, hz2⟩ := info_parts byteInfo
  refine step_app3 hw w s x 23 ho base 5 i0 (.int .u8 0) 1 1 Try.underlying23 hi hz0 hz1 hz2 rfl (by decide) A n c _ hs hown.2.2 B m d (ys.map (Value.int .u8)) hx (by simpa using hm) hb.cs
    (by intro u hu; simp at hu; obtain ⟨y, _, rfl⟩ := hu; rfl) N hN (by simp only [maxLen]; omega) (by omega) hbase ?_
  intro A' c' w' h2 h3 h4
  refine h A' c' w' ⟨?_, ?_, by simpa using h2⟩ h3 h4
  · intro z hz
    rcases List.mem_append.1 hz with h | h
    · exact hown.1 z h
    · exact hb.1 z h
  · rw [List.length_append, hown.2.1, hm, hN]

/-- a call's answer: m bytes of its own -/
theorem Bs.take {w : World} {A : Option Addr} {zs : List Int} (h : Bs w A zs) (k : Nat) : Bs w A (zs.take k) :=
  bs_of_cs (fun z hz => h.1 z (List.mem_of_mem_take hz)) (by rw [List.map_take]; exact h.cs.take k)

theorem bs_new (w : World) (t : TypeId) (zs : List Int) (cs : Array Value) (h0 : ∀ z ∈ zs, 0 ≤ z ∧ z ≤ 255) (hcs : cs = (zs.map (Value.int .u8)).toArray) (b : Nat) (hb : b = w.heap.size) : Bs (w.alloc (.cells cs t)) (some ⟨b, 0, none⟩) zs := by
  subst hb; subst hcs
  refine bs_of_cs h0 (.inr ⟨w.heap.size, 0, rfl, by simp, fun j u hu => ?_⟩)
  have hh : (w.alloc (.cells (zs.map (Value.int .u8)).toArray t)).heap[w.heap.size]? = some (.cells (zs.map (Value.int .u8)).toArray t (0, 0)) := heap_alloc_new w _
  rw [Nat.zero_add, cell_of_row _ _ j _ t (0, 0) hh]
  simpa using hu

theorem OwnB.beside {w w' : World} {base : Nat} {A : Option Addr} {n c : Nat} {l : List Int} {u u' : Value} (h : OwnB w base A n c l) (hb : Beside u u' w w') (ha : Apart (.slice A n c) u) : OwnB w' base A n c l := ⟨h.1, h.2.1, own_beside h.2.2 hb ha⟩
theorem OwnB.lt {w : World} {base : Nat} {A : Option Addr} {n c : Nat} {l : List Int} (h : OwnB w base A n c l) : ∀ k, (Value.slice A n c).ownBlock = some k → base ≤ k ∧ k < w.heap.size := own_block h.2.2
theorem OwnB.some_ {w : World} {base : Nat} {A : Option Addr} {n c : Nat} {zs : List Int} (h : OwnB w base A n c zs) (hn : 0 < n) : ∃ g, A = some ⟨g, 0, none⟩ ∧ base ≤ g ∧ g < w.heap.size := by
  rcases h.2.2.2 with ⟨_, h0⟩ | ⟨g, cap, cur, hv, hg, _⟩
  · omega
  · injection hv with hA _ _
    exact ⟨g, hA, hg, (h.2.2.lt g (by rw [hA]; rfl)).2⟩
theorem OwnB.cell {w : World} {base g : Nat} {n c : Nat} {zs : List Int} (h : OwnB w base (some ⟨g, 0, none⟩) n c zs) (j : Nat) (hj : j < n) : w.cell? ⟨g, j, none⟩ = some (.int .u8 (zs.getD j 0)) := by
  rw [h.2.2.cellAt j (by omega), List.getElem?_map, List.getElem?_eq_getElem (by rw [h.2.1]; exact hj)]
  simp [h.2.1, hj]
theorem OwnB.soft {w : World} {base g : Nat} {n c : Nat} {zs : List Int} (h : OwnB w base (some ⟨g, 0, none⟩) n c zs) (j : Nat) : w.frozen? ⟨g, j, none⟩ = false := h.2.2.frozenAt j
theorem OwnB.put {w : World} {base g : Nat} {n c : Nat} {zs : List Int} (h : OwnB w base (some ⟨g, 0, none⟩) n c zs) (j : Nat) (v : Int) (hv : 0 ≤ v ∧ v ≤ 255) :
    OwnB (w.setCell ⟨g, j, none⟩ (.int .u8 v)) base (some ⟨g, 0, none⟩) n c (zs.set j v) ∧ Below base w (w.setCell ⟨g, j, none⟩ (.int .u8 v)) := by
  obtain ⟨h1, h2⟩ := h.2.2.stored j (.int .u8 v)
  refine ⟨⟨?_, by rw [List.length_set]; exact h.2.1, by rw [List.map_set]; exact h1⟩, (Below.refl _ _).setCell (h.2.2.lt g rfl).1 _⟩
  intro z hz
  rcases List.mem_or_eq_of_mem_set hz with h3 | h3
  · exact h.1 z h3
  · rw [h3]; exact hv

end Go.Proofs.Ytgmpablmkpamaaa
