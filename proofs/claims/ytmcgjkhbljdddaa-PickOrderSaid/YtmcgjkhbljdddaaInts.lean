/-
  Lists of numbers in memory: 'Is' of any, 'OwnI' of those of the call's own; the builtin append on them. Nothing of the program but the numbers of its types.
-/
import Derived.Test.YtmcgjkhbljdddaaChecked
import Derived.Test.YtmcgjkhbljdddaaMem
import Derived.WalkKit
import Derived.Handy
import Derived.Lib.Hide
import Derived.Outline
import Derived.OwnWalk
import Derived.Laws.Rows
import Derived.Below
namespace Go.Proofs.Ytmcgjkhbljdddaa
open Go.RowKit
set_option linter.unusedVariables false

/-! lists of numbers -/
def i64s (z : Int) : Prop := -9223372036854775808 ≤ z ∧ z ≤ 9223372036854775807
/-- The slice's address A leads to the numbers zs. -/
def Is (w : World) (A : Option Addr) (zs : List Int) : Prop := (∀ z ∈ zs, -9223372036854775808 ≤ z ∧ z ≤ 9223372036854775807) ∧ Cs w A (zs.map (Value.int .i64))
theorem Is.nil (w : World) (A : Option Addr) : Is w A [] := ⟨by simp, .inl rfl⟩
theorem Is.below {w w' : World} {A : Option Addr} {l : List Int} (h : Is w A l) (hb : Below w.heap.size w w') : Is w' A l := ⟨h.1, Cs.below h.2 hb⟩
theorem Is.at {w : World} {A : Option Addr} {l : List Int} (h : Is w A l) (k : Nat) (x : Int) (hk : l[k]? = some x) :
    ∃ b o, A = some ⟨b, o, none⟩ ∧ b < w.heap.size ∧ w.cell? ⟨b, o + k, none⟩ = some (.int .i64 x) ∧ -9223372036854775808 ≤ x ∧ x ≤ 9223372036854775807 := by
  have hx := h.1 x (List.mem_of_getElem? hk)
  have hm : (l.map (Value.int .i64))[k]? = some (.int .i64 x) := by rw [List.getElem?_map, hk]; rfl
  rcases h.2 with h | ⟨b, o, rfl, hlt, hc⟩
  · rw [h] at hm; simp at hm
  · exact ⟨b, o, rfl, hlt, hc k _ hm, hx.1, hx.2⟩

theorem intInfo : (Try.prog.info? 3).map (fun i => (i.zero, i.size, i.bytes)) = some (some (.int .i64 0), 1, 8) := by kernel_rfl
def OwnI (w : World) (base : Nat) (A : Option Addr) (n c : Nat) (l : List Int) : Prop := (∀ z ∈ l, -9223372036854775808 ≤ z ∧ z ≤ 9223372036854775807) ∧ l.length = n ∧ w.ownsRow base 3 1 (.slice A n c) n (l.map (Value.int .i64))
theorem OwnI.is {w : World} {base : Nat} {A : Option Addr} {n c : Nat} {l : List Int} (h : OwnI w base A n c l) : Is w A l := ⟨h.1, own_cs h.2.2⟩
theorem OwnI.below {w w' : World} {base : Nat} {A : Option Addr} {n c : Nat} {l : List Int} (h : OwnI w base A n c l) (hb : Below w.heap.size w w') : OwnI w' base A n c l := ⟨h.1, h.2.1, own_below h.2.2 hb⟩
theorem OwnI.base {w : World} {base base' : Nat} {A : Option Addr} {n c : Nat} {l : List Int} (h : OwnI w base A n c l) (hb : base' ≤ base) : OwnI w base' A n c l := ⟨h.1, h.2.1, own_base h.2.2 hb⟩
theorem OwnI.beside {w w' : World} {base : Nat} {A : Option Addr} {n c : Nat} {l : List Int} {u u' : Value} (h : OwnI w base A n c l) (hb : Beside u u' w w') (ha : Apart (.slice A n c) u) : OwnI w' base A n c l := ⟨h.1, h.2.1, own_beside h.2.2 hb ha⟩
theorem OwnI.nil (w : World) (base : Nat) : OwnI w base none 0 0 [] := ⟨by simp, rfl, w.ownsRow_nil _ _ _⟩

theorem step_appI {ops : Array Oper} {o : Oper} {a : Act} {K : Act → World → Prop} {Q : Exit → Act → World → Prop} {E : Prop} (hw : Region.wanted o (yielded ops a.tmps) = true) (w : World) (s x : Operand)
    (ho : o.op = .call { callee := .builtin .append, args := #[s, x], argTypes := #[32, 32] })
    (base : Nat) (A : Option Addr) (n c : Nat) (zs : List Int) (hs : a.eval s = .slice A n c) (hown : OwnI w base A n c zs)
    (B : Option Addr) (m d : Nat) (ys : List Int) (hx : a.eval x = .slice B m d) (hb : Is w B ys) (hm : ys.length = m)
    (N : Nat) (hN : n + m = N) (small : N ≤ 17592186044400) (hbase : base ≤ w.heap.size)
    (h : ∀ A' c' w', OwnI w' base A' N c' (zs ++ ys) → Below base w w' → Beside (.slice A n c) (.slice A' N c') w w' → K (a.put o.dst (.slice A' N c')) w') : if Region.wanted o (yielded ops a.tmps) = true then Oper.wp Try.prog o a w K Q else E := by
  obtain ⟨i0, hi, hz0, hz1, hz2⟩ := info_parts intInfo
  refine step_app3 hw w s x 32 ho base 3 i0 _ 1 8 Try.underlying32 hi hz0 hz1 hz2 rfl (by decide) A n c _ hs hown.2.2 B m d (ys.map (Value.int .i64)) hx (by simpa using hm) hb.2
    (by intro u hu; simp at hu; obtain ⟨y, _, rfl⟩ := hu; rfl) N hN (by simp only [maxLen]; omega) (by omega) hbase ?_
  intro A' c' w' h2 h3 h4
  refine h A' c' w' ⟨?_, ?_, by simpa using h2⟩ h3 h4
  · intro z hz
    rcases List.mem_append.1 hz with h | h
    · exact hown.1 z h
    · exact hb.1 z h
  · rw [List.length_append, hown.2.1, hm, hN]

theorem wpList_appI {ops : Array Oper} {rest : List Oper} {o : Oper} {a : Act} {Q : Exit → Act → World → Prop} (hw : Region.wanted o (yielded ops a.tmps) = true) (w : World) (s x : Operand)
    (ho : o.op = .call { callee := .builtin .append, args := #[s, x], argTypes := #[32, 32] })
    (base : Nat) (A : Option Addr) (n c : Nat) (zs : List Int) (hs : a.eval s = .slice A n c) (hown : OwnI w base A n c zs)
    (B : Option Addr) (m d : Nat) (ys : List Int) (hx : a.eval x = .slice B m d) (hb : Is w B ys) (hm : ys.length = m)
    (N : Nat) (hN : n + m = N) (small : N ≤ 17592186044400) (hbase : base ≤ w.heap.size)
    (h : ∀ A' c' w', OwnI w' base A' N c' (zs ++ ys) → Below base w w' → Beside (.slice A n c) (.slice A' N c') w w' → wpList Try.prog ops Q rest (a.put o.dst (.slice A' N c')) w') : wpList Try.prog ops Q (o :: rest) a w := by
  obtain ⟨i0, hi, hz0, hz1, hz2⟩ := info_parts intInfo
  refine wpList_app3 hw w s x 32 ho base 3 i0 _ 1 8 Try.underlying32 hi hz0 hz1 hz2 rfl (by decide) A n c _ hs hown.2.2 B m d (ys.map (Value.int .i64)) hx (by simpa using hm) hb.2
    (by intro u hu; simp at hu; obtain ⟨y, _, rfl⟩ := hu; rfl) N hN (by simp only [maxLen]; omega) (by omega) hbase ?_
  intro A' c' w' h2 h3 h4
  refine h A' c' w' ⟨?_, ?_, by simpa using h2⟩ h3 h4
  · intro z hz
    rcases List.mem_append.1 hz with h | h
    · exact hown.1 z h
    · exact hb.1 z h
  · rw [List.length_append, hown.2.1, hm, hN]

/-- A list of numbers that has just been laid. -/
theorem is_new (w : World) (t : TypeId) (zs : List Int) (cs : Array Value) (h0 : ∀ z ∈ zs, -9223372036854775808 ≤ z ∧ z ≤ 9223372036854775807) (hcs : cs = (zs.map (Value.int .i64)).toArray) (b : Nat) (hb : b = w.heap.size) : Is (w.alloc (.cells cs t)) (some ⟨b, 0, none⟩) zs := by
  subst hb; subst hcs
  refine ⟨h0, .inr ⟨w.heap.size, 0, rfl, by simp, fun j u hu => ?_⟩⟩
  have hh : (w.alloc (.cells (zs.map (Value.int .i64)).toArray t)).heap[w.heap.size]? = some (.cells (zs.map (Value.int .i64)).toArray t (0, 0)) := heap_alloc_new w _
  rw [Nat.zero_add, cell_of_row _ _ j _ t (0, 0) hh]
  simpa using hu

end Go.Proofs.Ytmcgjkhbljdddaa
