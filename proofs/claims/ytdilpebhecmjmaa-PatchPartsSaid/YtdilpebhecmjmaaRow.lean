/-
  Lists of structs in memory, whatever the struct: a 'Shape' says which cells an element has. 'Ls' of any list, 'OwnL' of one of the call's own; the builtin append on them. Nothing of the program.
-/
import Derived.Test.YtdilpebhecmjmaaChecked
import Derived.Test.YtdilpebhecmjmaaMem
import Derived.WalkKit
import Derived.Handy
import Derived.Lib.Hide
import Derived.Outline
import Derived.OwnWalk
import Derived.Laws.Rows
import Derived.Below
namespace Go.Proofs.Ytdilpebhecmjmaa
open Go.RowKit
set_option linter.unusedVariables false

structure Shape (α : Type) where
  cells : α → List Value
  size : Nat
  len : ∀ x, (cells x).length = size
  pos : 0 < size
  one : ∀ x, ∀ u ∈ cells x, u.oneCell' = true

section
variable {α : Type} (F : Shape α)

def Shape.flat : List α → List Value
  | [] => []
  | x :: t => F.cells x ++ Shape.flat t
theorem Shape.flat_len : ∀ l : List α, (F.flat l).length = l.length * F.size
  | [] => by simp [Shape.flat]
  | x :: t => by simp only [Shape.flat, List.length_append, F.len, List.length_cons, Shape.flat_len t, Nat.succ_mul]; omega
theorem Shape.flat_app : ∀ l m : List α, F.flat (l ++ m) = F.flat l ++ F.flat m
  | [], m => rfl
  | x :: t, m => by simp only [Shape.flat, List.cons_append, Shape.flat_app t m, List.append_assoc]
theorem Shape.flat_get : ∀ (l : List α) (k : Nat) (x : α) (j : Nat) (v : Value), l[k]? = some x → (F.cells x)[j]? = some v → (F.flat l)[k * F.size + j]? = some v
  | [], k, x, j, v, h, _ => by simp at h
  | y :: t, 0, x, j, v, h, hv => by
    simp at h; subst h
    have hj : j < (F.cells y).length := (List.getElem?_eq_some_iff.1 hv).1
    simp only [Shape.flat, Nat.zero_mul, Nat.zero_add]
    rw [List.getElem?_append_left hj]; exact hv
  | y :: t, k + 1, x, j, v, h, hv => by
    have ih := Shape.flat_get t k x j v (by simpa using h) hv
    simp only [Shape.flat]
    rw [List.getElem?_append_right (by rw [F.len, Nat.succ_mul]; omega), F.len, show (k + 1) * F.size + j - F.size = k * F.size + j by rw [Nat.succ_mul]; omega]
    exact ih
theorem Shape.flat_take : ∀ (l : List α) (k : Nat), F.flat (l.take k) = (F.flat l).take (k * F.size)
  | l, 0 => by simp [Shape.flat]
  | [], k + 1 => by simp [Shape.flat]
  | y :: t, k + 1 => by
    simp only [List.take_succ_cons, Shape.flat, Shape.flat_take t k]
    have h1 : (F.cells y).take ((k + 1) * F.size) = F.cells y := List.take_of_length_le (by rw [F.len, Nat.succ_mul]; omega)
    rw [List.take_append, F.len, show (k + 1) * F.size - F.size = k * F.size by rw [Nat.succ_mul]; omega, h1]
theorem Shape.flat_one : ∀ (l : List α) (u : Value), u ∈ F.flat l → u.oneCell' = true
  | [], u, h => by simp [Shape.flat] at h
  | x :: t, u, h => by
    simp only [Shape.flat, List.mem_append] at h
    rcases h with h | h
    · exact F.one x u h
    · exact Shape.flat_one t u h

/-- The slice's address A leads to the elements l. -/
def Ls (w : World) (A : Option Addr) (l : List α) : Prop := Cs w A (F.flat l)
variable {F}
theorem Ls.nil (w : World) (A : Option Addr) : Ls F w A [] := .inl rfl
theorem Ls.below {w w' : World} {A : Option Addr} {l : List α} (h : Ls F w A l) (hb : Below w.heap.size w w') : Ls F w' A l := Cs.below h hb
theorem Ls.take {w : World} {A : Option Addr} {l : List α} (h : Ls F w A l) (k : Nat) : Ls F w A (l.take k) := by
  unfold Ls; rw [F.flat_take]; exact Cs.take h _
/-- an element's place, and its cells -/
theorem Ls.at {w : World} {A : Option Addr} {l : List α} (h : Ls F w A l) (k : Nat) (x : α) (hk : l[k]? = some x) :
    ∃ b o, A = some ⟨b, o, none⟩ ∧ b < w.heap.size ∧ ∀ (j : Nat) (v : Value), (F.cells x)[j]? = some v → w.cell? ⟨b, o + k * F.size + j, none⟩ = some v := by
  rcases h with h | ⟨b, o, rfl, hlt, hc⟩
  · exfalso
    have h0 : 0 < (F.cells x).length := by rw [F.len]; exact F.pos
    have := F.flat_get l k x 0 _ hk (List.getElem?_eq_getElem h0)
    rw [h] at this; simp at this
  · exact ⟨b, o, rfl, hlt, fun j v hv => by rw [Nat.add_assoc]; exact hc _ _ (F.flat_get l k x j v hk hv)⟩

/-- The slice '.slice A n c' is nil, or of the call's own (a block from 'base' on), and holds the n elements l, each of type e. -/
def OwnL (F : Shape α) (e : TypeId) (w : World) (base : Nat) (A : Option Addr) (n c : Nat) (l : List α) : Prop := l.length = n ∧ w.ownsRow base e F.size (.slice A n c) n (F.flat l)
variable {e : TypeId}
theorem OwnL.ls {w : World} {base : Nat} {A : Option Addr} {n c : Nat} {l : List α} (h : OwnL F e w base A n c l) : Ls F w A l := own_cs h.2
theorem OwnL.below {w w' : World} {base : Nat} {A : Option Addr} {n c : Nat} {l : List α} (h : OwnL F e w base A n c l) (hb : Below w.heap.size w w') : OwnL F e w' base A n c l := ⟨h.1, own_below h.2 hb⟩
theorem OwnL.base {w : World} {base base' : Nat} {A : Option Addr} {n c : Nat} {l : List α} (h : OwnL F e w base A n c l) (hb : base' ≤ base) : OwnL F e w base' A n c l := ⟨h.1, own_base h.2 hb⟩
theorem OwnL.beside {w w' : World} {base : Nat} {A : Option Addr} {n c : Nat} {l : List α} {u u' : Value} (h : OwnL F e w base A n c l) (hb : Beside u u' w w') (ha : Apart (.slice A n c) u) : OwnL F e w' base A n c l := ⟨h.1, own_beside h.2 hb ha⟩
theorem OwnL.nil (w : World) (base : Nat) : OwnL F e w base none 0 0 [] := ⟨rfl, w.ownsRow_nil _ _ _⟩
theorem OwnL.lt {w : World} {base : Nat} {A : Option Addr} {n c : Nat} {l : List α} (h : OwnL F e w base A n c l) : ∀ k, (Value.slice A n c).ownBlock = some k → base ≤ k ∧ k < w.heap.size := own_block h.2

variable {P : Program}
theorem wpList_appL {ops : Array Oper} {rest : List Oper} {o : Oper} {a : Act} {Q : Exit → Act → World → Prop} (hw : Region.wanted o (yielded ops a.tmps) = true) (w : World) (s x : Operand) (t : TypeId)
    (ho : o.op = .call { callee := .builtin .append, args := #[s, x], argTypes := #[t, t] })
    (z : Value) (bytes : Nat) (ht : P.underlying t = some (.slice e)) (hinfo : (P.info? e).map (fun i => (i.zero, i.size, i.bytes)) = some (some z, F.size, bytes)) (hzs : z.cells.size = F.size)
    (base : Nat) (A : Option Addr) (n c : Nat) (zs : List α) (hs : a.eval s = .slice A n c) (hown : OwnL F e w base A n c zs)
    (B : Option Addr) (m d : Nat) (ys : List α) (hx : a.eval x = .slice B m d) (hb : Ls F w B ys) (hm : ys.length = m)
    (N : Nat) (hN : n + m = N) (small : N ≤ 1000000000) (hby : N * bytes ≤ 140737488355328) (hbase : base ≤ w.heap.size)
    (h : ∀ A' c' w', OwnL F e w' base A' N c' (zs ++ ys) → Below base w w' → Beside (.slice A n c) (.slice A' N c') w w' → wpList P ops Q rest (a.put o.dst (.slice A' N c')) w') : wpList P ops Q (o :: rest) a w := by
  obtain ⟨i0, hi, hz0, hz1, hz2⟩ := info_parts hinfo
  refine wpList_app3 hw w s x t ho base e i0 _ F.size bytes ht hi hz0 hz1 hz2 hzs F.pos A n c _ hs hown.2 B m d (F.flat ys) hx (by rw [F.flat_len, hm]) hb
    (F.flat_one ys) N hN (by simp only [maxLen]; omega) (by rw [hN]; exact hby) hbase ?_
  intro A' c' w' h2 h3 h4
  exact h A' c' w' ⟨by rw [List.length_append, hown.1, hm, hN], by rw [F.flat_app]; exact h2⟩ h3 h4

theorem step_appL {ops : Array Oper} {o : Oper} {a : Act} {K : Act → World → Prop} {Q : Exit → Act → World → Prop} {E : Prop} (hw : Region.wanted o (yielded ops a.tmps) = true) (w : World) (s x : Operand) (t : TypeId)
    (ho : o.op = .call { callee := .builtin .append, args := #[s, x], argTypes := #[t, t] })
    (z : Value) (bytes : Nat) (ht : P.underlying t = some (.slice e)) (hinfo : (P.info? e).map (fun i => (i.zero, i.size, i.bytes)) = some (some z, F.size, bytes)) (hzs : z.cells.size = F.size)
    (base : Nat) (A : Option Addr) (n c : Nat) (zs : List α) (hs : a.eval s = .slice A n c) (hown : OwnL F e w base A n c zs)
    (B : Option Addr) (m d : Nat) (ys : List α) (hx : a.eval x = .slice B m d) (hb : Ls F w B ys) (hm : ys.length = m)
    (N : Nat) (hN : n + m = N) (small : N ≤ 1000000000) (hby : N * bytes ≤ 140737488355328) (hbase : base ≤ w.heap.size)
    (h : ∀ A' c' w', OwnL F e w' base A' N c' (zs ++ ys) → Below base w w' → Beside (.slice A n c) (.slice A' N c') w w' → K (a.put o.dst (.slice A' N c')) w') : if Region.wanted o (yielded ops a.tmps) = true then Oper.wp P o a w K Q else E := by
  obtain ⟨i0, hi, hz0, hz1, hz2⟩ := info_parts hinfo
  refine step_app3 hw w s x t ho base e i0 _ F.size bytes ht hi hz0 hz1 hz2 hzs F.pos A n c _ hs hown.2 B m d (F.flat ys) hx (by rw [F.flat_len, hm]) hb
    (F.flat_one ys) N hN (by simp only [maxLen]; omega) (by rw [hN]; exact hby) hbase ?_
  intro A' c' w' h2 h3 h4
  exact h A' c' w' ⟨by rw [List.length_append, hown.1, hm, hN], by rw [F.flat_app]; exact h2⟩ h3 h4

/-- A list of elements that has just been laid. -/
theorem ls_new (w : World) (t : TypeId) (l : List α) (cs : Array Value) (hcs : cs = (F.flat l).toArray) (b : Nat) (hb : b = w.heap.size) : Ls F (w.alloc (.cells cs t)) (some ⟨b, 0, none⟩) l := by
  subst hb; subst hcs
  refine .inr ⟨w.heap.size, 0, rfl, by simp, fun j u hu => ?_⟩
  have hh : (w.alloc (.cells (F.flat l).toArray t)).heap[w.heap.size]? = some (.cells (F.flat l).toArray t (0, 0)) := heap_alloc_new w _
  rw [Nat.zero_add, cell_of_row _ _ j _ t (0, 0) hh]
  simpa using hu

/-- cells that are known element by element are known one by one -/
theorem ls_cells (l : List α) (w : World) (b o : Nat) (h : ∀ i x, l[i]? = some x → ∀ (j : Nat) (v : Value), (F.cells x)[j]? = some v → w.cell? ⟨b, o + i * F.size + j, none⟩ = some v) :
    ∀ j u, (F.flat l)[j]? = some u → w.cell? ⟨b, o + j, none⟩ = some u := by
  intro j u hu
  have hp := F.pos
  have hj : j < l.length * F.size := by
    rcases Nat.lt_or_ge j (l.length * F.size) with g | g
    · exact g
    · rw [List.getElem?_eq_none (by rw [F.flat_len]; exact g)] at hu; cases hu
  have hi : j / F.size < l.length := Nat.div_lt_of_lt_mul (by rw [Nat.mul_comm]; exact hj)
  obtain ⟨x, hx⟩ : ∃ x, l[j / F.size]? = some x := ⟨l[j / F.size], List.getElem?_eq_getElem hi⟩
  have hr : j % F.size < (F.cells x).length := by rw [F.len]; exact Nat.mod_lt _ hp
  obtain ⟨v, hv⟩ : ∃ v, (F.cells x)[j % F.size]? = some v := ⟨_, List.getElem?_eq_getElem hr⟩
  have e : j / F.size * F.size + j % F.size = j := by rw [Nat.mul_comm]; exact Nat.div_add_mod _ _
  have g := F.flat_get l (j / F.size) x (j % F.size) v hx hv
  rw [e, hu] at g
  have k := h _ x hx _ v hv
  rw [Nat.add_assoc, e] at k
  rw [k, g]
theorem ls_of (l : List α) (w : World) (b o : Nat) (hb : l ≠ [] → b < w.heap.size) (h : ∀ i x, l[i]? = some x → ∀ (j : Nat) (v : Value), (F.cells x)[j]? = some v → w.cell? ⟨b, o + i * F.size + j, none⟩ = some v) : Ls F w (some ⟨b, o, none⟩) l := by
  rcases l with _ | ⟨x, t⟩
  · exact Ls.nil _ _
  · exact .inr ⟨b, o, rfl, hb (by simp), ls_cells _ w b o h⟩
theorem list_of {p : Nat → α → Prop} : ∀ n, (∀ i, i < n → ∃ x, p i x) → ∃ l : List α, l.length = n ∧ ∀ i x, l[i]? = some x → p i x
  | 0, _ => ⟨[], rfl, by simp⟩
  | n + 1, h => by
    obtain ⟨l, hl, hp⟩ := list_of n fun i hi => h i (by omega)
    obtain ⟨y, hy⟩ := h n (by omega)
    refine ⟨l ++ [y], by simp [hl], fun i x hx => ?_⟩
    rw [List.getElem?_append] at hx
    split at hx
    · exact hp i x hx
    · rename_i hi
      have hi2 : i - l.length = 0 := by
        rcases Nat.eq_zero_or_pos (i - l.length) with h0 | h0
        · exact h0
        · rw [List.getElem?_eq_none (by simp; omega)] at hx; cases hx
      rw [hi2] at hx
      simp at hx
      subst hx
      rw [show i = n by omega]
      exact hy
end

end Go.Proofs.Ytdilpebhecmjmaa
