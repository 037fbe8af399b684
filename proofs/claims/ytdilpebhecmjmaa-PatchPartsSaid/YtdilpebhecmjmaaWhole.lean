/-
  A row that is a whole block: 'Wh'; make, copy onto it, stores into it (elements of one cell). Nothing of the program.
-/
import Derived.Test.YtdilpebhecmjmaaOnly
import Derived.Laws.CopyOwn
namespace Go.Proofs.Ytdilpebhecmjmaa
open Go.RowKit
set_option linter.unusedVariables false

/-- a slice's address, and the one cell of element k -/
theorem Ls.one {α : Type} {F : Shape α} {w : World} {A : Option Addr} {l : List α} (h : Ls F w A l) (k : Nat) (x : α) (hk : l[k]? = some x) (h1 : F.size = 1) (v : Value) (hv : (F.cells x)[0]? = some v) :
    ∃ b o, A = some ⟨b, o, none⟩ ∧ b < w.heap.size ∧ w.cell? ⟨b, o + k, none⟩ = some v := by
  obtain ⟨b, o, hA, hlt, hc⟩ := h.at k x hk
  have := hc 0 v hv
  rw [h1] at this
  exact ⟨b, o, hA, hlt, by simpa using this⟩

/-- all cells of a list whose elements have one cell each (or there is none) -/
theorem Ls.all {α : Type} {F : Shape α} {w : World} {A : Option Addr} {l : List α} (h : Ls F w A l) (f : α → Value) (hf : ∀ x, F.cells x = [f x]) :
    l = [] ∨ ∃ b o, A = some ⟨b, o, none⟩ ∧ b < w.heap.size ∧ ∀ k x, l[k]? = some x → w.cell? ⟨b, o + k, none⟩ = some (f x) := by
  rcases l with _ | ⟨x, t⟩
  · exact .inl rfl
  · have h1 : F.size = 1 := by rw [← F.len x, hf]; rfl
    obtain ⟨b, o, rfl, hlt, _⟩ := h.one 0 x rfl h1 (f x) (by rw [hf]; rfl)
    refine .inr ⟨b, o, rfl, hlt, fun k y hk => ?_⟩
    obtain ⟨b', o', hA, _, hc⟩ := h.one k y hk h1 (f y) (by rw [hf]; rfl)
    injection hA with hA
    injection hA with e1 e2
    subst e1; subst e2
    exact hc

variable {α : Type} {F : Shape α} {t : TypeId}
/-- block g holds the elements l, and nothing else -/
def Wh (F : Shape α) (t : TypeId) (w : World) (g : Nat) (l : List α) : Prop := Bx t w g (F.flat l).toArray
theorem Wh.lt {w : World} {g : Nat} {l : List α} (h : Wh F t w g l) : g < w.heap.size := Bx.lt h
theorem Wh.only {w w' : World} {g : Nat} {l : List α} {S : Nat → Prop} (h : Wh F t w g l) (ho : Only S w w') (hg : ¬ S g) : Wh F t w' g l := Bx.only h ho hg
theorem Wh.below {w w' : World} {g : Nat} {l : List α} (h : Wh F t w g l) (hb : Below w.heap.size w w') : Wh F t w' g l := Bx.below h hb
theorem Wh.ls {w : World} {g : Nat} {l : List α} (h : Wh F t w g l) : Ls F w (some ⟨g, 0, none⟩) l := by
  rcases l with _ | ⟨x, u⟩
  · exact Ls.nil _ _
  · refine .inr ⟨g, 0, rfl, h.lt, fun j v hv => ?_⟩
    rw [Nat.zero_add]
    exact Bx.cell h j v (by simpa using hv)
theorem flat_map (f : α → Value) (hf : ∀ x, F.cells x = [f x]) : ∀ l : List α, F.flat l = l.map f
  | [] => rfl
  | x :: u => by simp [Shape.flat, hf, flat_map f hf u]
theorem Wh.put {w : World} {g : Nat} {l : List α} (h : Wh F t w g l) (f : α → Value) (hf : ∀ x, F.cells x = [f x]) (j : Nat) (x : α) : Wh F t (w.setCell ⟨g, j, none⟩ (f x)) g (l.set j x) := by
  have := Bx.set h j (f x)
  unfold Wh
  rw [flat_map f hf] at this ⊢
  have e : ((l.map f).toArray.modify j fun _ => f x) = ((l.set j x).map f).toArray := by
    rw [← Array.toList_inj]
    simp only [Array.toList_modify, List.map_set]
    apply List.ext_getElem?
    intro i
    rw [List.getElem?_modify, List.getElem?_set]
    by_cases hij : j = i
    · subst hij
      simp
      by_cases hl : j < l.length
      · simp [hl]
      · simp [hl]
    · simp [hij]
  rw [e] at this
  exact this
theorem Wh.cell {w : World} {g : Nat} {l : List α} (h : Wh F t w g l) (f : α → Value) (hf : ∀ x, F.cells x = [f x]) (j : Nat) (x : α) (hx : l[j]? = some x) : w.cell? ⟨g, j, none⟩ = some (f x) :=
  Bx.cell h j _ (by rw [flat_map f hf]; simp [hx])
theorem Wh.soft {w : World} {g : Nat} {l : List α} (h : Wh F t w g l) (j : Nat) : w.frozen? ⟨g, j, none⟩ = false := Bx.soft h j

theorem wpList_makeW {P : Program} {ops : Array Oper} {rest : List Oper} {o : Oper} {a : Act} {Q : Exit → Act → World → Prop} (hg : o.guard = none) (w : World) (l c : Operand) (T : TypeId) (hop : o.op = Op.makeSlice T l c)
    (z : Value) (bytes : Nat) (ht : P.underlying T = some (.slice t)) (hinfo : (P.info? t).map (fun i => (i.zero, i.size, i.bytes)) = some (some z, F.size, bytes))
    (f : α → Value) (hf : ∀ x, F.cells x = [f x]) (x0 : α) (hz : z.cells = #[f x0])
    (kl kc : IntKind) (L C : Int) (n : Nat) (hl : a.eval l = .int kl L) (hc : a.eval c = .int kc C) (hL : L = (n : Int)) (hC : C = (n : Int)) (small : n ≤ 1000000000) (hby : n * bytes ≤ 140737488355328)
    (h : ∀ w', Wh F t w' w.heap.size (List.replicate n x0) → Below w.heap.size w w' → w.heap.size < w'.heap.size → wpList P ops Q rest (a.put o.dst (.slice (some ⟨w.heap.size, 0, none⟩) n n)) w') : wpList P ops Q (o :: rest) a w := by
  obtain ⟨i0, hi, hz0, hz1, hz2⟩ := info_parts hinfo
  have h1 : F.size = 1 := by rw [← F.len x0, hf]; rfl
  rw [h1] at hz1
  refine wpList_make_full w hg l c T hop w.heap.size t i0 z 1 ht hi hz0 hz1 kl kc L C n hl hc hL hC (by rw [hz2, Nat.mul_comm]; omega) (by simp only [maxLen]; omega) (Nat.le_refl _) ?_
  intro w' hw1 hw2
  have hlt := (hw1.lt w.heap.size rfl).2
  refine h w' ?_ ((Below.refl _ _).grown hw2 (Nat.le_refl _) (fun k hk => by cases hk)) hlt
  rw [hz, Nat.mul_one, toList_madeCells_one] at hw1
  rcases hw1.2 with ⟨hv, _⟩ | ⟨g, cap, cur, hv, _, hh, _, _, hcs, htk⟩
  · cases hv
  · injection hv with hv1 _ hv2
    injection hv1 with hv1
    injection hv1 with hv1
    subst hv1; subst hv2
    unfold Wh Bx
    rw [hh, flat_map f hf]
    have : cur = (List.replicate n (f x0)).toArray := by
      rw [← Array.toList_inj, ← htk, List.take_of_length_le]
      rw [Array.length_toList, hcs]; exact Nat.le_refl _
    rw [this]
    simp

theorem wpList_copyW {P : Program} {ops : Array Oper} {rest : List Oper} {o : Oper} {a : Act} {Q : Exit → Act → World → Prop} (hgd : o.guard = none) (w : World) (d s : Operand) (dT sT : TypeId)
    (ho : o.op = .call { callee := .builtin .copy, args := #[d, s], argTypes := #[dT, sT] }) (hu : P.underlying dT = some (.slice t)) (hsz : (P.info? t).map (·.size) = some 1)
    (f : α → Value) (hf : ∀ x, F.cells x = [f x]) (g n cap : Nat) (l : List α) (hd : a.eval d = .slice (some ⟨g, 0, none⟩) n cap) (hw : Wh F t w g l) (hln : l.length = n)
    (A : Option Addr) (m c : Nat) (ys : List α) (hs : a.eval s = .slice A m c) (hb : Ls F w A ys) (hm : ys.length = m) (hmn : m ≤ n)
    (h : ∀ w', Wh F t w' g (ys ++ l.drop m) → Only (fun k => k = g) w w' → wpList P ops Q rest (a.put o.dst (goInt m)) w') : wpList P ops Q (o :: rest) a w := by
  have hcs : (ys.map f).length = Nat.min m n := by rw [List.length_map, hm]; exact (Nat.min_eq_left hmn).symm
  rcases Nat.eq_zero_or_pos m with h0 | h0
  · subst h0
    obtain rfl : ys = [] := List.eq_nil_of_length_eq_zero hm
    exact wpList_copy_nothing hgd d s dT sT ho t hu hsz _ _ _ _ _ _ hd hs (by simp) (h w (by simpa using hw) (Only.refl _ _))
  · have hpos : ys ≠ [] := fun e => by rw [e] at hm; simp at hm; omega
    rcases hb.all f hf with e | ⟨b, o', rfl, hlt, hcell⟩
    · exact absurd e hpos
    · have hg : w.heap[g]? = some (.cells (l.map f).toArray t (0, 0)) := by have := hw; unfold Wh Bx at this; rw [flat_map f hf] at this; exact this
      refine wpList_copy_own hgd d s dT sT ho t hu hsz g 0 n cap ⟨b, o', none⟩ m c hd hs (l.map f).toArray t hg (ys.map f) hcs ?_ (by simp; omega) (by
        intro v hv
        simp only [List.mem_map] at hv
        obtain ⟨y, _, rfl⟩ := hv
        exact F.one y _ (by rw [hf]; simp)) ?_
      · intro j v hv
        rw [List.getElem?_map] at hv
        rcases hy : ys[j]? with _ | y
        · rw [hy] at hv; cases hv
        · rw [hy] at hv
          simp at hv
          subst hv
          rw [addr_add]
          exact hcell j y hy
      · rw [List.length_map, hm]
        refine h _ ?_ ⟨rfl, rfl, rfl, by simp [World.setRow], fun k _ hk => setRow_other w g k _ hk⟩
        unfold Wh Bx
        rw [flat_map f hf]
        have hlt : g < w.heap.size := lt_of_block hg
        have := setRow_heap w g _ ((l.map f).toArray.toList.take 0 ++ (ys.map f ++ (l.map f).toArray.toList.drop (0 + m))).toArray t _ hg
        simpa using this

/-- a block that has just been laid is an own row -/
theorem ownL_new {e : TypeId} (w : World) (base : Nat) (hb : base ≤ w.heap.size) (l : List α) (n : Nat) (cs : Array Value) (hcs : cs = (F.flat l).toArray) (hn : l.length = n) (hm : n ≤ 1000000) (b : Nat) (hbb : b = w.heap.size) :
    OwnL F e (w.alloc (.cells cs e)) base (some ⟨b, 0, none⟩) n n l := by
  subst hbb; subst hcs
  refine ⟨hn, ?_⟩
  have := World.ownsRow_lit (base := base) (e := e) (size := F.size) w (F.flat l).toArray n hb (by simp only [maxLen]; omega) (by simp [F.flat_len, hn])
  simpa using this

end Go.Proofs.Ytdilpebhecmjmaa
