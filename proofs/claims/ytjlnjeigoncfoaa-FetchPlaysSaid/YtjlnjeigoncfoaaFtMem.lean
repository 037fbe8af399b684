/-
  A file that is fetched, in memory; wants, Gots and what is told of them in rows.
-/
import Derived.Test.YtjlnjeigoncfoaaFtMath
import Derived.Test.YtjlnjeigoncfoaaWhole
import Derived.Test.YtjlnjeigoncfoaaBy
import Derived.Test.YtjlnjeigoncfoaaMem2
namespace Go.Proofs.Ytjlnjeigoncfoaa
open Go.RowKit
set_option linter.unusedVariables false
set_option linter.unusedSimpArgs false

def wtS : Shape Wt := { cells := fun x => [.int .i64 x.1, .int .i64 x.2], size := 2, len := fun _ => rfl, pos := by decide, one := by intro x u hu; simp at hu; rcases hu with rfl | rfl <;> rfl }
theorem wtInfo : (Try.prog.info? 33).map (fun i => (i.zero, i.size, i.bytes)) = some (some (.agg #[.int .i64 0, .int .i64 0]), wtS.size, 16) := by kernel_rfl
/-- a Got with the address of its bytes -/
structure Gv where
  g : Gt
  A : Option Addr
  n : Nat
  c : Nat
/-- what is told, with the addresses of its lists -/
structure Nv where
  x : Nx
  S : Option Addr
  m : Nat
  e : Nat
  A : Option Addr
  n : Nat
  c : Nat
def gtS : Shape Gv := { cells := fun x => [.int .i64 x.g.at_, .int .i64 x.g.cnt, .slice x.A x.n x.c], size := 3, len := fun _ => rfl, pos := by decide, one := by intro x u hu; simp at hu; rcases hu with rfl | rfl | rfl <;> rfl }
def neS : Shape Nv := { cells := fun x => [.int .i64 x.x.code, .slice x.S x.m x.e, .bool x.x.done, .slice x.A x.n x.c], size := 4, len := fun _ => rfl, pos := by decide, one := by intro x u hu; simp at hu; rcases hu with rfl | rfl | rfl | rfl <;> rfl }
theorem gtInfo : (Try.prog.info? 42).map (fun i => (i.zero, i.size, i.bytes)) = some (some (.agg #[.int .i64 0, .int .i64 0, .slice none 0 0]), gtS.size, 40) := by kernel_rfl
theorem neInfo : (Try.prog.info? 30).map (fun i => (i.zero, i.size, i.bytes)) = some (some (.agg #[.int .i64 0, .slice none 0 0, .bool false, .slice none 0 0]), neS.size, 64) := by kernel_rfl

/-- the lists of Gots lie where they say -/
def GIn (w : World) (l : List Gv) : Prop := ∀ x ∈ l, Ls byS w x.A x.g.data ∧ x.g.data.length = x.n ∧ x.n ≤ 140737488355328
theorem GIn.below {w w' : World} {l : List Gv} (h : GIn w l) (hb : Below w.heap.size w w') : GIn w' l := fun x hx => by
  obtain ⟨h1, h2⟩ := h x hx
  exact ⟨h1.below hb, h2⟩
/-- the lists that are told lie where they say, and in none of S -/
def EIn (w : World) (S : Nat → Prop) (l : List Nv) : Prop := ∀ x ∈ l, (x.x.data.length = x.n ∧ Ls byS w x.A x.x.data ∧ Clear (fun k => S k ∨ w.heap.size ≤ k) x.A) ∧ x.x.wants.length = x.m ∧ Ls wtS w x.S x.x.wants ∧ Clear (fun k => S k ∨ w.heap.size ≤ k) x.S
theorem EIn.only {w w' : World} {S S' T : Nat → Prop} {l : List Nv} (h : EIn w S l) (ho : Only S' w w') (hS : ∀ k, S' k → S k ∨ w.heap.size ≤ k) (hT : ∀ k, T k → S k ∨ w.heap.size ≤ k) : EIn w' T l := fun x hx => by
  obtain ⟨⟨h1, h2, h3⟩, h4, h5, h6⟩ := h x hx
  have hm : ∀ k, (T k ∨ w'.heap.size ≤ k) → S k ∨ w.heap.size ≤ k := fun k hk => by
    rcases hk with hk | hk
    · exact hT k hk
    · exact .inr (Nat.le_trans ho.size hk)
  exact ⟨⟨h1, h2.only ho (h3.mono hS), h3.mono hm⟩, h4, h5.only ho (h6.mono hS), h6.mono hm⟩
theorem EIn.new {w w' : World} {S : Nat → Prop} {l : List Nv} (h : EIn w S l) (hb : Below w.heap.size w w') : EIn w' S l := h.only (S' := fun _ => False) (only_new hb) (fun _ h => h.elim) (fun _ h => .inl h)
theorem EIn.app {w : World} {S : Nat → Prop} {l : List Nv} {x : Nv} (h : EIn w S l) (hx : (x.x.data.length = x.n ∧ Ls byS w x.A x.x.data ∧ Clear (fun k => S k ∨ w.heap.size ≤ k) x.A) ∧ x.x.wants.length = x.m ∧ Ls wtS w x.S x.x.wants ∧ Clear (fun k => S k ∨ w.heap.size ≤ k) x.S) : EIn w S (l ++ [x]) := fun y hy => by
  rcases List.mem_append.1 hy with hy | hy
  · exact h y hy
  · simp at hy; subst hy; exact hx
/-- what a call answers that tells what Gots came to -/
def RetN (w : World) (ts : List Nx) (e : Ending) (w' : World) : Prop :=
  ∃ A c l, e = .returned (.tuple #[.slice A ts.length c, .int .i64 0]) ∧ OwnL neS 30 w' w.heap.size A ts.length c l ∧ l.map Nv.x = ts ∧ EIn w' (fun _ => False) l ∧ Below w.heap.size w w'
theorem nx_at {w : World} {S : Nat → Prop} {base : Nat} {A : Option Addr} {n c : Nat} {l : List Nv} {ts : List Nx} (ho : OwnL neS 30 w base A n c l) (hm : l.map Nv.x = ts) (he : EIn w S l) (k : Nat) (t : Nx) (ht : ts[k]? = some t) :
    ∃ x : Nv, l[k]? = some x ∧ x.x = t ∧ (Ls byS w x.A t.data ∧ t.data.length = x.n) ∧ Ls wtS w x.S t.wants ∧ t.wants.length = x.m := by
  rw [← hm, List.getElem?_map] at ht
  rcases hx : l[k]? with _ | x
  · rw [hx] at ht; cases ht
  · rw [hx] at ht
    injection ht with ht
    subst ht
    obtain ⟨⟨h1, h2, -⟩, h4, h5, -⟩ := he x (List.mem_of_getElem? hx)
    exact ⟨x, rfl, rfl, ⟨h2, h1⟩, h5, h4⟩

/-- the cells of a file: its bytes, and what stands behind them -/
def ftL (s : Fs) (A : Option Addr) (c : Nat) : List Value := s.dat.map (fun z => .int .u8 z) ++ [.slice A s.out.length c, .int .i64 s.front, .bool s.ended, .int .i64 s.fin]
/-- a file lies at block B; its row lies in none of T -/
def FM (w : World) (T : Nat → Prop) (B : Nat) (s : Fs) : Prop :=
  ∃ A c, Bx 46 w B (ftL s A c).toArray ∧ OwnL wtS 33 w (B + 1) A s.out.length c s.out ∧ (∀ k, (Value.slice A s.out.length c).ownBlock = some k → ¬ T k) ∧ ¬ T B ∧ s.dat.length = room

section
variable {w w' : World} {T T' S : Nat → Prop} {B : Nat} {s s' : Fs}
theorem ft_get (s : Fs) (hl : s.dat.length = room) (A : Option Addr) (c : Nat) (j : Nat) : (ftL s A c).toArray[room + j]? = [.slice A s.out.length c, .int .i64 s.front, .bool s.ended, .int .i64 s.fin][j]? := by
  rw [List.getElem?_toArray, ftL, List.getElem?_append_right (by rw [List.length_map, hl]; omega), List.length_map, hl, Nat.add_sub_cancel_left]
theorem ft_mod (s s' : Fs) (hl : s.dat.length = room) (hd : s'.dat = s.dat) (A A' : Option Addr) (c c' : Nat) (j : Nat) (u : Value)
    (h : [.slice A s.out.length c, .int .i64 s.front, .bool s.ended, .int .i64 s.fin].modify j (fun _ => u) = [.slice A' s'.out.length c', .int .i64 s'.front, .bool s'.ended, .int .i64 s'.fin]) :
    (ftL s A c).toArray.modify (room + j) (fun _ => u) = (ftL s' A' c').toArray := by
  rw [← Array.toList_inj]
  simp only [Array.toList_modify]
  unfold ftL
  rw [hd, ← h]
  apply List.ext_getElem?
  intro i
  rw [List.getElem?_modify, List.getElem?_append, List.getElem?_append, List.length_map, hl]
  by_cases q : i < room
  · rw [if_pos q, if_pos q]
    have q1 : ¬ room + j = i := by omega
    simp [q1]
  · rw [if_neg q, if_neg q, List.getElem?_modify]
    by_cases q1 : room + j = i
    · have q2 : j = i - room := by omega
      simp [q2, show room + (i - room) = i from by omega]
    · have q2 : ¬ j = i - room := by omega
      simp [q1, q2]
theorem FM.lt (h : FM w T B s) : B < w.heap.size := by obtain ⟨A, c, h1, -⟩ := h; exact h1.lt
theorem FM.notT (h : FM w T B s) : ¬ T B := by obtain ⟨A, c, -, -, -, h4, -⟩ := h; exact h4
theorem FM.len (h : FM w T B s) : s.dat.length = room := by obtain ⟨A, c, -, -, -, -, h4⟩ := h; exact h4
theorem FM.only (h : FM w T B s) (ho : Only S w w') (hS : ∀ k, S k → T k ∨ w.heap.size ≤ k) (hT : ∀ k, T' k → T k ∨ w.heap.size ≤ k) : FM w' T' B s := by
  obtain ⟨A, c, h1, h2, h3, h4, h5⟩ := h
  have hlt := h1.lt
  refine ⟨A, c, h1.only ho fun g => ?_, h2.only ho fun k hk g => ?_, fun k hk g => ?_, fun g => ?_, h5⟩
  · rcases hS B g with g | g
    · exact h4 g
    · omega
  · rcases hS k g with g | g
    · exact h3 k hk g
    · have := (h2.lt k hk).2; omega
  · rcases hT k g with g | g
    · exact h3 k hk g
    · have := (h2.lt k hk).2; omega
  · rcases hT B g with g | g
    · exact h4 g
    · omega
theorem FM.new (h : FM w T B s) (ho : Below w.heap.size w w') : FM w' T B s := h.only (S := fun _ => False) (only_new ho) (fun _ h => h.elim) (fun _ h => .inl h)
theorem FM.less (h : FM w T B s) (hT : ∀ k, T' k → T k) : FM w T' B s := h.only (S := fun _ => False) (Only.refl _ _) (fun _ h => h.elim) (fun k hk => .inl (hT k hk))
theorem FM.cells (h : FM w T B s) : ∃ A c,
    (w.cell? ⟨B, 2148, none⟩ = some (.slice A s.out.length c) ∧ w.cell? ⟨B, 2149, none⟩ = some (.int .i64 s.front) ∧ w.cell? ⟨B, 2150, none⟩ = some (.bool s.ended) ∧ w.cell? ⟨B, 2151, none⟩ = some (.int .i64 s.fin)) ∧
    (∀ j, w.frozen? ⟨B, j, none⟩ = false) ∧ OwnL wtS 33 w (B + 1) A s.out.length c s.out ∧ (∀ k, (Value.slice A s.out.length c).ownBlock = some k → B < k ∧ k < w.heap.size ∧ ¬ T k) := by
  obtain ⟨A, c, h1, h2, h3, h4, h5⟩ := h
  have g := ft_get s h5 A c
  exact ⟨A, c, ⟨h1.cell 2148 _ (g 0), h1.cell 2149 _ (g 1), h1.cell 2150 _ (g 2), h1.cell 2151 _ (g 3)⟩, fun j => h1.soft j, h2, fun k hk => ⟨(h2.lt k hk).1, (h2.lt k hk).2, h3 k hk⟩⟩
/-- a store of what is no row -/
theorem FM.set (h : FM w T B s) (j : Nat) (u : Value) (hd : s'.dat = s.dat) (hb : s'.out = s.out) (hC : ∀ A c, [.slice A s.out.length c, .int .i64 s.front, .bool s.ended, .int .i64 s.fin].modify j (fun _ => u) = [.slice A s'.out.length c, .int .i64 s'.front, .bool s'.ended, .int .i64 s'.fin]) : FM (w.setCell ⟨B, 2148 + j, none⟩ u) T B s' := by
  obtain ⟨A, c, h1, h2, h3, h4, h5⟩ := h
  refine ⟨A, c, ?_, ?_, ?_, h4, by rw [hd]; exact h5⟩
  · have := h1.set (2148 + j) u
    rw [show 2148 + j = room + j from rfl] at this ⊢
    rwa [ft_mod s s' h5 hd A A c c j u (hC A c)] at this
  · rw [hb]; exact h2.set (Off.under (fun k hk => (h2.lt k hk).1) (Nat.lt_succ_self B)) _ _
  · rw [hb]; exact h3
/-- its row has turned, or is another one: it is stored -/
theorem FM.row (h : FM w T B s) (A : Option Addr) (c : Nat) (h0 : w.cell? ⟨B, 2148, none⟩ = some (.slice A s.out.length c)) (A' : Option Addr) (n' c' : Nat) (hd : s'.dat = s.dat ∧ s'.front = s.front ∧ s'.ended = s.ended ∧ s'.fin = s.fin) (hn : s'.out.length = n')
    (ho : Only (fun k => (Value.slice A s.out.length c).ownBlock = some k) w w') (hl : OwnL wtS 33 w' (B + 1) A' n' c' s'.out) (hk : ∀ k, (Value.slice A' n' c').ownBlock = some k → (Value.slice A s.out.length c).ownBlock = some k ∨ w.heap.size ≤ k) (hT : ∀ k, T k → k < w.heap.size) :
    FM (w'.setCell ⟨B, 2148, none⟩ (.slice A' n' c')) T B s' ∧ Only (fun k => B ≤ k ∧ ¬ T k) w (w'.setCell ⟨B, 2148, none⟩ (.slice A' n' c')) := by
  obtain ⟨A1, c1, h1, h2, h3, h4, h5⟩ := h
  have g := h1.cell 2148 _ (ft_get s h5 A1 c1 0)
  rw [g] at h0
  injection h0 with h0
  injection h0 with e1 e2 e3
  subst e1; subst e3; subst hn
  refine ⟨⟨A', c', ?_, ?_, ?_, h4, by rw [hd.1]; exact h5⟩, ?_⟩
  · have hB : Bx 46 w' B (ftL s A1 c1).toArray := h1.only ho (fun e => by have := (h2.lt B e).1; omega)
    have := hB.set 2148 (.slice A' s'.out.length c')
    rwa [show 2148 = room + 0 from rfl, ft_mod s s' h5 hd.1 A1 A' c1 c' 0 _ (by rw [hd.2.1, hd.2.2.1, hd.2.2.2]; rfl)] at this
  · exact hl.set (Off.under (fun k hk => (hl.lt k hk).1) (Nat.lt_succ_self B)) _ _
  · intro k hk' ht
    rcases hk k hk' with g | g
    · exact h3 k g ht
    · have := hT k ht; omega
  · refine (ho.mono (fun k hk => ?_)).setCell (.inl ⟨Nat.le_refl _, h4⟩) _
    exact ⟨Nat.le_of_succ_le (h2.lt k hk).1, h3 k hk⟩
/-- its bytes have turned -/
theorem FM.bytes (h : FM w T B s) (cs : Array Value) (hcs : ∀ A c, w.heap[B]? = some (.cells (ftL s A c).toArray 46 (0, 0)) → w'.heap[B]? = some (.cells (ftL s' A c).toArray 46 (0, 0)))
    (ho : Only (fun k => k = B) w w') (hd : s'.out = s.out) (hl : s'.dat.length = room) : FM w' T B s' := by
  obtain ⟨A, c, h1, h2, h3, h4, h5⟩ := h
  refine ⟨A, c, hcs A c h1, ?_, ?_, h4, hl⟩
  · rw [hd]; exact h2.only ho (fun k hk e => by have := (h2.lt k hk).1; omega)
  · rw [hd]; exact h3
end
/-- what a method leaves that answers nothing -/
def RetU (w : World) (T : Nat → Prop) (B : Nat) (s : Fs) (e : Ending) (w' : World) : Prop := e = .returned (.tuple #[]) ∧ FM w' T B s ∧ Only (fun k => B ≤ k ∧ ¬ T k) w w'

end Go.Proofs.Ytjlnjeigoncfoaa
