/-
  Lists of arrivals, and of what they come to, in memory.
-/
import Derived.Test.YtehckiihipnimaaBox6
import Derived.Test.YtehckiihipnimaaShapes
import Derived.Test.YtehckiihipnimaaRecvMath
namespace Go.Proofs.Ytehckiihipnimaa
open Go.RowKit
set_option linter.unusedVariables false

/-- an arrival with the address of its bytes -/
structure Av where
  a : Ar
  A : Option Addr
  n : Nat
  c : Nat
/-- what an arrival comes to, with the addresses of its lists -/
structure Tv where
  t : Tl
  S : Option Addr
  m : Nat
  e : Nat
  A : Option Addr
  n : Nat
  c : Nat
def arS : Shape Av := { cells := fun x => [.int .i64 x.a.kind, .int .i64 x.a.at_, .slice x.A x.n x.c, .bool x.a.fin, .int .i64 x.a.count], size := 5, len := fun _ => rfl, pos := by decide, one := by intro x u hu; simp at hu; rcases hu with rfl | rfl | rfl | rfl | rfl <;> rfl }
def teS : Shape Tv := { cells := fun x => [.int .i64 x.t.code, .int .i64 x.t.ack, .int .i64 x.t.win, .slice x.S x.m x.e, .slice x.A x.n x.c, .bool x.t.stop], size := 6, len := fun _ => rfl, pos := by decide, one := by intro x u hu; simp at hu; rcases hu with rfl | rfl | rfl | rfl | rfl | rfl <;> rfl }
theorem teInfo : (Try.prog.info? 52).map (fun i => (i.zero, i.size, i.bytes)) = some (some (.agg #[.int .i64 0, .int .i64 0, .int .i64 0, .slice none 0 0, .slice none 0 0, .bool false]), teS.size, 80) := by kernel_rfl
theorem arInfo : (Try.prog.info? 61).map (fun i => (i.zero, i.size, i.bytes)) = some (some (.agg #[.int .i64 0, .int .i64 0, .slice none 0 0, .bool false, .int .i64 0]), arS.size, 56) := by kernel_rfl

/-- the lists of arrivals lie where they say -/
def AIn (w : World) (l : List Av) : Prop := ∀ x ∈ l, Ls byS w x.A x.a.data ∧ x.a.data.length = x.n ∧ x.n ≤ 140737488355328 ∧ (∀ z ∈ x.a.data, 0 ≤ z ∧ z ≤ 255)
theorem AIn.below {w w' : World} {l : List Av} (h : AIn w l) (hb : Below w.heap.size w w') : AIn w' l := fun x hx => by
  obtain ⟨h1, h2⟩ := h x hx
  exact ⟨h1.below hb, h2⟩

/-- the lists of what arrivals came to lie where they say, and in none of S -/
def EIr (w : World) (S : Nat → Prop) (l : List Tv) : Prop := ∀ x ∈ l, (x.t.data.length = x.n ∧ Ls byS w x.A x.t.data ∧ Clear (fun k => S k ∨ w.heap.size ≤ k) x.A) ∧ x.t.sacks.length = x.m ∧ Ls rgS w x.S x.t.sacks ∧ Clear (fun k => S k ∨ w.heap.size ≤ k) x.S
theorem EIr.only {w w' : World} {S S' T : Nat → Prop} {l : List Tv} (h : EIr w S l) (ho : Only S' w w') (hS : ∀ k, S' k → S k ∨ w.heap.size ≤ k) (hT : ∀ k, T k → S k ∨ w.heap.size ≤ k) : EIr w' T l := fun x hx => by
  obtain ⟨⟨h1, h2, h3⟩, h4, h5, h6⟩ := h x hx
  have hm : ∀ k, (T k ∨ w'.heap.size ≤ k) → S k ∨ w.heap.size ≤ k := fun k hk => by
    rcases hk with hk | hk
    · exact hT k hk
    · exact .inr (Nat.le_trans ho.size hk)
  exact ⟨⟨h1, h2.only ho (h3.mono hS), h3.mono hm⟩, h4, h5.only ho (h6.mono hS), h6.mono hm⟩
theorem EIr.new {w w' : World} {S : Nat → Prop} {l : List Tv} (h : EIr w S l) (hb : Below w.heap.size w w') : EIr w' S l := h.only (S' := fun _ => False) (only_new hb) (fun _ h => h.elim) (fun _ h => .inl h)
theorem EIr.app {w : World} {S : Nat → Prop} {l : List Tv} {x : Tv} (h : EIr w S l) (hx : (x.t.data.length = x.n ∧ Ls byS w x.A x.t.data ∧ Clear (fun k => S k ∨ w.heap.size ≤ k) x.A) ∧ x.t.sacks.length = x.m ∧ Ls rgS w x.S x.t.sacks ∧ Clear (fun k => S k ∨ w.heap.size ≤ k) x.S) : EIr w S (l ++ [x]) := fun y hy => by
  rcases List.mem_append.1 hy with hy | hy
  · exact h y hy
  · simp at hy; subst hy; exact hx

/-- what a call answers that tells what arrivals came to -/
def RetT (w : World) (ts : List Tl) (e : Ending) (w' : World) : Prop :=
  ∃ A c l, e = .returned (.tuple #[.slice A ts.length c, .int .i64 0]) ∧ OwnL teS 52 w' w.heap.size A ts.length c l ∧ l.map Tv.t = ts ∧ EIr w' (fun _ => False) l ∧ Below w.heap.size w w'
/-- an element of a list that a call told -/
theorem heard_at {w : World} {S : Nat → Prop} {base : Nat} {A : Option Addr} {n c : Nat} {l : List Tv} {ts : List Tl} (ho : OwnL teS 52 w base A n c l) (hm : l.map Tv.t = ts) (he : EIr w S l) (k : Nat) (t : Tl) (ht : ts[k]? = some t) :
    ∃ x : Tv, l[k]? = some x ∧ x.t = t ∧ (Ls byS w x.A t.data ∧ t.data.length = x.n) ∧ Ls rgS w x.S t.sacks ∧ t.sacks.length = x.m := by
  rw [← hm, List.getElem?_map] at ht
  rcases hx : l[k]? with _ | x
  · rw [hx] at ht; cases ht
  · rw [hx] at ht
    injection ht with ht
    subst ht
    obtain ⟨⟨h1, h2, -⟩, h4, h5, -⟩ := he x (List.mem_of_getElem? hx)
    exact ⟨x, rfl, rfl, ⟨h2, h1⟩, h5, h4⟩

end Go.Proofs.Ytehckiihipnimaa
