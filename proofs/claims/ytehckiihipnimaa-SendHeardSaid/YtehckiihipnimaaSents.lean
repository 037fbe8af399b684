/-
  Lists of deeds, and of what they come to, in memory.
-/
import Derived.Test.YtehckiihipnimaaBox7
import Derived.Test.YtehckiihipnimaaShapes
import Derived.Test.YtehckiihipnimaaSendOk
namespace Go.Proofs.Ytehckiihipnimaa
open Go.RowKit
set_option linter.unusedVariables false

/-- a deed with the addresses of its lists -/
structure Dv where
  d : Dd
  A : Option Addr
  n : Nat
  c : Nat
  S : Option Addr
  m : Nat
  e : Nat
/-- what a deed comes to, with the address of its bytes -/
structure Sv where
  st : St
  A : Option Addr
  n : Nat
  c : Nat
def deS : Shape Dv := { cells := fun x => [.int .i64 x.d.kind, .slice x.A x.n x.c, .int .i64 x.d.ack, .int .i64 x.d.win, .slice x.S x.m x.e], size := 5, len := fun _ => rfl, pos := by decide, one := by intro x u hu; simp at hu; rcases hu with rfl | rfl | rfl | rfl | rfl <;> rfl }
def seS : Shape Sv := { cells := fun x => [.int .i64 x.st.code, .int .i64 x.st.at_, .slice x.A x.n x.c, .bool x.st.fin, .bool x.st.again, .bool x.st.idle, .int .i64 x.st.left], size := 7, len := fun _ => rfl, pos := by decide, one := by intro x u hu; simp at hu; rcases hu with rfl | rfl | rfl | rfl | rfl | rfl | rfl <;> rfl }
theorem seInfo : (Try.prog.info? 29).map (fun i => (i.zero, i.size, i.bytes)) = some (some (.agg #[.int .i64 0, .int .i64 0, .slice none 0 0, .bool false, .bool false, .bool false, .int .i64 0]), seS.size, 56) := by kernel_rfl
theorem deInfo : (Try.prog.info? 39).map (fun i => (i.zero, i.size, i.bytes)) = some (some (.agg #[.int .i64 0, .slice none 0 0, .int .i64 0, .int .i64 0, .slice none 0 0]), deS.size, 72) := by kernel_rfl

/-- the lists of deeds lie where they say -/
def DIn (w : World) (l : List Dv) : Prop := ∀ x ∈ l, Ls byS w x.A x.d.data ∧ x.d.data.length = x.n ∧ Ls rgS w x.S x.d.sacks ∧ x.d.sacks.length = x.m ∧ x.n ≤ 140737488355328 ∧ x.m ≤ 140737488351232
theorem DIn.below {w w' : World} {l : List Dv} (h : DIn w l) (hb : Below w.heap.size w w') : DIn w' l := fun x hx => by
  obtain ⟨h1, h2, h3, h4, h5⟩ := h x hx
  exact ⟨h1.below hb, h2, h3.below hb, h4, h5⟩

/-- the bytes of what deeds came to lie where they say, and in none of S -/
def EI (w : World) (S : Nat → Prop) (l : List Sv) : Prop := ∀ x ∈ l, x.st.data.length = x.n ∧ Ls byS w x.A x.st.data ∧ Clear (fun k => S k ∨ w.heap.size ≤ k) x.A
theorem EI.only {w w' : World} {S S' T : Nat → Prop} {l : List Sv} (h : EI w S l) (ho : Only S' w w') (hS : ∀ k, S' k → S k ∨ w.heap.size ≤ k) (hT : ∀ k, T k → S k ∨ w.heap.size ≤ k) : EI w' T l := fun x hx => by
  obtain ⟨h1, h2, h3⟩ := h x hx
  refine ⟨h1, h2.only ho (h3.mono hS), h3.mono fun k hk => ?_⟩
  rcases hk with hk | hk
  · exact hT k hk
  · exact .inr (Nat.le_trans ho.size hk)
theorem EI.new {w w' : World} {S : Nat → Prop} {l : List Sv} (h : EI w S l) (hb : Below w.heap.size w w') : EI w' S l := h.only (S' := fun _ => False) (only_new hb) (fun _ h => h.elim) (fun _ h => .inl h)
theorem EI.app {w : World} {S : Nat → Prop} {l : List Sv} {x : Sv} (h : EI w S l) (h1 : x.st.data.length = x.n) (h2 : Ls byS w x.A x.st.data) (h3 : Clear (fun k => S k ∨ w.heap.size ≤ k) x.A) : EI w S (l ++ [x]) := fun y hy => by
  rcases List.mem_append.1 hy with hy | hy
  · exact h y hy
  · simp at hy; subst hy; exact ⟨h1, h2, h3⟩

/-- what a call answers that tells what deeds came to -/
def RetS (w : World) (ts : List St) (e : Ending) (w' : World) : Prop :=
  ∃ A c l, e = .returned (.tuple #[.slice A ts.length c, .int .i64 0]) ∧ OwnL seS 29 w' w.heap.size A ts.length c l ∧ l.map Sv.st = ts ∧ EI w' (fun _ => False) l ∧ Below w.heap.size w w'

theorem sent_take (s : Sd) (l : List Dd) (k : Nat) (d : Dd) (h : l[k]? = some d) : sent s (l.take (k + 1)) = sent s (l.take k) ++ [(deed (sds s (l.take k)) d).1] ∧ sds s (l.take (k + 1)) = (deed (sds s (l.take k)) d).2 := by
  have e : l.take (k + 1) = l.take k ++ [d] := by rw [List.take_add_one, h]; rfl
  rw [e, sent_app, sds_app]
  exact ⟨rfl, rfl⟩

end Go.Proofs.Ytehckiihipnimaa
