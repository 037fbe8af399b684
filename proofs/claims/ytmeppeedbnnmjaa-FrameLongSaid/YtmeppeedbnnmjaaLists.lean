/-
  Lists of lists of bytes in memory.
-/
import Derived.Test.YtmeppeedbnnmjaaBy
namespace Go.Proofs.Ytmeppeedbnnmjaa
open Go.RowKit
set_option linter.unusedVariables false

/-- a list of bytes with its address -/
structure Lv where
  l : List Int
  A : Option Addr
  n : Nat
  c : Nat
def lvS : Shape Lv := { cells := fun x => [.slice x.A x.n x.c], size := 1, len := fun _ => rfl, pos := by decide, one := by intro x u hu; simp at hu; subst hu; rfl }
theorem lvInfo : (Try.prog.info? 22).map (fun i => (i.zero, i.size, i.bytes)) = some (some (.slice none 0 0), lvS.size, 24) := by kernel_rfl

/-- lists that came in lie where they say -/
def LIn1 (w : World) (x : Lv) : Prop := Ls byS w x.A x.l ∧ x.l.length = x.n ∧ x.n ≤ x.c ∧ x.c ≤ 140737488351232 ∧ ∀ z ∈ x.l, 0 ≤ z ∧ z ≤ 255
def LIn (w : World) (l : List Lv) : Prop := ∀ x ∈ l, LIn1 w x
theorem LIn.below {w w' : World} {l : List Lv} (h : LIn w l) (hb : Below w.heap.size w w') : LIn w' l := fun x hx => by
  obtain ⟨h1, h2⟩ := h x hx
  exact ⟨h1.below hb, h2⟩

/-- lists lie where they say, and in none of S -/
def LI (w : World) (S : Nat → Prop) (l : List Lv) : Prop := ∀ x ∈ l, x.l.length = x.n ∧ Ls byS w x.A x.l ∧ Clear (fun k => S k ∨ w.heap.size ≤ k) x.A
theorem LI.nil (w : World) (S : Nat → Prop) : LI w S [] := fun x hx => by cases hx
theorem LI.only {w w' : World} {S S' T : Nat → Prop} {l : List Lv} (h : LI w S l) (ho : Only S' w w') (hS : ∀ k, S' k → S k ∨ w.heap.size ≤ k) (hT : ∀ k, T k → S k ∨ w.heap.size ≤ k) : LI w' T l := fun x hx => by
  obtain ⟨h1, h2, h3⟩ := h x hx
  refine ⟨h1, h2.only ho (h3.mono hS), h3.mono fun k hk => ?_⟩
  rcases hk with hk | hk
  · exact hT k hk
  · exact .inr (Nat.le_trans ho.size hk)
theorem LI.new {w w' : World} {S : Nat → Prop} {l : List Lv} (h : LI w S l) (hb : Below w.heap.size w w') : LI w' S l := h.only (S' := fun _ => False) (only_new hb) (fun _ h => h.elim) (fun _ h => .inl h)
theorem LI.mono {w : World} {S T : Nat → Prop} {l : List Lv} (h : LI w S l) (hT : ∀ k, T k → S k ∨ w.heap.size ≤ k) : LI w T l := h.only (Only.refl (fun _ => False) w) (fun _ h => h.elim) hT
theorem LI.app {w : World} {S : Nat → Prop} {l m : List Lv} (h : LI w S l) (h1 : LI w S m) : LI w S (l ++ m) := fun y hy => by
  rcases List.mem_append.1 hy with hy | hy
  · exact h y hy
  · exact h1 y hy
theorem LI.one {w : World} {S : Nat → Prop} {x : Lv} (h1 : x.l.length = x.n) (h2 : Ls byS w x.A x.l) (h3 : Clear (fun k => S k ∨ w.heap.size ≤ k) x.A) : LI w S [x] := fun y hy => by
  simp at hy; subst hy; exact ⟨h1, h2, h3⟩
/-- behind an append onto its row -/
theorem LI.grown {w w' : World} {base : Nat} {S : Nat → Prop} {l : List Lv} {v v' : Value} (h : LI w (fun k => S k ∨ v.ownBlock = some k) l) (hb : Below base w w') (hs : Beside v v' w w') : LI w' (fun k => S k ∨ v'.ownBlock = some k) l :=
  h.only (hs.only hb) (fun k hk => .inl (.inr hk)) (fun k hk => by
    rcases hk with hk | hk
    · exact .inl (.inl hk)
    · rcases hs.own k hk with g | g
      · exact .inl (.inr g)
      · exact .inr g)
/-- an element of a list -/
theorem LI.at {w : World} {S : Nat → Prop} {A : Option Addr} {l : List Lv} {ts : List (List Int)} (ho : Ls lvS w A l) (hm : l.map Lv.l = ts) (he : LI w S l) (k : Nat) (t : List Int) (ht : ts[k]? = some t) :
    ∃ B d, (∃ b o, A = some ⟨b, o, none⟩ ∧ b < w.heap.size ∧ w.cell? ⟨b, o + k, none⟩ = some (.slice B t.length d)) ∧ Ls byS w B t := by
  rw [← hm, List.getElem?_map] at ht
  rcases hx : l[k]? with _ | x
  · rw [hx] at ht; cases ht
  · rw [hx] at ht
    injection ht with ht
    subst ht
    obtain ⟨h1, h2, -⟩ := he x (List.mem_of_getElem? hx)
    obtain ⟨b, o, hA, hb, hc⟩ := ho.at k x hx
    have := hc 0 (.slice x.A x.n x.c) rfl
    simp only [lvS, Nat.mul_one, Nat.add_zero] at this
    exact ⟨x.A, x.c, ⟨b, o, hA, hb, by rw [h1]; exact this⟩, h2⟩
theorem LIn.li {w : World} {l : List Lv} (h : LIn w l) (hc : ∀ x ∈ l, Clear (fun k => w.heap.size ≤ k) x.A) : LI w (fun _ => False) l := fun x hx => by
  obtain ⟨h1, h2, -⟩ := h x hx
  exact ⟨h2, h1, (hc x hx).mono fun k hk => hk.elim (fun h => h.elim) id⟩

end Go.Proofs.Ytmeppeedbnnmjaa
