/-
  What may have turned: 'Only S w w'': of the blocks that were there those of S alone; and what stays as it was. Nothing of the program.
-/
import Derived.Test.YtdilpebhecmjmaaOff
namespace Go.Proofs.Ytdilpebhecmjmaa
open Go.RowKit
set_option linter.unusedVariables false

/-- Of what was there the blocks of S alone may have turned (new ones may have come). -/
structure Only (S : Nat → Prop) (w w' : World) : Prop where
  os : w'.os = w.os
  tape : w'.tape = w.tape
  output : w'.output = w.output
  size : w.heap.size ≤ w'.heap.size
  block : ∀ k, k < w.heap.size → ¬ S k → w'.heap[k]? = w.heap[k]?

section
variable {S T : Nat → Prop} {w0 w w' : World}
theorem Only.refl (S : Nat → Prop) (w : World) : Only S w w := ⟨rfl, rfl, rfl, Nat.le_refl _, fun _ _ _ => rfl⟩
theorem only_new (h : Below w.heap.size w w') : Only S w w' := ⟨h.os, h.tape, h.output, h.size, fun k hk _ => h.block k hk⟩
theorem Only.below {B : Nat} (h : Only S w w') (hS : ∀ k, S k → B ≤ k) (hB : B ≤ w.heap.size) : Below B w w' :=
  ⟨h.os, h.tape, h.output, h.size, fun k hk => h.block k (by omega) (fun hs => by have := hS k hs; omega)⟩
theorem Only.trans (h : Only S w0 w) (k : Only T w w') (hT : ∀ j, T j → S j ∨ w0.heap.size ≤ j) : Only S w0 w' :=
  ⟨k.os.trans h.os, k.tape.trans h.tape, k.output.trans h.output, Nat.le_trans h.size k.size, fun i hi hs => (k.block i (Nat.lt_of_lt_of_le hi h.size) (fun ht => by
    rcases hT i ht with g | g
    · exact hs g
    · omega)).trans (h.block i hi hs)⟩
theorem Only.mono (h : Only S w w') (hS : ∀ k, S k → T k) : Only T w w' := ⟨h.os, h.tape, h.output, h.size, fun k hk ht => h.block k hk fun hs => ht (hS k hs)⟩
theorem Only.new (h : Only S w0 w) (k : Below w.heap.size w w') : Only S w0 w' := h.trans (T := fun _ => False) (only_new k) (fun _ h => h.elim)
theorem Only.alloc (h : Only S w0 w) (o : Obj) : Only S w0 (w.alloc o) := h.new ((Below.refl _ _).alloc (Nat.le_refl _) _)
theorem Only.drew (h : Only S w0 w) : Only S w0 w.drew := h.new (Below.refl _ _).drew
theorem Only.setCell (h : Only S w0 w) {B j : Nat} (hB : S B ∨ w0.heap.size ≤ B) (u : Value) : Only S w0 (w.setCell ⟨B, j, none⟩ u) :=
  h.trans (T := fun k => k = B) ⟨rfl, rfl, rfl, by simp [World.setCell], fun k _ hk => Below.heap_setCell _ _ _ _ hk⟩ (fun _ hj => by subst hj; exact hB)
theorem Beside.only {v v' : Value} {base : Nat} (h : Beside v v' w w') (hb : Below base w w') : Only (fun k => v.ownBlock = some k) w w' :=
  ⟨hb.os, hb.tape, hb.output, hb.size, fun k hk hs => h.block k hk fun j hj e => hs (e ▸ hj)⟩

/-- an address that leads to none of S -/
def Clear (S : Nat → Prop) (A : Option Addr) : Prop := ∀ a, A = some a → ¬ S a.block
theorem Clear.none (S : Nat → Prop) : Clear S none := fun a h => by cases h
theorem Clear.mono {A : Option Addr} (h : Clear S A) (hS : ∀ k, T k → S k) : Clear T A := fun a ha ht => h a ha (hS _ ht)
theorem Clear.off {A : Option Addr} {n c B : Nat} (h : Clear (· = B) A) : Off B (.slice A n c) := fun k hk e => by
  rcases A with _ | a
  · cases hk
  · exact h a rfl (by simpa [Value.ownBlock, e] using hk)

theorem Bx.only {t : TypeId} {B : Nat} {cs : Array Value} (h : Bx t w B cs) (ho : Only S w w') (hB : ¬ S B) : Bx t w' B cs := (ho.block B h.lt hB).trans h
theorem Cs.only {A : Option Addr} {vs : List Value} (h : Cs w A vs) (ho : Only S w w') (hA : Clear S A) : Cs w' A vs := by
  rcases h with h | ⟨b, o, rfl, hlt, hc⟩
  · exact .inl h
  · exact .inr ⟨b, o, rfl, Nat.lt_of_lt_of_le hlt ho.size, fun j u hu => (World.cell?_of_block (w := w) (a := ⟨b, o + j, none⟩) (ho.block b hlt (hA _ rfl))).trans (hc j u hu)⟩
theorem own_only {base : Nat} {e : TypeId} {A : Option Addr} {n c : Nat} {vs : List Value} {size : Nat} (h : w.ownsRow base e size (.slice A n c) n vs) (ho : Only S w w') (hA : ∀ k, (Value.slice A n c).ownBlock = some k → ¬ S k) :
    w'.ownsRow base e size (.slice A n c) n vs := own_keep h fun g hg => ho.block g (h.lt g hg).2 (hA g hg)
variable {α : Type} {F : Shape α} {e : TypeId}
theorem Ls.only {A : Option Addr} {l : List α} (h : Ls F w A l) (ho : Only S w w') (hA : Clear S A) : Ls F w' A l := Cs.only h ho hA
theorem OwnL.only {base : Nat} {A : Option Addr} {n c : Nat} {l : List α} (h : OwnL F e w base A n c l) (ho : Only S w w') (hA : ∀ k, (Value.slice A n c).ownBlock = some k → ¬ S k) : OwnL F e w' base A n c l := ⟨h.1, own_only h.2 ho hA⟩
/-- an own row lies in blocks from its base on -/
theorem clear_of_own {base : Nat} {A : Option Addr} {n c : Nat} {vs : List Value} {size : Nat} (h : w.ownsRow base e size (.slice A n c) n vs) (hS : ∀ k, S k → k < base ∨ w.heap.size ≤ k) : Clear S A := by
  intro a ha hs
  rcases h.2 with ⟨hv, hn⟩ | ⟨g, cap, cur, hv, hg, _⟩
  · injection hv with hv; rw [hv] at ha; cases ha
  · have hl := h.lt g (by rw [hv]; rfl)
    injection hv with hA
    rw [hA] at ha; injection ha with ha; subst ha
    rcases hS g hs with h1 | h1
    · exact absurd hg (by omega)
    · exact absurd hl.2 (by omega)
end

end Go.Proofs.Ytdilpebhecmjmaa
