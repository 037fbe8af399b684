/-
  Own rows of structs beside a boxed variable; 'make' of a row with room. Nothing of the program.
-/
import Derived.Test.YtdilpebhecmjmaaBox
import Derived.Test.YtdilpebhecmjmaaRow
namespace Go.Proofs.Ytdilpebhecmjmaa
open Go.RowKit
set_option linter.unusedVariables false

/-- the row v does not lie in block B -/
def Off (B : Nat) (v : Value) : Prop := ∀ k, v.ownBlock = some k → k ≠ B

theorem own_keep {w w' : World} {base : Nat} {e : TypeId} {A : Option Addr} {n c : Nat} {vs : List Value} {size : Nat} (h : w.ownsRow base e size (.slice A n c) n vs) (hk : ∀ g, (Value.slice A n c).ownBlock = some g → w'.heap[g]? = w.heap[g]?) :
    w'.ownsRow base e size (.slice A n c) n vs := by
  refine ⟨h.1, ?_⟩
  rcases h.2 with hv | ⟨g, cap, cur, hv, hg, hh, r⟩
  · exact .inl hv
  · exact .inr ⟨g, cap, cur, hv, hg, (hk g (by rw [hv]; rfl)).trans hh, r⟩
theorem own_set {w : World} {base : Nat} {e : TypeId} {A : Option Addr} {n c : Nat} {vs : List Value} {size : Nat} (h : w.ownsRow base e size (.slice A n c) n vs) {B : Nat} (ho : Off B (.slice A n c)) (j : Nat) (u : Value) :
    (w.setCell ⟨B, j, none⟩ u).ownsRow base e size (.slice A n c) n vs :=
  own_keep h fun g hg => Below.heap_setCell _ _ _ _ (ho g hg)

theorem Off.grow {B : Nat} {v v' : Value} {w w' : World} (h : Off B v) (hb : Beside v v' w w') (hB : B < w.heap.size) : Off B v' := fun k hk e => by
  rcases hb.own k hk with g | g
  · exact h k g e
  · omega
theorem Off.nil (B n c : Nat) : Off B (.slice none n c) := fun k hk => by cases hk
theorem Off.under {B : Nat} {v : Value} {base : Nat} (h : ∀ k, v.ownBlock = some k → base ≤ k) (hB : B < base) : Off B v := fun k hk e => by have := h k hk; omega
theorem Off.over {B : Nat} {v : Value} {top : Nat} (h : ∀ k, v.ownBlock = some k → k < top) (hB : top ≤ B) : Off B v := fun k hk e => by have := h k hk; omega
theorem Bx.beside {t : TypeId} {w w' : World} {B : Nat} {cs : Array Value} {v v' : Value} (h : Bx t w B cs) (hb : Beside v v' w w') (ho : Off B v) : Bx t w' B cs :=
  (hb.block B h.lt fun j hj e => ho j hj e.symm).trans h

variable {α : Type} {F : Shape α} {e : TypeId}
theorem OwnL.keep {w w' : World} {base : Nat} {A : Option Addr} {n c : Nat} {l : List α} (h : OwnL F e w base A n c l) (hk : ∀ g, (Value.slice A n c).ownBlock = some g → w'.heap[g]? = w.heap[g]?) : OwnL F e w' base A n c l := ⟨h.1, own_keep h.2 hk⟩
theorem OwnL.set {w : World} {base : Nat} {A : Option Addr} {n c : Nat} {l : List α} (h : OwnL F e w base A n c l) {B : Nat} (ho : Off B (.slice A n c)) (j : Nat) (u : Value) : OwnL F e (w.setCell ⟨B, j, none⟩ u) base A n c l := ⟨h.1, own_set h.2 ho j u⟩
theorem OwnL.set3 {w : World} {base : Nat} {A : Option Addr} {n c : Nat} {l : List α} (h : OwnL F e w base A n c l) {B : Nat} (ho : Off B (.slice A n c)) (u v x : Value) :
    OwnL F e (((w.setCell ⟨B, 0, none⟩ u).setCell ⟨B, 1, none⟩ v).setCell ⟨B, 2, none⟩ x) base A n c l := ((h.set ho _ _).set ho _ _).set ho _ _
theorem OwnL.set2 {w : World} {base : Nat} {A : Option Addr} {n c : Nat} {l : List α} (h : OwnL F e w base A n c l) {B : Nat} (ho : Off B (.slice A n c)) (u v : Value) :
    OwnL F e ((w.setCell ⟨B, 0, none⟩ u).setCell ⟨B, 1, none⟩ v) base A n c l := (h.set ho _ _).set ho _ _

theorem wpList_makeL {P : Program} {ops : Array Oper} {rest : List Oper} {o : Oper} {a : Act} {Q : Exit → Act → World → Prop} (hg : o.guard = none) (w : World) (l c : Operand) (t : TypeId) (hop : o.op = Op.makeSlice t l c)
    (z : Value) (bytes : Nat) (ht : P.underlying t = some (.slice e)) (hinfo : (P.info? e).map (fun i => (i.zero, i.size, i.bytes)) = some (some z, F.size, bytes))
    (base : Nat) (kl kc : IntKind) (C : Int) (n : Nat) (hl : a.eval l = .int kl 0) (hc : a.eval c = .int kc C) (hC : C = (n : Int)) (small : n ≤ 1000000000) (hby : n * bytes ≤ 140737488355328) (hbase : base ≤ w.heap.size)
    (h : ∀ w', OwnL F e w' base (some ⟨w.heap.size, 0, none⟩) 0 n [] → Below w.heap.size w w' → w.heap.size < w'.heap.size → wpList P ops Q rest (a.put o.dst (.slice (some ⟨w.heap.size, 0, none⟩) 0 n)) w') : wpList P ops Q (o :: rest) a w := by
  obtain ⟨i0, hi, hz0, hz1, hz2⟩ := info_parts hinfo
  refine wpList_make_own w hg l c t hop base e i0 z F.size ht hi hz0 hz1 kl kc C n hl hc hC (by rw [hz2, Nat.mul_comm]; omega) (by simp only [maxLen]; omega) hbase ?_
  intro w' h1 h2
  exact h w' ⟨rfl, h1⟩ ((Below.refl _ _).grown h2 (Nat.le_refl _) (fun k hk => by cases hk)) ((h1.lt w.heap.size rfl).2)

end Go.Proofs.Ytdilpebhecmjmaa
