/-
  A region that draws its order, inside a round of a range over a function: it goes as outside of one, where it defers nothing.
-/
import Derived.OrdersIn
import Derived.TacticsIn
import Derived.RangeFuncCalls
namespace Go.Proofs.Ytgmpablmkpamaaa
open Go.RowKit
set_option linter.unusedVariables false

def calm (o : Oper) : Bool := match o.op with | .defer _ => false | _ => true
theorem calm_ne {o : Oper} (h : calm o = true) : ∀ c, o.op ≠ .defer c := by
  intro c hc
  simp [calm, hc] at h

theorem uponIn_round {n l : Nat} {P : Program} {o : Oper} {a : Act} {K : Act → World → Prop} {Q : Exit → Act → World → Prop} {r : Result Next} (h : o.uponIn Fence.wide n P a K Q r) : o.uponIn (Fence.wide.inRound l) n P a K Q r := h

theorem opIn_round {n l : Nat} {P : Program} {o : Oper} {a : Act} {w : World} {K : Act → World → Prop} {Q : Exit → Act → World → Prop} (hc : calm o = true) (h : o.wpIn Fence.wide n P a w K Q) : o.wpIn (Fence.wide.inRound l) n P a w K Q := by
  unfold Oper.wpIn at *
  refine ⟨h.1, ?_⟩
  have e : Oper.semAt (Fence.wide.inRound l).round a.eval o = Oper.semAt Fence.wide.round a.eval o := by
    show Oper.semAt (some l) a.eval o = Oper.semAt none a.eval o
    rw [Oper.semAt_some l a.eval o (calm_ne hc), Oper.semAt_none]
  rw [e]
  exact uponIn_round h.2

theorem anyIn_round {n l : Nat} {P : Program} {md : Region.Mode} {ops : Array Oper} {Q : Exit → Act → World → Prop} (hc : ops.toList.all calm = true) : ∀ (fuel : Nat) (listed : Array Bool) (a : Act) (w : World),
    wpAnyIn Fence.wide n P md ops Q fuel listed a w → wpAnyIn (Fence.wide.inRound l) n P md ops Q fuel listed a w
  | 0, _, _, _, h => h
  | fuel + 1, listed, a, w, h => by
    refine ⟨h.1, fun i hi => ?_⟩
    have h2 := h.2 i hi
    unfold wpOpIn at h2 ⊢
    cases ho : ops[i]? with
    | none => rw [ho] at h2; exact anyIn_round hc fuel _ _ _ h2
    | some o =>
      rw [ho] at h2
      have hco : calm o = true := List.all_eq_true.1 hc o (by rw [Array.getElem?_eq_some_iff] at ho; obtain ⟨hlt, rfl⟩ := ho; exact Array.getElem_mem_toList hlt)
      simp only at h2 ⊢
      split
      · rename_i hw
        rw [if_pos hw] at h2
        exact opIn_round hco (Oper.wpIn_mono (fun a w hh => anyIn_round hc fuel _ _ _ hh) h2)
      · rename_i hw
        rw [if_neg hw] at h2
        exact ⟨h2.1, anyIn_round hc fuel _ _ _ h2.2⟩

end Go.Proofs.Ytgmpablmkpamaaa
