/-
  What a call told, element by element; bytes that were sent are few.
-/
import Derived.Test.YtehckiihipnimaaOutlet6
import Derived.Test.YtehckiihipnimaaSents
namespace Go.Proofs.Ytehckiihipnimaa
open Go.RowKit
set_option linter.unusedVariables false
set_option linter.unusedSimpArgs false

/-- an element of a list that a call told -/
theorem told_at {w : World} {S : Nat → Prop} {base : Nat} {A : Option Addr} {n c : Nat} {l : List Sv} {ts : List St} (ho : OwnL seS 29 w base A n c l) (hm : l.map Sv.st = ts) (he : EI w S l) (k : Nat) (t : St) (ht : ts[k]? = some t) :
    ∃ x : Sv, l[k]? = some x ∧ x.st = t ∧ Ls byS w x.A t.data ∧ t.data.length = x.n := by
  rw [← hm, List.getElem?_map] at ht
  rcases hx : l[k]? with _ | x
  · rw [hx] at ht; cases ht
  · rw [hx] at ht
    injection ht with ht
    subst ht
    obtain ⟨h1, h2, -⟩ := he x (List.mem_of_getElem? hx)
    exact ⟨x, rfl, rfl, h2, h1⟩

/-- bytes that were sent are few -/
theorem polls_few {s : Sd} (h : SdOk s) : (polls s).1.data.length ≤ 64 := by
  obtain ⟨ag, at_, m, fin, tz, li, hag, hat, hli, hr, hto, hp, h1, h2, h3, h4, h5, h6⟩ := polls_cases s h
  rw [hp]
  split
  · simp [st0]
  · simp only [List.length_take]; omega
theorem deedR_few {s : Sd} (h : SdOk s) (d : Dd) : (deedR s d).1.data.length ≤ 64 := by
  unfold deedR
  split
  · split
    · simp [st0]
    · split
      · simp [st0]
      · split <;> simp [st0]
  · split
    · split <;> simp [st0]
    · split
      · simp [st0]
      · split
        · simp [st0]
        · split
          · exact polls_few h
          · simp [st0]
theorem sent_few : ∀ {s : Sd} (l : List Dd), SdOk s → ∀ t ∈ sent s l, t.data.length ≤ 64
  | s, [], _, t, h => by simp [sent] at h
  | s, d :: r, hok, t, h => by
    simp only [sent, List.mem_cons] at h
    rcases h with rfl | h
    · exact deedR_few hok d
    · exact sent_few r (deed_ok hok d) t h


end Go.Proofs.Ytehckiihipnimaa
