/-
  What answers names, or an error.
-/
import Derived.Test.YthjpighlcalocaaGreatDoorText
import Derived.Test.YthjpighlcalocaaGreatDoorOff
import Derived.Test.YthjpighlcalocaaGreatDoorKit
import Derived.Test.YthjpighlcalocaaGreatDoorBy
import Derived.Test.YthjpighlcalocaaGreatDoorTool
namespace Go.Proofs.YthjpighlcalocaaGreatDoor
open Go.RowKit
set_option linter.unusedVariables false

/-- a call that answers names, from the world W on -/
def RetN (W : World) (r : Except Int (List Byt)) (e : Ending) (w' : World) : Prop :=
  Below W.heap.size W w' ∧
  match r with
  | .error c => e = .returned (.tuple #[.slice none 0 0, .int .i64 c])
  | .ok l => ∃ A c, e = .returned (.tuple #[.slice A l.length c, .int .i64 0]) ∧ OwnL stS 9 w' W.heap.size A l.length c l
theorem RetN.err {W w' : World} {r : Except Int (List Byt)} {c : Int} (h : r = .error c) (hb : Below W.heap.size W w') : RetN W r (.returned (.tuple #[.slice none 0 0, .int .i64 c])) w' := by
  subst h; exact ⟨hb, rfl⟩
theorem RetN.ok {W w' : World} {r : Except Int (List Byt)} {l : List Byt} {A : Option Addr} {n c : Nat} (h : r = .ok l) (hb : Below W.heap.size W w') (hn : n = l.length) (ho : OwnL stS 9 w' W.heap.size A n c l) : RetN W r (.returned (.tuple #[.slice A n c, .int .i64 0])) w' := by
  subst h; subst hn; exact ⟨hb, A, c, rfl, ho⟩
/-- what is told of either way, with the number of names under a name -/
theorem RetN.is {W w' : World} {r : Except Int (List Byt)} {e : Ending} (h : RetN W r e w') : Below W.heap.size W w' ∧
    ((∃ c, r = .error c ∧ e = .returned (.tuple #[.slice none 0 0, .int .i64 c])) ∨ (∃ l A c n, r = .ok l ∧ n = l.length ∧ e = .returned (.tuple #[.slice A n c, .int .i64 0]) ∧ OwnL stS 9 w' W.heap.size A n c l)) := by
  obtain ⟨hb, h⟩ := h
  refine ⟨hb, ?_⟩
  rcases r with c | l
  · exact .inl ⟨c, rfl, h⟩
  · obtain ⟨A, c, h1, h2⟩ := h
    exact .inr ⟨l, A, c, l.length, rfl, rfl, h1, h2⟩

/-- how far a walk over a path has come -/
def At (r : Except Int (List Byt)) (p : Byt) (k : Nat) (out : List Byt) (part : Byt) : Prop :=
  (k ≤ p.length ∧ r = pfold out (glue part (parts (p.drop k)))) ∨ (k = p.length + 1 ∧ r = .ok out)
theorem At.start (out : List Byt) (p : Byt) : At (pfold out (parts p)) p 0 out [] := .inl ⟨Nat.zero_le _, by rw [List.drop_zero, glue_nil]⟩
theorem At.more {r : Except Int (List Byt)} {p : Byt} {k : Nat} {out : List Byt} {part : Byt} (h : At r p k out part) (hk : k < p.length) (hb : p.getD k 0 ≠ 47) : At r p (k + 1) out (part ++ [p.getD k 0]) := by
  rcases h with ⟨h1, h2⟩ | ⟨h1, _⟩
  · refine .inl ⟨hk, ?_⟩
    rw [h2, List.drop_eq_getElem_cons hk]
    rw [List.getD_eq_getElem?_getD, List.getElem?_eq_getElem hk] at hb ⊢
    exact congrArg _ (glue_cons part _ _ hb)
  · omega
/-- a part is done -/
theorem At.step {r : Except Int (List Byt)} {p : Byt} {k : Nat} {out : List Byt} {part : Byt} (h : At r p k out part) (hk : (k < p.length ∧ p.getD k 0 = 47) ∨ k = p.length) :
    (∀ c, pstep out part = .error c → r = .error c) ∧ ∀ o, pstep out part = .ok o → At r p (k + 1) o [] := by
  rcases h with ⟨h1, h2⟩ | ⟨h1, _⟩
  · rcases hk with ⟨hk, hb⟩ | rfl
    · rw [List.drop_eq_getElem_cons hk] at h2
      rw [List.getD_eq_getElem?_getD, List.getElem?_eq_getElem hk] at hb
      simp only [Option.getD_some] at hb
      rw [hb, glue_slash] at h2
      refine ⟨fun c hc => by rw [h2]; simp only [pfold, hc], fun o ho => .inl ⟨hk, ?_⟩⟩
      rw [h2, glue_nil]
      simp only [pfold, ho]
    · rw [List.drop_length, glue_end, pfold_one] at h2
      exact ⟨fun c hc => by rw [h2, hc], fun o ho => .inr ⟨rfl, by rw [h2, ho]⟩⟩
  · omega
theorem At.end {r : Except Int (List Byt)} {p : Byt} {k : Nat} {out : List Byt} {part : Byt} (h : At r p k out part) (hk : p.length < k) : r = .ok out := by
  rcases h with ⟨h1, _⟩ | ⟨_, h2⟩
  · omega
  · exact h2
theorem pstep_up (out : List Byt) : pstep out [46, 46] = .ok out.dropLast := by simp [pstep]
theorem pstep_dot (out : List Byt) : pstep out [46] = .ok out := by simp [pstep]
theorem pstep_odd {out : List Byt} {p : Byt} (h1 : p ≠ [46, 46]) (h2 : p ≠ []) (h3 : p ≠ [46]) (h : nameB p = false) : pstep out p = .error 4 := by
  unfold pstep; rw [if_neg h1, if_neg (by simp [h2, h3]), if_pos h]
theorem pstep_full {out : List Byt} {p : Byt} (h1 : p ≠ [46, 46]) (h2 : p ≠ []) (h3 : p ≠ [46]) (h : nameB p = true) (hl : 12 ≤ out.length) : pstep out p = .error 9 := by
  unfold pstep; rw [if_neg h1, if_neg (by simp [h2, h3]), if_neg (by rw [h]; decide), if_pos hl]
theorem pfrom_long {out : List Byt} {p : Byt} (h : 200 < p.length) : pfrom out p = .error 1 := by unfold pfrom; rw [if_pos h]
theorem pfrom_short {out : List Byt} {p : Byt} (h : ¬ 200 < p.length) : pfrom out p = pfold out (parts p) := by unfold pfrom; rw [if_neg h]

end Go.Proofs.YthjpighlcalocaaGreatDoor
