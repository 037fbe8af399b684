/-
  Mathematics of who sends: what a poll tells, and what is left.
-/
import Derived.Test.YtehckiihipnimaaSendOk
namespace Go.Proofs.Ytehckiihipnimaa
set_option linter.unusedVariables false

/-- what a poll tells that tells something -/
structure PollG (s : Sd) (a m : Nat) (fin ag : Bool) (s' : Sd) : Prop where
  few : m ≤ 64
  inn : a + m ≤ s.data.length
  fi : fin = true → a + m = s.data.length ∧ s.closed = true
  some_ : m = 0 → fin = true
  again : ag = true → a + m + (if fin then 1 else 0) ≤ s.sent ∧ s'.sent = s.sent ∧ hd s.known a = false
  new : ag = false → a = s.sent ∧ ((a + m + (if fin then 1 else 0) : Nat) : Int) ≤ s.edge ∧ s'.sent = a + m + (if fin then 1 else 0)
  todo : s'.todo = a + m + (if fin then 1 else 0) ∧ s.todo ≤ a
  data : s'.data = s.data
  closed : s'.closed = s.closed
  edge : s'.edge = s.edge
  known : s'.known = s.known

theorem skip_hd (k : List Bool) (sent : Nat) : ∀ f n, sent - n ≤ f → skip k sent f n < sent → hd k (skip k sent f n) = false
  | 0, n, h, h2 => by simp only [skip] at h2; omega
  | f + 1, n, h, h2 => by
    unfold skip at h2 ⊢
    split at h2
    · rename_i g
      rw [if_pos g]
      exact skip_hd k sent f (n + 1) (by omega) h2
    · rename_i g
      rw [if_neg g]
      rcases hv : hd k n with _ | _
      · rfl
      · exact absurd ⟨h2, hv⟩ g
theorem poll_good {s : Sd} (h : SdOk s) : polls s = ({ st0 with idle := true }, s) ∨ ∃ (a m : Nat) (fin ag : Bool) (s' : Sd), polls s = (⟨0, a, (s.data.drop a).take m, fin, ag, false, 0⟩, s') ∧ PollG s a m fin ag s' := by
  obtain ⟨ag, at_, m, fin, tz, li, hag, hat, hli, hr, hto, hp, h1, h2, h3, h4, h5, h6⟩ := polls_cases s h
  by_cases he : tz = at_
  · left; rw [hp, if_pos he]
  · right
    rw [if_neg he] at hp
    have hpl := places_le s
    have hsk := skip_bd s.known s.sent (s.sent - s.todo) s.todo h.todo
    have hb : at_ ≤ s.data.length := by
      rcases fin with _ | _
      · have : 0 < m := by simp at hto; omega
        have := h3 this; omega
      · have := (h4 rfl).1; omega
    obtain ⟨b1, b2, b3, b4, b5⟩ := run_bd s ag li 66 at_ 0 (by omega) hb
    rw [show run s ag li 66 at_ 0 = (m, fin) from hr.symm] at b1 b2 b3 b4 b5
    simp only [Nat.sub_zero] at b3 b4
    refine ⟨at_, m, fin, ag, _, hp, ⟨h2, b3, h4, fun hm => ?_, fun ha => ?_, fun ha => ?_, ⟨hto, ?_⟩, rfl, rfl, rfl, rfl⟩⟩
    · rcases fin with _ | _
      · simp at hto; omega
      · rfl
    · refine ⟨by rw [← hto]; exact h6 ha, by simp only; rw [if_pos ha], ?_⟩
      rw [ha] at hag hat
      simp only [if_true] at hat
      have := of_decide_eq_true hag.symm
      rw [hat]
      exact skip_hd _ _ _ _ (by omega) this
    · rw [ha] at hat hli
      simp only [Bool.false_eq_true, if_false] at hat hli
      refine ⟨hat, ?_, by simp only; rw [ha]; simp only [Bool.false_eq_true, if_false]; exact hto⟩
      rw [hli] at b4 b5
      rcases fin with _ | _
      · simp only [Bool.false_eq_true, if_false]
        rcases b5 with b5 | b5
        · simp at hto; omega
        · simp only at b5; omega
      · have := b4 rfl
        simp only [if_true]
        omega
    · rcases ag with _ | _
      · simp only [Bool.false_eq_true, if_false] at hat
        rw [hat]; exact h.todo
      · simp only [if_true] at hat
        rw [hat]; exact hsk.1

theorem left_places {s : Sd} (h : SdOk s) : 0 ≤ left s ∧ left s ≤ s.data.length + 1 := by
  have := cnt_le s.known s.sent
  have h1 := h.sent; have h3 := places_le s
  unfold left; omega

/-- who sends behind a deed, by its kind -/
theorem deed_submit (s : Sd) (d : Dd) (hk : d.kind = 1) : ((deed s d).1.code = 0 ∧ (deed s d).2 = { s with data := s.data ++ d.data }) ∨ ((deed s d).1.code ≠ 0 ∧ (deed s d).2 = s) := by
  unfold deed
  simp only [hk, if_true]
  split
  · exact .inr ⟨by simp, rfl⟩
  · split
    · exact .inr ⟨by simp, rfl⟩
    · split
      · exact .inr ⟨by simp, rfl⟩
      · exact .inl ⟨rfl, rfl⟩
theorem deed_close (s : Sd) (d : Dd) (hk : d.kind = 5) : ((deed s d).1.code = 0 ∧ s.closed = false ∧ (deed s d).2 = { s with closed := true }) ∨ ((deed s d).1.code = 10 ∧ s.closed = true ∧ (deed s d).2 = s) := by
  unfold deed
  simp only [hk, show ¬ (5 : Int) = 1 by omega, if_true, if_false]
  rcases hc : s.closed with _ | _
  · exact .inl ⟨rfl, rfl, rfl⟩
  · exact .inr ⟨rfl, rfl, rfl⟩
theorem deed_heard (s : Sd) (d : Dd) (hk : d.kind = 2) : ((deed s d).1.code = 0 ∧ ∃ k, (deed s d).2 = { s with known := k, edge := max s.edge (d.ack + d.win) }) ∨ ((deed s d).1.code ≠ 0 ∧ (deed s d).2 = s) := by
  unfold deed
  simp only [hk, show ¬ (2 : Int) = 1 by omega, show ¬ (2 : Int) = 5 by omega, if_true, if_false]
  unfold hears
  split
  · exact .inr ⟨by simp, rfl⟩
  · split
    · exact .inr ⟨by simp, rfl⟩
    · split
      · exact .inr ⟨by simp, rfl⟩
      · generalize marks (pad s.known s.sent) ((0, d.ack) :: d.sacks) = o
        rcases o with _ | k
        · exact .inr ⟨by simp [hearK], rfl⟩
        · exact .inl ⟨rfl, k, rfl⟩
theorem deed_timeout (s : Sd) (d : Dd) (hk : d.kind = 4) : (deed s d).1.code = 0 ∧ (deed s d).2 = { s with todo := 0, edge := if cnt s.known s.sent = s.sent ∧ s.sent < places s ∧ s.edge ≤ s.sent then s.sent + 1 else s.edge } := by
  unfold deed
  simp only [hk, show ¬ (4 : Int) = 1 by omega, show ¬ (4 : Int) = 5 by omega, show ¬ (4 : Int) = 2 by omega, if_true, if_false]
  exact ⟨rfl, trivial⟩
theorem deed_poll (s : Sd) (d : Dd) (hk : d.kind = 3) : deed s d = ({ (polls s).1 with left := left (polls s).2 }, (polls s).2) := by
  unfold deed
  simp only [hk, show ¬ (3 : Int) = 1 by omega, show ¬ (3 : Int) = 5 by omega, show ¬ (3 : Int) = 2 by omega, show ¬ (3 : Int) = 4 by omega, if_true, if_false]
theorem deed_left (s : Sd) (d : Dd) : (deed s d).1.left = left (deed s d).2 := rfl

end Go.Proofs.Ytehckiihipnimaa
