/-
  Mathematics of who sends: what holds of it, whatever was done.
-/
import Derived.Test.YtehckiihipnimaaSendMath
namespace Go.Proofs.Ytehckiihipnimaa
set_option linter.unusedVariables false

theorem hears_ok {s : Sd} (h : SdOk s) (d : Dd) : SdOk (hears s d).2 := by
  unfold hears
  split
  · exact h
  · rename_i g
    split
    · exact h
    · split
      · exact h
      · generalize hk : marks (pad s.known s.sent) ((0, d.ack) :: d.sacks) = o
        rcases o with _ | k
        · exact h
        · show SdOk { s with known := k, edge := max s.edge (d.ack + d.win) }
          have hl := marks_len _ _ _ hk
          rw [pad_len h.known] at hl
          have hp := places_le s
          have hs := h.sent; have h1 := h.len; have he0 := h.e0; have he1 := h.e1
          simp only [not_or, Int.not_lt] at g
          exact ⟨h.len, h.sent, by simp only; omega, h.todo, by simp only; omega, by simp only; omega⟩

/-- what a poll is made of -/
theorem polls_cases (s : Sd) (h : SdOk s) : ∃ (ag : Bool) (at_ m : Nat) (fin : Bool) (to : Nat) (li : Int),
    ag = decide (skips s.known s.sent s.todo < s.sent) ∧ at_ = (if ag then skips s.known s.sent s.todo else s.sent) ∧ li = (if ag then (s.sent : Int) else s.edge) ∧ (m, fin) = runs s ag li at_ ∧ to = at_ + m + (if fin then 1 else 0) ∧
    polls s = (if to = at_ then ({ st0 with idle := true }, s) else (⟨0, at_, (s.data.drop at_).take m, fin, ag, false, 0⟩, { s with sent := if ag then s.sent else to, todo := to })) ∧
    at_ ≤ s.sent ∧ m ≤ 64 ∧ (0 < m → at_ + m ≤ s.data.length) ∧ (fin = true → at_ + m = s.data.length ∧ s.closed = true) ∧ to ≤ places s ∧ (ag = true → to ≤ s.sent) := by
  obtain ⟨ag, hag⟩ : ∃ ag, ag = decide (skips s.known s.sent s.todo < s.sent) := ⟨_, rfl⟩
  obtain ⟨at_, hat⟩ : ∃ a, a = (if ag then skips s.known s.sent s.todo else s.sent) := ⟨_, rfl⟩
  obtain ⟨li, hli⟩ : ∃ l : Int, l = (if ag then (s.sent : Int) else s.edge) := ⟨_, rfl⟩
  obtain ⟨⟨m, fin⟩, hr⟩ : ∃ r, r = runs s ag li at_ := ⟨_, rfl⟩
  obtain ⟨to, hto⟩ : ∃ t, t = at_ + m + (if fin then 1 else 0) := ⟨_, rfl⟩
  have hpl := places_le s
  have hsk := skip_bd s.known s.sent (s.sent - s.todo) s.todo h.todo
  have hat_s : at_ ≤ s.sent := by rw [hat]; split; exact hsk.2; exact Nat.le_refl _
  have hsent := h.sent
  have main : m ≤ 64 ∧ (0 < m → at_ + m ≤ s.data.length) ∧ (fin = true → at_ + m = s.data.length ∧ s.closed = true) ∧ to ≤ places s ∧ (ag = true → to ≤ s.sent) := by
    by_cases hb : at_ ≤ s.data.length
    · obtain ⟨b1, b2, b3, b4, b5⟩ := run_bd s ag li 66 at_ 0 (by omega) hb
      rw [show run s ag li 66 at_ 0 = (m, fin) from hr.symm] at b1 b2 b3 b4 b5
      simp only [Nat.sub_zero] at b3 b4
      refine ⟨b2, fun _ => b3, fun hf => ⟨(b4 hf).1, (b4 hf).2.1⟩, ?_, fun ha => ?_⟩
      · rw [hto]
        split
        · rename_i hf; have := b4 hf; unfold places; rw [if_pos this.2.1]; omega
        · omega
      · rw [hli, if_pos ha] at b4 b5
        rw [hto]
        split
        · rename_i hf; have := b4 hf; omega
        · rcases b5 with b5 | b5
          · omega
          · simp only at b5; omega
    · have hn : ¬ goes s ag li at_ := fun g => by
        have g2 := g.2.1
        have : at_ = s.data.length + 1 := by omega
        omega
      have : (m, fin) = (0, false) := by
        rw [hr]; unfold runs run; rw [if_neg hn]
      injection this with e1 e2
      subst e1; subst e2
      refine ⟨by omega, by omega, by simp, ?_, fun _ => ?_⟩
      · rw [hto]; simp; omega
      · rw [hto]; simp; omega
  refine ⟨ag, at_, m, fin, to, li, hag, hat, hli, hr, hto, ?_, hat_s, main⟩
  unfold polls
  simp only
  rw [← hag, ← hat, ← hli, ← hr]
  simp only
  rw [← hto]

theorem polls_ok {s : Sd} (h : SdOk s) : SdOk (polls s).2 := by
  obtain ⟨ag, at_, m, fin, to, li, hag, hat, hli, hr, hto, hp, h1, h2, h3, h4, h5, h6⟩ := polls_cases s h
  rw [hp]
  split
  · exact h
  · refine ⟨h.len, ?_, ?_, ?_, h.e0, h.e1⟩
    · show (if ag = true then s.sent else to) ≤ places s
      split
      · exact h.sent
      · exact h5
    · show s.known.length ≤ (if ag = true then s.sent else to)
      have := h.known
      split
      · exact this
      · rename_i hna
        have : at_ = s.sent := by rw [hat, if_neg hna]
        rw [hto]; omega
    · show to ≤ (if ag = true then s.sent else to)
      split
      · rename_i ha; exact h6 ha
      · exact Nat.le_refl _

theorem deed_ok {s : Sd} (h : SdOk s) (d : Dd) : SdOk (deed s d).2 := by
  unfold deed
  simp only
  split
  · split
    · exact h
    · split
      · exact h
      · split
        · exact h
        · rename_i g
          refine ⟨by simp only [List.length_append]; omega, ?_, h.known, h.todo, h.e0, h.e1⟩
          have := h.sent
          unfold places at this ⊢
          simp only [List.length_append]
          omega
  · split
    · split
      · exact h
      · refine ⟨h.len, ?_, h.known, h.todo, h.e0, h.e1⟩
        have := h.sent
        unfold places at this ⊢
        simp only [if_true]
        split at this <;> omega
    · split
      · exact hears_ok h d
      · split
        · have hp := places_le s
          have hl := h.len; have hs := h.sent; have he1 := h.e1; have he0 := h.e0
          refine ⟨h.len, h.sent, h.known, Nat.zero_le _, ?_, ?_⟩
          · simp only; split <;> omega
          · simp only; split <;> omega
        · split
          · exact polls_ok h
          · exact h
theorem cnt_le (k : List Bool) : ∀ n, cnt k n ≤ n
  | 0 => Nat.le_refl _
  | n + 1 => by unfold cnt; have := cnt_le k n; split <;> omega
theorem left_bd {s : Sd} (h : SdOk s) : 0 ≤ left s ∧ left s ≤ 1048576 := by
  have := cnt_le s.known s.sent
  have h1 := h.sent; have h2 := h.len; have h3 := places_le s
  unfold left; omega
theorem sent_len : ∀ (s : Sd) (l : List Dd), (sent s l).length = l.length
  | _, [] => rfl
  | s, d :: t => by simp [sent, sent_len _ t]
theorem sds_app (s : Sd) (l m : List Dd) : sds s (l ++ m) = sds (sds s l) m := by
  induction l generalizing s with
  | nil => rfl
  | cons d t ih => exact ih _
theorem sent_app (s : Sd) (l m : List Dd) : sent s (l ++ m) = sent s l ++ sent (sds s l) m := by
  induction l generalizing s with
  | nil => rfl
  | cons d t ih => exact congrArg ((deed s d).1 :: ·) (ih _)
theorem sds_ok : ∀ {s : Sd} (l : List Dd), SdOk s → SdOk (sds s l)
  | s, [], h => h
  | s, d :: t, h => sds_ok t (deed_ok h d)

end Go.Proofs.Ytehckiihipnimaa
