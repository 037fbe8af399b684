/-
  The program's file: askOn.
-/
import Derived.Test.YtjlnjeigoncfoaaFtAsk
namespace Go.Proofs.Ytjlnjeigoncfoaa
open Go.RowKit
set_option linter.unusedVariables false
set_option linter.unusedSimpArgs false

theorem may_on {s : Fs} (h0 : s.out.length < 6) (h1 : s.front ≤ 2048) (h2 : s.ended = false ∨ s.front < s.fin) : mayOn s = true := by
  unfold mayOn
  rw [decide_eq_true h0, decide_eq_true h1]
  rcases h2 with h2 | h2
  · rw [h2]; rfl
  · rw [decide_eq_true h2]; simp
theorem may_off {s : Fs} (h : ¬ s.out.length < 6 ∨ ¬ s.front ≤ 2048 ∨ (s.ended = true ∧ ¬ s.front < s.fin)) : ¬ mayOn s = true := by
  unfold mayOn
  rcases h with h | h | ⟨h, h'⟩
  · rw [decide_eq_false h]; simp
  · rw [decide_eq_false h]; simp
  · rw [h, decide_eq_false h']; simp
theorem only_drewN {S : Nat → Prop} (w : World) (n : Nat) : Only S w (World.drewN w n) := only_new (below_drewN (Below.refl _ _) n)

set_option maxHeartbeats 4000000 in
theorem askOn_any (w : World) (T : Nat → Prop) (B : Nat) (s : Fs) (h : FM w T B s) (hs : FsOk s) (hT : ∀ k, T k → k < w.heap.size) :
    Calls Try.prog 16 #[.pointer (some ⟨B, 0, none⟩)] w (RetU w T B (askOn s)) := by
  have H := Lib.hid h
  have HK := Lib.hid hs
  have HT := Lib.hid hT
  have HBl := h.lt
  clear h hs hT
  go_enter Try.func16, Try.ntmps16
  go_wp2
  go_loopg [] 6 (fun gf wx => ∃ s1, FM wx T B s1 ∧ FsOk s1 ∧ askOn s1 = askOn s ∧ Only (fun k => B ≤ k ∧ ¬ T k) w wx ∧ 6 ≤ s1.out.length + gf)
  case atStart => exact ⟨s, H.out, HK.out, rfl, Only.refl _ _, by omega⟩
  case round =>
    obtain ⟨s1, h1, hk1, he1, ho1, hg1⟩ := hrel
    obtain ⟨A, c, ⟨c0, c1, c2, c3⟩, hf, hO, hY⟩ := h1.cells
    have hB := h1.lt
    have f1 := hf 2149
    have H1 := Lib.hid h1
    have HK1 := Lib.hid hk1
    have HE1 := Lib.hid he1
    have HO1 := Lib.hid ho1
    have hf1 := hk1.f1
    have hf0 := hk1.f0
    have HG := Lib.hid hg1
    have hT1 : ∀ k, T k → k < wr.heap.size := fun k hk => Nat.lt_of_lt_of_le (HT.out k hk) ho1.size
    have HT1 := Lib.hid hT1
    clear h1 hk1 he1 ho1 hf hO hY hT1
    obtain ⟨n, hn⟩ : ∃ n, n = s1.out.length := ⟨_, rfl⟩
    rw [← hn] at c0 hg1
    have HN := Lib.hid hn
    clear hn
    have done : ∀ m, ¬ mayOn s1 = true → RetU w T B (askOn s) (.returned (.tuple #[])) (World.drewN wr m) := fun m hm => by
      have e : askOn s = s1 := by rw [← HE1.out]; exact askOn_stay hm
      rw [e]
      exact ⟨rfl, H1.out.new (below_drewN (Below.refl _ _) m), HO1.out.trans (only_drewN (S := fun _ => False) wr m) (fun j hj => hj.elim)⟩
    have DONE := Lib.hid done
    clear done
    have next : ∀ m w5, mayOn s1 = true → RetU (World.drewN wr m) T B (askT (s1.front, 100) s1) (.returned (.tuple #[])) w5 → (FM (w5.setCell ⟨B, 2149, none⟩ (.int .i64 (s1.front + 100))) T B (askOne s1) ∧ FsOk (askOne s1) ∧ askOn (askOne s1) = askOn s ∧ Only (fun k => B ≤ k ∧ ¬ T k) w (w5.setCell ⟨B, 2149, none⟩ (.int .i64 (s1.front + 100)))) := fun m w5 hm ⟨_, q1, q2⟩ => by
      refine ⟨q1.set (s' := askOne s1) 1 _ rfl rfl (fun A c => rfl), HK1.out.one hm, by rw [← HE1.out]; exact (askOn_step hm).symm, ?_⟩
      exact ((HO1.out.trans (only_drewN (S := fun _ => False) wr m) (fun j hj => hj.elim)).trans q2 (fun j hj => .inl hj)).setCell (.inl ⟨Nat.le_refl _, q1.notT⟩) _
    have NEXT := Lib.hid next
    clear next
    have hwr : IntKind.i64.wrap (s1.front + 100) = s1.front + 100 := by rw [IntKind.wrap_i64]; omega
    have cl : ∀ m w5, RetU (World.drewN wr m) T B (askT (s1.front, 100) s1) (.returned (.tuple #[])) w5 → w5.cell? ⟨B, 2149, none⟩ = some (.int .i64 s1.front) ∧ w5.frozen? ⟨B, 2149, none⟩ = false := fun m w5 ⟨_, q1, q2⟩ => by
      obtain ⟨A, c, ⟨c0, c1, c2, c3⟩, hf, -⟩ := q1.cells
      exact ⟨c1, hf _⟩
    have CL := Lib.hid cl
    clear cl
    have HASK : Hid (∀ m, n < 6 → Calls Try.prog 23 #[.pointer (some ⟨B, 0, none⟩), .int .i64 s1.front, .int .i64 100] (World.drewN wr m) (RetU (World.drewN wr m) T B (askT (s1.front, 100) s1))) := Lib.hid (fun m h6 => ask_any _ T B s1 (H1.out.new (below_drewN (Below.refl _ _) m)) (by rw [← HN.out]; omega) (fun k hk => Nat.lt_of_lt_of_le (HT1.out k hk) (below_drewN (Below.refl 0 _) m).size) _ _)
    by_cases h0 : n < 6
    · have i0 : (n : Int) < 6 := by omega
      by_cases h1 : s1.front ≤ 2048
      · rcases he : s1.ended with _ | _
        · rw [he] at c2
          have HM : Hid (mayOn s1 = true) := Lib.hid (may_on (by rw [← HN.out]; exact h0) h1 (.inl he))
          clear he
          go_upto_region 0 with (fail)
          go_quiet (fail)
          go_wp2_with (go_at_call 23; (with_reducible refine (HASK.out _ h0).mono ?_); rintro e w5 hr; obtain ⟨rfl, hr2⟩ := id hr; have hr' : RetU _ T B _ (.returned (.tuple #[])) w5 := ⟨rfl, hr2⟩; have HR := Lib.hid hr'; obtain ⟨c15, f15⟩ := CL.out _ _ hr'; clear hr hr2 hr')
          go_roundg (gk - 1)
          case measure => have := HG.out; omega
          case rel =>
            obtain ⟨q1, q2, q3, q4⟩ := NEXT.out _ _ HM.out HR.out
            exact ⟨_, q1, q2, q3, q4, by have := HG.out; simp [askOne]; omega⟩
        · rw [he] at c2
          by_cases h2 : s1.front < s1.fin
          · have HM : Hid (mayOn s1 = true) := Lib.hid (may_on (by rw [← HN.out]; exact h0) h1 (.inr h2))
            clear he
            go_upto_region 0 with (fail)
            go_quiet (fail)
            go_wp2_with (go_at_call 23; (with_reducible refine (HASK.out _ h0).mono ?_); rintro e w5 hr; obtain ⟨rfl, hr2⟩ := id hr; have hr' : RetU _ T B _ (.returned (.tuple #[])) w5 := ⟨rfl, hr2⟩; have HR := Lib.hid hr'; obtain ⟨c15, f15⟩ := CL.out _ _ hr'; clear hr hr2 hr')
            go_roundg (gk - 1)
            case measure => have := HG.out; omega
            case rel =>
              obtain ⟨q1, q2, q3, q4⟩ := NEXT.out _ _ HM.out HR.out
              exact ⟨_, q1, q2, q3, q4, by have := HG.out; simp [askOne]; omega⟩
          · have HM : Hid (¬ mayOn s1 = true) := Lib.hid (may_off (.inr (.inr ⟨he, h2⟩)))
            clear he
            go_upto_region 0 with (fail)
            go_quiet (fail)
            go_wp2_with fail
            go_end0
            exact DONE.out _ HM.out
      · have HM : Hid (¬ mayOn s1 = true) := Lib.hid (may_off (.inr (.inl h1)))
        go_upto_region 0 with (fail)
        go_quiet (fail)
        go_wp2_with fail
        go_end0
        exact DONE.out _ HM.out
    · have i0 : ¬ (n : Int) < 6 := by omega
      have HM : Hid (¬ mayOn s1 = true) := Lib.hid (may_off (.inl (by rw [← HN.out]; exact h0)))
      go_upto_region 0 with (fail)
      go_quiet (fail)
      go_wp2_with fail
      go_end0
      exact DONE.out _ HM.out

end Go.Proofs.Ytjlnjeigoncfoaa
