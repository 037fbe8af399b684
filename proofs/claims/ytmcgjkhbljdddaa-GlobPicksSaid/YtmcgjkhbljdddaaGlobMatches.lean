/-
  The document's GlobMatch; the walk of GlobMatches.
-/
import Derived.Test.YtmcgjkhbljdddaaGlobMays
import Derived.Test.YtmcgjkhbljdddaaGlobRefO
namespace Go.Proofs.Ytmcgjkhbljdddaa
open Go.RowKit
set_option linter.unusedVariables false
set_option linter.unusedSimpArgs false

theorem rgT_len : ∀ (n : Nat) (l : Byt) (rs : List (UInt8 × UInt8)), l.length ≤ n → rgT l = some rs → rs.length ≤ l.length
  | n, [], rs, _, h => by injection h with h; subst h; simp
  | 0, c :: t, rs, hl, h => by simp at hl
  | n + 1, c :: t, rs, hl, h => by
    rw [rgT_step (by simp)] at h
    split at h
    · cases h
    · rcases hr : rgT ((c :: t).drop (nxN (c :: t))) with _ | q
      · rw [hr] at h; cases h
      · rw [hr] at h
        injection h with h; subst h
        have h1 := nx_le (l := c :: t) (by simp)
        have h2 : ((c :: t).drop (nxN (c :: t))).length ≤ n := by rw [List.length_drop]; omega
        have h3 := rgT_len n _ q h2 hr
        rw [List.length_drop] at h3
        rw [List.length_cons]; omega
theorem fs_rg {s r : Byt} {it : Gi} (h : fsT s = some (it, r)) : it.rgs.length ≤ s.length := by
  rcases s with _ | ⟨c, t⟩
  · cases h
  · by_cases h1 : c = 42 ∨ c = 63
    · rw [fsT_any t h1] at h; injection h with h; injection h with e1 e2; subst e1; simp
    · by_cases h2 : c = 92
      · subst h2
        rcases t with _ | ⟨b, t⟩
        · cases h
        · rw [fsT_esc] at h; injection h with h; injection h with e1 e2; subst e1; simp
      · by_cases h3 : c = 91
        · subst h3
          rw [fsT_set] at h
          unfold setT at h
          rcases hr : rgT (bodyT (setU t)) with _ | rs
          · rw [hr] at h; cases h
          · rw [hr] at h
            simp only [] at h
            by_cases h4 : rs = [] ∨ (setE (setU t)).head? ≠ some 93
            · rw [if_pos h4] at h; cases h
            · rw [if_neg h4] at h
              injection h with h; injection h with e1 e2; subst e1
              have g1 := rgT_len _ _ rs (Nat.le_refl _) hr
              have g2 : (bodyT (setU t)).length ≤ (setU t).length := (List.takeWhile_sublist _).length_le
              have g3 := setU_len t
              show rs.length ≤ _
              rw [List.length_cons]; omega
        · rw [fsT_one t (fun e => h1 (.inl e)) (fun e => h1 (.inr e)) h2 h3] at h; injection h with h; injection h with e1 e2; subst e1; simp
theorem itF_rg : ∀ (n : Nat) (s : Byt) (its : List Gi), itF n s = some its → ∀ it ∈ its, it.rgs.length ≤ s.length
  | 0, s, its, h, it, hi => by injection h with h; subst h; cases hi
  | n + 1, [], its, h, it, hi => by injection h with h; subst h; cases hi
  | n + 1, c :: t, its, h, it, hi => by
    simp only [itF] at h
    rcases hf : fsT (c :: t) with _ | ⟨it0, r⟩
    · rw [hf] at h; cases h
    · rw [hf] at h
      simp only [] at h
      rcases hr : itF n r with _ | q
      · rw [hr] at h; cases h
      · rw [hr] at h
        injection h with h; subst h
        rcases List.mem_cons.1 hi with rfl | g
        · exact fs_rg hf
        · have h1 := itF_rg n r q hr it g
          have h2 := fsT_lt hf
          omega
theorem pat_rg {s : Byt} {its : List Gi} (h : patT s = some its) : ∀ it ∈ its, it.rgs.length ≤ 40 := fun it hi => by
  unfold patT at h
  by_cases h40 : 40 < s.length
  · rw [if_pos h40] at h; cases h
  · rw [if_neg h40] at h
    have := itF_rg _ _ _ h it hi
    omega

theorem rmatch_any (p s : Byt) (w : World) :
    Calls Try.prog 14 #[.string (tx p), .string (tx s)] w fun e w' => e = .returned (.tuple #[.bool (matT p s).1, .int .i64 (matT p s).2]) ∧ Below w.heap.size w w' := by
  have hts := tx_size s
  unfold matT
  rcases hp : patT p with _ | its
  · have HC := Lib.hid (items_none hp w)
    clear hp
    go_enter Try.func14, Try.ntmps14
    go_wp2_with (go_at_call 24; refine HC.out.mono ?_; rintro e w1 ⟨hb1, rfl⟩; have HB := Lib.hid hb1; clear hb1)
    go_ret2
    exact ⟨rfl, HB.out⟩
  · have HC := Lib.hid (items_some hp w)
    have hl40 := patT_len hp
    have HRG := Lib.hid (pat_rg hp)
    obtain ⟨n, hn⟩ : ∃ n, its.length = n := ⟨_, rfl⟩
    have HN := Lib.hid hn
    rw [hn] at HC hl40
    clear hp hn
    by_cases h : 200 < s.length
    · have hi : (200 : Int) < (s.length : Int) := by omega
      simp only [h, if_true]
      clear h
      go_enter Try.func14, Try.ntmps14
      go_wp2_with (go_at_call 24; refine HC.out.mono ?_; rintro e w1 ⟨hb1, A1, c1, l1, rfl, -⟩; have HB := Lib.hid hb1; clear hb1)
      go_ret2
      exact ⟨rfl, HB.out⟩
    · have hi : ¬ (200 : Int) < (s.length : Int) := by omega
      simp only [h, if_false]
      have HS : Hid (s.length ≤ 200) := Lib.hid (by omega)
      clear h
      go_enter Try.func14, Try.ntmps14
      go_wp2_with (first
        | (go_at_call 24; refine HC.out.mono ?_; rintro e w1 ⟨hb1, A1, c1, l1, rfl, ho1, hm1, hi1⟩; have HB := Lib.hid hb1; have HO := Lib.hid ho1; have HM := Lib.hid hm1; have HI := Lib.hid hi1; clear hb1 ho1 hm1 hi1)
        | (go_at_call 27; refine (of_any A1 n c1 l1 s w1 _ HO.out.ls HO.out.1 HI.out (by omega) HS.out (fun x hx => by have h1 := (HI.out x hx).1; have h2 := HRG.out x.it (by rw [← HM.out]; exact List.mem_map_of_mem hx); omega)).mono ?_; rintro e w5 ⟨rfl, hb5⟩; rw [HM.out]; have HB5 := Lib.hid hb5; clear hb5))
      go_ret2
      exact ⟨rfl, bthen HB.out HB5.out⟩

theorem walkGlobMatches (p s : ByteArray) (w : World) :
    Calls Try.prog 4 #[.string p, .string s] w fun e w' => e = .returned (.bool true) ∧ Below w.heap.size w w' := by
  obtain ⟨p, rfl⟩ : ∃ q, p = tx q := ⟨_, tx_of p⟩
  obtain ⟨s, rfl⟩ : ∃ q, s = tx q := ⟨_, tx_of s⟩
  have H1 := Lib.hid (match_any p s w)
  have H2 := Lib.hid (fun wx => rmatch_any p s wx)
  obtain ⟨⟨v, c⟩, hv⟩ : ∃ v, matT p s = v := ⟨_, rfl⟩
  rw [hv] at H1 H2
  clear hv
  cases v <;>
  · go_enter Try.func4, Try.ntmps4
    go_wp2_with (first
      | (go_at_call 13; refine H1.out.mono ?_; rintro e w1 ⟨rfl, hb1⟩; have HB1 := Lib.hid hb1; clear hb1)
      | (go_at_call 14; refine (H2.out w1).mono ?_; rintro e w2 ⟨rfl, hb2⟩; have HB2 := Lib.hid hb2; clear hb2))
    go_ret
    exact ⟨by first | rfl | simp, bthen HB1.out HB2.out⟩
end Go.Proofs.Ytmcgjkhbljdddaa
