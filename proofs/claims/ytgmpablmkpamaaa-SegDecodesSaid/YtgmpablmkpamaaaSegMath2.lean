/-
  Plain mathematics of layer 4, more: a segment comes back from its bytes; bytes that are read are those of what was read; a byte that is changed is seen; a sum that is mended.
-/
import Derived.Test.YtgmpablmkpamaaaSegMath
namespace Go.Proofs.Ytgmpablmkpamaaa
set_option linter.unusedVariables false

theorem ten (l : List Int) (h : 10 ≤ l.length) : ∃ a0 a1 a2 a3 a4 a5 a6 a7 a8 a9 r, l = a0 :: a1 :: a2 :: a3 :: a4 :: a5 :: a6 :: a7 :: a8 :: a9 :: r := by
  match l, h with
  | a0 :: a1 :: a2 :: a3 :: a4 :: a5 :: a6 :: a7 :: a8 :: a9 :: r, _ => exact ⟨_, _, _, _, _, _, _, _, _, _, _, rfl⟩

theorem bytesOf_eq (s : Sg) : bytesOf s = s.seq / 256 :: s.seq % 256 :: s.ack / 256 :: s.ack % 256 :: s.win / 256 :: s.win % 256 :: fl s.f0 s.f1 s.f2 s.f3 :: (s.sacks.length : Int) :: (65535 - fo (tot 0 (bodyB s))) / 256 :: (65535 - fo (tot 0 (bodyB s))) % 256 :: (sackB s.sacks ++ s.data) := by
  unfold bytesOf sealB
  generalize 65535 - fo (tot 0 (bodyB s)) = v
  simp [put2, bodyB, heads, two]
theorem bodyB_eq (s : Sg) : bodyB s = s.seq / 256 :: s.seq % 256 :: s.ack / 256 :: s.ack % 256 :: s.win / 256 :: s.win % 256 :: fl s.f0 s.f1 s.f2 s.f3 :: (s.sacks.length : Int) :: 0 :: 0 :: (sackB s.sacks ++ s.data) := by
  simp [bodyB, heads, two]
theorem bare_ten (a0 a1 a2 a3 a4 a5 a6 a7 a8 a9 : Int) (r : List Int) : bare (a0 :: a1 :: a2 :: a3 :: a4 :: a5 :: a6 :: a7 :: a8 :: a9 :: r) = a0 :: a1 :: a2 :: a3 :: a4 :: a5 :: a6 :: a7 :: 0 :: 0 :: r := rfl
theorem bare_bytesOf (s : Sg) : bare (bytesOf s) = bodyB s := by rw [bytesOf_eq, bodyB_eq, bare_ten]

/-- what was read, laid again, but for the flags that no segment has -/
theorem body_dec (l : List Int) (h : ∀ z ∈ l, 0 ≤ z ∧ z ≤ 255) (h10 : 10 ≤ l.length) (hn : 10 + 4 * cnt l ≤ l.length) : bodyB (dec l) = (bare l).set 6 (l.getD 6 0 % 16) := by
  have hs : sackB (dec l).sacks = (l.drop 10).take (4 * cnt l) := sackB_at l h 10 _ hn
  have hd : (dec l).data = (l.drop 10).drop (4 * cnt l) := by show l.drop (10 + 4 * cnt l) = _; rw [List.drop_drop]
  have hc : ((dec l).sacks.length : Int) = l.getD 7 0 := by
    show ((sacksAt l 10 (cnt l)).length : Int) = _
    rw [sacksAt_len, cnt]
    have := (getD_bd l h 7).1
    omega
  have hb := fun k => getD_bd l h k
  rw [bodyB_eq, hs, hd, hc, List.take_append_drop]
  have hfl : fl (dec l).f0 (dec l).f1 (dec l).f2 (dec l).f3 = l.getD 6 0 % 16 := fl_bit _ (hb 6).1 (hb 6).2
  rw [hfl]
  show wd l 0 / 256 :: wd l 0 % 256 :: wd l 2 / 256 :: wd l 2 % 256 :: wd l 4 / 256 :: wd l 4 % 256 :: _ = _
  have w0 := two_wd _ _ (hb 0) (hb 1); have w2 := two_wd _ _ (hb 2) (hb 3); have w4 := two_wd _ _ (hb 4) (hb 5)
  simp only [two, List.cons.injEq, and_true] at w0 w2 w4
  obtain ⟨a0, a1, a2, a3, a4, a5, a6, a7, a8, a9, r, rfl⟩ := ten l h10
  simp only [wd]
  rw [bare_ten]
  simp only [List.getD_cons_zero, List.getD_cons_succ, Nat.zero_add, Nat.reduceAdd] at w0 w2 w4 ⊢
  simp [w0, w2, w4]

theorem seal_bare (l : List Int) (h : ∀ z ∈ l, 0 ≤ z ∧ z ≤ 255) (h10 : 10 ≤ l.length) (hs : wd l 8 = 65535 - fo (tot 0 (bare l))) : sealB (bare l) = l := by
  rw [sealB, ← hs]
  have w8 := two_wd _ _ (getD_bd l h 8) (getD_bd l h 9)
  simp only [two, List.cons.injEq, and_true] at w8
  obtain ⟨a0, a1, a2, a3, a4, a5, a6, a7, a8, a9, r, rfl⟩ := ten l h10
  rw [bare_ten]
  simp only [wd, List.getD_cons_zero, List.getD_cons_succ, Nat.reduceAdd] at w8 ⊢
  simp [put2, w8]

/-- what Decode's answer 0 says -/
theorem codeD_zero {l : List Int} (h : codeD l = 0) : 10 ≤ l.length ∧ wd l 8 = 65535 - fo (tot 0 (bare l)) ∧ l.getD 6 0 ≤ 15 ∧ 10 + 4 * cnt l ≤ l.length ∧ fault (dec l) = 0 := by
  unfold codeD at h
  split at h
  · cases h
  · split at h
    · cases h
    · split at h
      · cases h
      · rename_i h1 h2 h3
        refine ⟨by omega, by simpa using h2, by omega, by omega, ?_⟩
        apply Classical.byContradiction
        intro hc
        exact h3 (.inr (.inr hc))

theorem bytes_dec (l : List Int) (h : ∀ z ∈ l, 0 ≤ z ∧ z ≤ 255) (h0 : codeD l = 0) : bytesOf (dec l) = l := by
  obtain ⟨h10, hs, h6, hn, _⟩ := codeD_zero h0
  have hb := (getD_bd l h 6)
  have hset : (bare l).set 6 (l.getD 6 0 % 16) = bare l := by
    obtain ⟨a0, a1, a2, a3, a4, a5, a6, a7, a8, a9, r, rfl⟩ := ten l h10
    rw [bare_ten]
    simp only [List.getD_cons_zero, List.getD_cons_succ] at hb h6 ⊢
    have : a6 % 16 = a6 := by omega
    simp [this]
  unfold bytesOf
  rw [body_dec l h h10 hn, hset]
  exact seal_bare l h h10 hs
/-- flags that no segment has come back as others -/
theorem bytes_dec_ne (l : List Int) (h : ∀ z ∈ l, 0 ≤ z ∧ z ≤ 255) (h10 : 10 ≤ l.length) (hn : 10 + 4 * cnt l ≤ l.length) (h6 : 15 < l.getD 6 0) : bytesOf (dec l) ≠ l := by
  intro e
  have h1 : (bytesOf (dec l)).getD 6 0 = l.getD 6 0 % 16 := by
    unfold bytesOf sealB
    rw [body_dec l h h10 hn]
    generalize 65535 - fo _ = v
    obtain ⟨a0, a1, a2, a3, a4, a5, a6, a7, a8, a9, r, rfl⟩ := ten l h10
    rw [bare_ten]
    simp [put2]
  rw [e] at h1
  have := getD_bd l h 6
  omega

theorem sacksAt_app (p r : List Int) (hp : p.length = 10) : ∀ (l : List Rg) (d : List Int), l.all okR = true → r = sackB l ++ d → sacksAt (p ++ r) 10 l.length = l := by
  intro l
  have gp : ∀ i, (p ++ r).getD (10 + i) 0 = r.getD i 0 := by
    intro i
    rw [List.getD_eq_getElem?_getD, List.getElem?_append_right (by omega), hp, Nat.add_sub_cancel_left, ← List.getD_eq_getElem?_getD]
  have key : ∀ (k : Nat) (x : Rg) (m t : List Rg) (d : List Int), m.length = k → l.all okR = true → l = m ++ x :: t → r = sackB l ++ d → (wd (p ++ r) (10 + 4 * k), wd (p ++ r) (10 + 4 * k + 2)) = x := by
    intro k x m t d hm ha hl hr
    have hx := List.all_eq_true.1 ha x (by rw [hl]; simp)
    simp only [okR, Bool.and_eq_true, sm_t] at hx
    have hr' : r = sackB m ++ (x.1 / 256 :: x.1 % 256 :: x.2 / 256 :: x.2 % 256 :: (sackB t ++ d)) := by
      rw [hr, hl, sackB_app]; simp [sackB, two]
    have g : ∀ i, r.getD (4 * k + i) 0 = (x.1 / 256 :: x.1 % 256 :: x.2 / 256 :: x.2 % 256 :: (sackB t ++ d)).getD i 0 := by
      intro i
      rw [hr', List.getD_eq_getElem?_getD, List.getElem?_append_right (by rw [sackB_len, hm]; omega), sackB_len, hm, Nat.add_sub_cancel_left, ← List.getD_eq_getElem?_getD]
    have g0 := g 0; have g1 := g 1; have g2 := g 2; have g3 := g 3
    simp only [List.getD_cons_zero, List.getD_cons_succ, Nat.add_zero] at g0 g1 g2 g3
    simp only [wd, Nat.add_assoc, Nat.reduceAdd]
    rw [gp, gp, gp, gp, g0, g1, g2, g3]
    apply Prod.ext
    · show 256 * (x.1 / 256) + x.1 % 256 = x.1; omega
    · show 256 * (x.2 / 256) + x.2 % 256 = x.2; omega
  intro d ha hr
  have : ∀ k, k ≤ l.length → sacksAt (p ++ r) 10 k = l.take k := by
    intro k
    induction k with
    | zero => intro _; rfl
    | succ k ih =>
      intro hk
      have hx : l[k]? = some l[k] := List.getElem?_eq_getElem (by omega)
      rw [sacksAt, ih (by omega), List.take_add_one, hx]
      congr 1
      rw [key k l[k] (l.take k) (l.drop (k + 1)) d (by rw [List.length_take]; omega) ha (by rw [← List.drop_eq_getElem_cons, List.take_append_drop]) hr]
      rfl
  rw [this _ (Nat.le_refl _), List.take_length]

/-- a segment comes back from its bytes -/
theorem dec_bytes (s : Sg) (h : fault s = 0) : dec (bytesOf s) = s := by
  obtain ⟨h1, h2, h3, h4, h5, h6, h7⟩ := fault_zero h
  have hc : cnt (bytesOf s) = s.sacks.length := by rw [cnt, bytesOf_eq]; simp
  have hs : sacksAt (bytesOf s) 10 (cnt (bytesOf s)) = s.sacks := by
    rw [hc, bytesOf_eq]
    exact sacksAt_app [_, _, _, _, _, _, _, _, _, _] _ rfl s.sacks s.data h6 rfl
  have hd : (bytesOf s).drop (10 + 4 * cnt (bytesOf s)) = s.data := by
    rw [hc, bytesOf_eq, show 10 + 4 * s.sacks.length = 4 * s.sacks.length + 10 by omega]
    simp only [List.drop_succ_cons]
    rw [List.drop_append_of_le_length (by rw [sackB_len]; exact Nat.le_refl _), List.drop_eq_nil_of_le (by rw [sackB_len]; exact Nat.le_refl _)]
    rfl
  obtain ⟨b0, b1, b2, b3⟩ := bit_fl s.f0 s.f1 s.f2 s.f3
  unfold dec
  rw [hs, hd]
  rw [bytesOf_eq]
  simp only [wd, List.getD_cons_zero, List.getD_cons_succ, Nat.zero_add, Nat.reduceAdd]
  rw [wd_two _ h1.1 h1.2, wd_two _ h2.1 h2.2, wd_two _ h3.1 h3.2, b0, b1, b2, b3]

theorem code_bytes (s : Sg) (h : fault s = 0) (hd : ∀ z ∈ s.data, 0 ≤ z ∧ z ≤ 255) : codeD (bytesOf s) = 0 := by
  have hc : cnt (bytesOf s) = s.sacks.length := by rw [cnt, bytesOf_eq]; simp
  have hs := sum_bd _ (bodyB_bd s h hd)
  have hfl := fl_bd s.f0 s.f1 s.f2 s.f3
  unfold codeD
  rw [if_neg (by rw [bytesOf_len]; omega), if_neg, if_neg]
  · rw [dec_bytes s h, hc, bytesOf_len, h]
    have : (bytesOf s).getD 6 0 = fl s.f0 s.f1 s.f2 s.f3 := by rw [bytesOf_eq]; rfl
    rw [this]
    omega
  · rw [bare_bytesOf]
    have : wd (bytesOf s) 8 = 65535 - fo (tot 0 (bodyB s)) := by
      rw [bytesOf_eq]
      simp only [wd, List.getD_cons_zero, List.getD_cons_succ, Nat.reduceAdd]
      omega
    simp [this]

theorem fo_diff (t d : Int) (h0 : 0 ≤ t) (h1 : 0 ≤ t + d) (hd : d ≠ 0) (h2 : d < 65535) (h3 : -65535 < d) : fo (t + d) ≠ fo t := by
  unfold fo
  split <;> split <;> omega

/-- a byte that is changed is seen -/
theorem changed (l : List Int) (h : ∀ z ∈ l, 0 ≤ z ∧ z ≤ 255) (h0 : codeD l = 0) (i : Nat) (hi : i < l.length) (v : Int) (hv : 0 ≤ v ∧ v ≤ 255) (hne : v ≠ l.getD i 0) : codeD (l.set i v) = 6 := by
  obtain ⟨h10, hs, h6, hn, _⟩ := codeD_zero h0
  unfold codeD
  rw [if_neg (by rw [List.length_set]; omega), if_pos]
  have hb := getD_bd l h i
  by_cases hi8 : i = 8 ∨ i = 9
  · have e : bare (l.set i v) = bare l := by
      obtain ⟨a0, a1, a2, a3, a4, a5, a6, a7, a8, a9, r, rfl⟩ := ten l h10
      rcases hi8 with rfl | rfl <;> rfl
    rw [e, ← hs]
    have h8 := getD_bd l h 8; have h9 := getD_bd l h 9
    obtain ⟨a0, a1, a2, a3, a4, a5, a6, a7, a8, a9, r, rfl⟩ := ten l h10
    rcases hi8 with rfl | rfl
    · simp only [wd, List.set_cons_succ, List.set_cons_zero, List.getD_cons_zero, List.getD_cons_succ, Nat.reduceAdd] at hne h8 h9 ⊢
      omega
    · simp only [wd, List.set_cons_succ, List.set_cons_zero, List.getD_cons_zero, List.getD_cons_succ, Nat.reduceAdd] at hne h8 h9 ⊢
      omega
  · have e : bare (l.set i v) = (bare l).set i v := by
      unfold bare
      rw [List.set_comm _ _ (by omega : i ≠ 8), List.set_comm _ _ (by omega : i ≠ 9)]
    have e8 : wd (l.set i v) 8 = wd l 8 := by
      unfold wd
      rw [getD_set_ne l i 8 v (by omega), getD_set_ne l i (8 + 1) v (by omega)]
    have eg : (bare l).getD i 0 = l.getD i 0 := by
      unfold bare
      rw [getD_set_ne _ 9 i 0 (by omega), getD_set_ne _ 8 i 0 (by omega)]
    have hbl : ∀ z ∈ bare l, 0 ≤ z ∧ z ≤ 255 := by
      unfold bare
      exact mem_set_bd _ (mem_set_bd l h 8 0 (by omega)) 9 0 (by omega)
    have ht := tot_set (bare l) i v 0 (by unfold bare; simpa using hi)
    have h0t := (tot_bd0 (bare l) hbl).1
    have h1t := (tot_bd0 ((bare l).set i v) (mem_set_bd _ hbl i v hv)).1
    rw [e, e8, hs]
    rw [ht] at h1t ⊢
    rw [eg] at h1t ⊢
    intro he
    refine fo_diff (tot 0 (bare l)) (if (0 + i) % 2 = 0 then 256 * (v - l.getD i 0) else v - l.getD i 0) h0t h1t ?_ ?_ ?_ (by omega)
    · split <;> omega
    · split <;> omega
    · split <;> omega

/-- all bytes together fold to 65535 -/
theorem sealed_fo (s : Sg) (h : fault s = 0) (hd : ∀ z ∈ s.data, 0 ≤ z ∧ z ≤ 255) : fo (tot 0 (bytesOf s)) = 65535 := by
  have hb := bodyB_bd s h hd
  have ht := (tot_bd0 (bodyB s) hb).1
  have hf := fo_bd (tot 0 (bodyB s)) ht
  have e8 : (bodyB s).getD 8 0 = 0 ∧ (bodyB s).getD 9 0 = 0 := by rw [bodyB_eq]; exact ⟨rfl, rfl⟩
  unfold bytesOf sealB
  rw [tot_put2 _ _ _ (by rw [bodyB_len]; omega) (by rfl), e8.1, e8.2]
  revert hf
  generalize tot 0 (bodyB s) = t at *
  unfold fo
  intro hf
  split at hf <;> split <;> omega

/-- a window that is changed along with the sum -/
theorem mended_bytes (s : Sg) (w m : Int) (h : fault s = 0) (hd : ∀ z ∈ s.data, 0 ≤ z ∧ z ≤ 255) (h3 : s.f3 = true) (w0 : 0 ≤ w) (w1 : w ≤ 65535)
    (hm : m = 65535 - fo (65535 - wd (bytesOf s) 8 + 65535 - s.win + w)) :
    ((((bytesOf s).set 4 (w / 256)).set 5 (w % 256)).set 8 (m / 256)).set 9 (m % 256) = bytesOf { s with win := w } ∧ fault { s with win := w } = 0 := by
  obtain ⟨k1, k2, k3, k4, k5, k6, k7⟩ := fault_zero h
  have hb := bodyB_bd s h hd
  have ht0 := (tot_bd0 (bodyB s) hb).1
  have hs := sum_bd _ hb
  have hfl := fl_bd s.f0 s.f1 s.f2 s.f3
  have hwd : wd (bytesOf s) 8 = 65535 - fo (tot 0 (bodyB s)) := by
    rw [bytesOf_eq]
    simp only [wd, List.getD_cons_zero, List.getD_cons_succ, Nat.reduceAdd]
    omega
  have hbody : bodyB { s with win := w } = put2 (bodyB s) 4 w := by
    rw [bodyB_eq, bodyB_eq]; simp [put2]
  have g4 : 256 * (bodyB s).getD 4 0 + (bodyB s).getD 5 0 = s.win := by
    rw [bodyB_eq]; simp only [List.getD_cons_zero, List.getD_cons_succ]; omega
  have ht : tot 0 (bodyB { s with win := w }) = tot 0 (bodyB s) - s.win + w := by
    rw [hbody, tot_put2 _ _ _ (by rw [bodyB_len]; omega) (by rfl), g4]
  have hle : s.win ≤ tot 0 (bodyB s) := by
    have := pair_le (bodyB s) hb 4 (by rw [bodyB_len]; omega) (by rfl)
    rw [g4] at this; exact this
  have hpos : tot 0 (bodyB s) - s.win + w ≠ 0 := by
    have h8 : 8 ≤ fl s.f0 s.f1 s.f2 s.f3 := by rw [h3]; cases s.f0 <;> cases s.f1 <;> cases s.f2 <;> decide
    have hb0 : ∀ z ∈ put2 (bodyB s) 4 0, 0 ≤ z ∧ z ≤ 255 := put2_bd _ hb 4 0 (by omega) (by omega)
    have h6 := pair_le (put2 (bodyB s) 4 0) hb0 6 (by rw [put2_len, bodyB_len]; omega) (by rfl)
    have e6 : (put2 (bodyB s) 4 0).getD 6 0 = fl s.f0 s.f1 s.f2 s.f3 ∧ (put2 (bodyB s) 4 0).getD (6 + 1) 0 = (s.sacks.length : Int) := by rw [bodyB_eq]; exact ⟨rfl, rfl⟩
    rw [e6.1, e6.2, tot_put2 _ _ _ (by rw [bodyB_len]; omega) (by rfl), g4] at h6
    omega
  have hmm : m = 65535 - fo (tot 0 (bodyB { s with win := w })) := by
    rw [hm, hwd, mended_yes (tot 0 (bodyB s)) s.win w k3.1 k3.2 hle w0 w1 hpos, ht]
  constructor
  · rw [bytesOf_eq { s with win := w }, ← hmm, bytesOf_eq s]
    rfl
  · unfold fault
    have e1 : ¬ (sm s.seq && sm s.ack && sm w) = false := by simp [sm_t.2 k1, sm_t.2 k2, sm_t.2 ⟨w0, w1⟩]
    show (if (sm s.seq && sm s.ack && sm w) = false then (2 : Int) else if 3 < s.sacks.length ∨ 64 < s.data.length then 1 else if s.sacks.all okR = false then 2 else if s.f3 = false ∧ (s.ack ≠ 0 ∨ w ≠ 0 ∨ s.sacks ≠ []) then 4 else 0) = 0
    rw [if_neg e1, if_neg (by omega), if_neg (by simp [k6]), if_neg (by simp [h3])]

end Go.Proofs.Ytgmpablmkpamaaa
