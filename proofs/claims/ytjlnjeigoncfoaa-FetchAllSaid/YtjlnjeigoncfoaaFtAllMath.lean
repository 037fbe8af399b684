/-
  A file that is served in whatever order and pieces is the file: in plain words (nothing of the program).
-/
import Derived.Test.YtjlnjeigoncfoaaFtStillMath
namespace Go.Proofs.Ytjlnjeigoncfoaa
set_option linter.unusedVariables false
set_option linter.unusedSimpArgs false

def Dj (a b : Wt) : Prop := a.1 + a.2 ≤ b.1 ∨ b.1 + b.2 ≤ a.1
theorem Dj.symm {a b : Wt} (h : Dj a b) : Dj b a := h.elim .inr .inl
structure InvF (F : List Int) (s : Fs) : Prop where
  ok : FsOk s
  h100 : Inv100 s
  cov : ∀ p : Nat, (p : Int) < s.front → (∃ w ∈ s.out, w.1 ≤ p ∧ (p : Int) < w.1 + w.2) ∨ (p < F.length ∧ s.dat[p]? = F[p]?) ∨ (s.ended = true ∧ s.fin ≤ p)
  ends : s.ended = true → (F.length : Int) ≤ s.fin ∧ s.fin ≤ s.front
  apart : s.out.Pairwise Dj
theorem invF0 (F : List Int) : InvF F fs0 :=
  ⟨fsOk0, inv0, (fun p hp => by have : (p : Int) < 0 := hp; omega), (fun h => by cases h), List.Pairwise.nil⟩
theorem InvF.one {F : List Int} {s : Fs} (h : InvF F s) (hm : mayOn s = true) : InvF F (askOne s) := by
  refine ⟨h.ok.one hm, h.h100.one, fun p hp => ?_, fun he => ?_, ?_⟩
  · by_cases hq : (p : Int) < s.front
    · rcases h.cov p hq with ⟨w, hw, h1⟩ | h1 | h1
      · exact .inl ⟨w, by simp [askOne]; exact .inl hw, h1⟩
      · exact .inr (.inl h1)
      · exact .inr (.inr h1)
    · have hp' : (p : Int) < s.front + 100 := hp
      exact .inl ⟨(s.front, 100), by simp [askOne], by simp only; omega, by simp only; omega⟩
  · obtain ⟨h1, h2⟩ := h.ends he
    refine ⟨h1, ?_⟩
    show s.fin ≤ s.front + 100
    omega
  · show (s.out ++ [(s.front, 100)]).Pairwise Dj
    rw [List.pairwise_append]
    refine ⟨h.apart, List.pairwise_singleton _ _, fun a ha b hb => ?_⟩
    simp at hb; subst hb
    exact .inl (h.ok.wants a ha).2.2.2
theorem invFN {F : List Int} (n : Nat) : ∀ s, InvF F s → InvF F (askOnN n s) := by
  induction n with
  | zero => intro s h; exact h
  | succ n ih =>
    intro s h
    unfold askOnN
    by_cases hm : mayOn s = true
    · rw [if_pos hm]; exact ih _ (h.one hm)
    · rw [if_neg hm]; exact h
theorem InvF.on {F : List Int} {s : Fs} (h : InvF F s) : InvF F (askOn s) := invFN 6 s h
/-- what is answered to a want -/
structure Ans (F : List Int) (w : Wt) (g : Gt) : Prop where
  at_ : g.at_ = w.1
  cnt : g.cnt = w.2
  data : (g.data = [] ∧ (F.length : Int) ≤ w.1) ∨
    (∃ m a : Nat, w.1 = a ∧ a < F.length ∧ 1 ≤ m ∧ g.data = (F.drop a).take m ∧ a + m ≤ F.length ∧ (m : Int) ≤ w.2 ∧ ((m : Int) = w.2 ∨ a + m = F.length ∨ (w.2 ≤ 2 * m ∨ F.length ≤ a + 2 * m)))
theorem splice_at (l : List Int) (k : Nat) (ys : List Int) (p : Nat) (h : k + ys.length ≤ l.length) :
    (splice l k ys)[p]? = if k ≤ p ∧ p < k + ys.length then ys[p - k]? else l[p]? := by
  unfold splice
  rw [List.append_assoc, List.getElem?_append, List.length_take]
  by_cases h1 : p < k
  · rw [if_pos (by omega), if_neg (by omega), List.getElem?_take, if_pos h1]
  · rw [if_neg (by omega), List.getElem?_append]
    by_cases h2 : p < k + ys.length
    · rw [if_pos (by omega), if_pos ⟨by omega, h2⟩]
      congr 1; omega
    · rw [if_neg (by omega), if_neg (by omega), List.getElem?_drop]
      congr 1; omega
theorem perm_pair {l : List Wt} {w : Wt} (h : l.Pairwise Dj) (hw : w ∈ l) : (l.erase w).Pairwise Dj ∧ ∀ b ∈ l.erase w, Dj w b := by
  have hp : (w :: l.erase w).Pairwise Dj := (List.perm_cons_erase hw).pairwise_iff (fun h => Dj.symm h) |>.1 h
  rw [List.pairwise_cons] at hp
  exact ⟨hp.2, hp.1⟩
theorem InvF.got {F : List Int} {s : Fs} (h : InvF F s) {w : Wt} {g : Gt} (hw : w ∈ s.out) (ha : Ans F w g) : InvF F (gotT g s) := by
  obtain ⟨a0, a1, a2, a3⟩ := h.ok.wants w hw
  have hlen := h.ok.len
  have hf1 := h.ok.f1
  have hwg : (g.at_, g.cnt) = w := by rw [ha.at_, ha.cnt]
  have hmem : (g.at_, g.cnt) ∈ s.out := by rw [hwg]; exact hw
  obtain ⟨hap, hdj⟩ := perm_pair h.apart hw
  have hother : ∀ p : Nat, (∃ v ∈ s.out, v.1 ≤ p ∧ (p : Int) < v.1 + v.2) → ¬ (w.1 ≤ p ∧ (p : Int) < w.1 + w.2) → ∃ v ∈ s.out.erase w, v.1 ≤ p ∧ (p : Int) < v.1 + v.2 := by
    rintro p ⟨v, hv, h1⟩ hn
    have hne : v ≠ w := fun e => hn (e ▸ h1)
    exact ⟨v, (List.mem_erase_of_ne hne).2 hv, h1⟩
  rcases ha.data with ⟨hd, hN⟩ | ⟨m, a, hwa, haF, hm1, hd, haN, hmw, -⟩
  · -- nothing: the end
    have hnb : ¬ g.cnt < g.data.length := by rw [hd, ha.cnt]; simp; omega
    have hsp : splice s.dat g.at_.toNat g.data = s.dat := by rw [hd]; unfold splice; simp
    have hg : gotT g s = stopT w.1 { s with out := s.out.erase w, dat := s.dat } := by
      unfold gotT
      simp only
      rw [hwg, hsp, if_pos (by rw [hd]; rfl), ha.at_]
    have hok := h.ok.got g hmem hnb
    have hi := h.h100.got h.ok g hmem
    rw [hg] at hok hi ⊢
    refine ⟨hok, hi, ?_, ?_, ?_⟩
    · intro p hp
      unfold stopT at hp ⊢
      by_cases hc : (!s.ended || decide (w.1 < s.fin)) = true
      · simp only [hc, if_true] at hp ⊢
        by_cases hpw : w.1 ≤ p ∧ (p : Int) < w.1 + w.2
        · exact .inr (.inr ⟨trivial, hpw.1⟩)
        · rcases h.cov p hp with h1 | h1 | ⟨h1, h2⟩
          · exact .inl (hother p h1 hpw)
          · exact .inr (.inl h1)
          · refine .inr (.inr ⟨trivial, ?_⟩)
            rw [h1] at hc
            simp at hc
            omega
      · simp only [hc, Bool.false_eq_true, if_false] at hp ⊢
        simp at hc
        by_cases hpw : w.1 ≤ p ∧ (p : Int) < w.1 + w.2
        · exact .inr (.inr ⟨hc.1, by omega⟩)
        · rcases h.cov p hp with h1 | h1 | h1
          · exact .inl (hother p h1 hpw)
          · exact .inr (.inl h1)
          · exact .inr (.inr h1)
    · intro he
      unfold stopT at he ⊢
      by_cases hc : (!s.ended || decide (w.1 < s.fin)) = true
      · simp only [hc, if_true]
        exact ⟨hN, by omega⟩
      · simp only [hc, Bool.false_eq_true, if_false] at he ⊢
        exact h.ends he
    · unfold stopT
      split <;> exact hap
  · -- some bytes
    have hdl : g.data.length = m := by rw [hd, List.length_take, List.length_drop]; omega
    have hnb : ¬ g.cnt < g.data.length := by rw [hdl, ha.cnt]; omega
    have hok := h.ok.got g hmem hnb
    have hi := h.h100.got h.ok g hmem
    have hga : g.at_.toNat = a := by rw [ha.at_, hwa]; omega
    have hm0 : ¬ g.data.length = 0 := by omega
    have hroom : s.dat.length = 2148 := hlen
    have hspl := fun p => splice_at s.dat a g.data p (by rw [hdl]; omega)
    have hbyte : ∀ p : Nat, a ≤ p → p < a + m → (splice s.dat a g.data)[p]? = F[p]? := fun p h1 h2 => by
      rw [hspl, if_pos ⟨h1, by omega⟩, hd, List.getElem?_take, if_pos (by omega), List.getElem?_drop]
      congr 1; omega
    have hcov : ∀ (s' : Fs), s'.front = s.front → s'.ended = s.ended → s'.fin = s.fin → s'.dat = splice s.dat a g.data → (∀ v ∈ s.out.erase w, v ∈ s'.out) → ((m : Int) = w.2 ∨ (w.1 + m, w.2 - m) ∈ s'.out) →
        ∀ p : Nat, (p : Int) < s'.front → (∃ v ∈ s'.out, v.1 ≤ p ∧ (p : Int) < v.1 + v.2) ∨ (p < F.length ∧ s'.dat[p]? = F[p]?) ∨ (s'.ended = true ∧ s'.fin ≤ p) := by
      intro s' e1 e2 e3 e4 hsub hnew p hp
      rw [e1] at hp
      rw [e2, e3, e4]
      by_cases hpw : w.1 ≤ p ∧ (p : Int) < w.1 + w.2
      · by_cases hpm : p < a + m
        · exact .inr (.inl ⟨by omega, hbyte p (by omega) hpm⟩)
        · rcases hnew with hq | hq
          · omega
          · exact .inl ⟨_, hq, by simp only; omega, by simp only; omega⟩
      · rcases h.cov p hp with h1 | ⟨h1, h2⟩ | h1
        · obtain ⟨v, hv, h3⟩ := hother p h1 hpw
          exact .inl ⟨v, hsub v hv, h3⟩
        · refine .inr (.inl ⟨h1, ?_⟩)
          rw [hspl, if_neg (by rw [hdl]; omega)]
          exact h2
        · exact .inr (.inr h1)
    by_cases hmc : (m : Int) < w.2
    · have hg : gotT g s = askT (w.1 + m, w.2 - m) { s with out := s.out.erase w, dat := splice s.dat a g.data } := by
        unfold gotT
        simp only
        rw [hwg, hga, if_neg hm0, hdl, if_pos (by rw [ha.cnt]; exact hmc), ha.at_, ha.cnt]
      rw [hg] at hok hi ⊢
      refine ⟨hok, hi, hcov _ rfl rfl rfl rfl (fun v hv => by simp [askT]; exact .inl hv) (.inr (by simp [askT])), h.ends, ?_⟩
      show (s.out.erase w ++ [(w.1 + (m : Int), w.2 - (m : Int))]).Pairwise Dj
      rw [List.pairwise_append]
      refine ⟨hap, List.pairwise_singleton _ _, fun x hx y hy => ?_⟩
      simp at hy; subst hy
      rcases hdj x hx with h1 | h1
      · exact .inr (by simp only; omega)
      · exact .inl (by simp only; omega)
    · have hg : gotT g s = { s with out := s.out.erase w, dat := splice s.dat a g.data } := by
        unfold gotT
        simp only
        rw [hwg, hga, if_neg hm0, hdl, if_neg (by rw [ha.cnt]; exact hmc)]
      rw [hg] at hok hi ⊢
      exact ⟨hok, hi, hcov _ rfl rfl rfl rfl (fun v hv => hv) (.inl (by omega)), h.ends, hap⟩

theorem InvF.take {F : List Int} {s : Fs} (h : InvF F s) {w : Wt} {g : Gt} (hw : w ∈ s.out) (ha : Ans F w g) :
    takeG s g = nextT (s.out.length - 1) (gotT g s) ∧ InvF F (takeG s g).2 := by
  have hwg : (g.at_, g.cnt) = w := by rw [ha.at_, ha.cnt]
  have hnb : ¬ g.cnt < g.data.length := by
    obtain ⟨a0, a1, a2, a3⟩ := h.ok.wants w hw
    rcases ha.data with ⟨hd, hN⟩ | ⟨m, a, hwa, haF, hm1, hd, haN, hmw, -⟩
    · rw [hd, ha.cnt]; simp; omega
    · have : g.data.length = m := by rw [hd, List.length_take, List.length_drop]; omega
      rw [this, ha.cnt]; omega
  have e : takeG s g = nextT (s.out.length - 1) (gotT g s) := by unfold takeG; rw [hwg, if_pos hw, if_neg hnb]
  refine ⟨e, ?_⟩
  rw [e]
  exact (h.got hw ha).on
theorem askOn_stop (s : Fs) : mayOn (askOn s) = false := askOnN_done 6 s (by omega)
/-- when all came it is the file -/
theorem InvF.came {F : List Int} {s : Fs} (h : InvF F s) (hc : came s = true) : s.dat.take s.fin.toNat = F := by
  unfold Go.Proofs.Ytjlnjeigoncfoaa.came at hc
  simp at hc
  obtain ⟨he, hn⟩ := hc
  obtain ⟨h1, h2⟩ := h.ends he
  have hlen := h.ok.len
  have hf1 := h.ok.f1
  have hroom : s.dat.length = 2148 := hlen
  have hfin : s.fin = F.length := by
    by_cases hlt : (F.length : Int) < s.fin
    · exfalso
      rcases h.cov F.length (by omega) with ⟨w, hw, h3, h4⟩ | ⟨h3, -⟩ | ⟨-, h3⟩
      · have := hn w.1 w.2 hw; omega
      · omega
      · omega
    · omega
  apply List.ext_getElem?
  intro p
  rw [List.getElem?_take]
  by_cases hp : p < s.fin.toNat
  · rw [if_pos hp]
    rcases h.cov p (by omega) with ⟨w, hw, h3, h4⟩ | ⟨-, h3⟩ | ⟨-, h3⟩
    · have := hn w.1 w.2 hw; omega
    · exact h3
    · omega
  · rw [if_neg hp, List.getElem?_eq_none (by omega)]
/-- as long as not all came something is out -/
theorem InvF.exist {F : List Int} {s : Fs} (h : InvF F s) (hF : F.length < 1000) (hm : mayOn s = false) (hc : Go.Proofs.Ytjlnjeigoncfoaa.came s = false) : s.out ≠ [] := by
  intro ho
  unfold Go.Proofs.Ytjlnjeigoncfoaa.came at hc
  rw [ho] at hc
  simp at hc
  unfold mayOn at hm
  rw [ho, hc] at hm
  simp at hm
  rcases h.cov F.length (by omega) with ⟨w, hw, -⟩ | ⟨h3, -⟩ | ⟨h3, -⟩
  · rw [ho] at hw; cases hw
  · omega
  · rw [hc] at h3; cases h3

/-- how many answers so many bytes may take -/
def hv (m : Nat) : Nat := if m = 0 then 0 else if m < 2 then 1 else if m < 4 then 2 else if m < 8 then 3 else if m < 16 then 4 else if m < 32 then 5 else if m < 64 then 6 else 7
theorem hv_le (m : Nat) : hv m ≤ 7 := by
  unfold hv
  repeat' split
  all_goals omega
theorem hv_half {m k : Nat} (h : 1 ≤ m) (h2 : m ≤ 127) (hk : 2 * k ≤ m) : hv k + 1 ≤ hv m := by
  unfold hv
  repeat' split
  all_goals omega
def phi (F : List Int) (w : Wt) : Nat := 1 + hv (min w.2.toNat (F.length - w.1.toNat))
def phis (F : List Int) : List Wt → Nat
  | [] => 0
  | w :: t => phi F w + phis F t
theorem phis_app (F : List Int) : ∀ l m, phis F (l ++ m) = phis F l + phis F m
  | [], m => by simp [phis]
  | w :: t, m => by simp only [List.cons_append, phis]; rw [phis_app F t m]; omega
theorem phis_erase (F : List Int) : ∀ (l : List Wt) (w : Wt), w ∈ l → phis F l = phi F w + phis F (l.erase w)
  | [], w, h => by cases h
  | x :: t, w, h => by
    by_cases hx : x = w
    · subst hx; rw [List.erase_cons_head]; rfl
    · rw [List.erase_cons_tail (by simpa using hx)]
      rcases List.mem_cons.1 h with h | h
      · exact absurd h.symm hx
      · have := phis_erase F t w h
        simp only [phis]; omega
def pot (F : List Int) (s : Fs) : Nat := phis F s.out + 8 * ((2100 - s.front) / 100).toNat
theorem pot_one {F : List Int} {s : Fs} (h : Inv100 s) (hs : FsOk s) (hm : mayOn s = true) : pot F (askOne s) ≤ pot F s := by
  simp [mayOn] at hm
  have h1 := h.front
  have h2 := hs.f0
  unfold pot
  show phis F (s.out ++ [(s.front, 100)]) + 8 * ((2100 - (s.front + 100)) / 100).toNat ≤ _
  rw [phis_app]
  have h3 : phis F [(s.front, 100)] ≤ 8 := by
    simp only [phis, phi]
    have := hv_le (min (100 : Int).toNat (F.length - s.front.toNat))
    omega
  omega
theorem pot_N {F : List Int} (n : Nat) : ∀ s, InvF F s → pot F (askOnN n s) ≤ pot F s := by
  induction n with
  | zero => intro s h; exact Nat.le_refl _
  | succ n ih =>
    intro s h
    unfold askOnN
    by_cases hm : mayOn s = true
    · rw [if_pos hm]; exact Nat.le_trans (ih _ (h.one hm)) (pot_one h.h100 h.ok hm)
    · rw [if_neg hm]; exact Nat.le_refl _
theorem stop_pot {F : List Int} (a : Int) (s : Fs) : pot F (stopT a s) = pot F s := by unfold stopT; split <;> rfl
theorem pot_got {F : List Int} {s : Fs} (h : InvF F s) {w : Wt} {g : Gt} (hw : w ∈ s.out) (ha : Ans F w g) : pot F (gotT g s) + 1 ≤ pot F s := by
  obtain ⟨a0, a1, a2, a3⟩ := h.ok.wants w hw
  have hwg : (g.at_, g.cnt) = w := by rw [ha.at_, ha.cnt]
  have he := phis_erase F s.out w hw
  rcases ha.data with ⟨hd, hN⟩ | ⟨m, a, hwa, haF, hm1, hd, haN, hmw, hm2⟩
  · have e : pot F (gotT g s) = phis F (s.out.erase w) + 8 * ((2100 - s.front) / 100).toNat := by
      unfold gotT
      simp only
      rw [hwg, if_pos (by rw [hd]; rfl), stop_pot]
      rfl
    rw [e]; unfold pot phi at *; omega
  · have hdl : g.data.length = m := by rw [hd, List.length_take, List.length_drop]; omega
    by_cases hmc : (m : Int) < w.2
    · have e : pot F (gotT g s) = phis F (s.out.erase w) + phi F (w.1 + m, w.2 - m) + 8 * ((2100 - s.front) / 100).toNat := by
        unfold gotT
        simp only
        rw [hwg, if_neg (by omega), hdl, if_pos (by rw [ha.cnt]; exact hmc), ha.at_, ha.cnt]
        show phis F (s.out.erase w ++ [(w.1 + (m : Int), w.2 - (m : Int))]) + 8 * ((2100 - s.front) / 100).toNat = _
        rw [phis_app]
        simp only [phis]
        omega
      have hp : phi F (w.1 + m, w.2 - m) + 1 ≤ phi F w := by
        unfold phi
        simp only
        have := hv_half (m := min w.2.toNat (F.length - w.1.toNat)) (k := min (w.2 - m).toNat (F.length - (w.1 + m).toNat)) (by omega) (by omega) (by omega)
        omega
      rw [e]; unfold pot; omega
    · have e : pot F (gotT g s) = phis F (s.out.erase w) + 8 * ((2100 - s.front) / 100).toNat := by
        unfold gotT
        simp only
        rw [hwg, if_neg (by omega), hdl, if_neg (by rw [ha.cnt]; exact hmc)]
        rfl
      rw [e]; unfold pot phi at *; omega
theorem pot_take {F : List Int} {s : Fs} (h : InvF F s) {w : Wt} {g : Gt} (hw : w ∈ s.out) (ha : Ans F w g) : pot F (takeG s g).2 + 1 ≤ pot F s := by
  rw [(h.take hw ha).1]
  have h1 := pot_N 6 _ (h.got hw ha)
  have h2 := pot_got h hw ha
  show pot F (askOn (gotT g s)) + 1 ≤ _
  exact Nat.le_trans (Nat.add_le_add_right h1 1) h2
theorem pot0 (F : List Int) : pot F (nextT 0 fs0).2 ≤ 168 := by
  have h1 := pot_N 6 _ (invF0 F)
  have h2 : pot F fs0 = 168 := rfl
  rw [h2] at h1
  exact h1
/-- what is told is what is out behind what was -/
theorem askOnN_pre (n : Nat) : ∀ s : Fs, ∃ l, (askOnN n s).out = s.out ++ l := by
  induction n with
  | zero => intro s; exact ⟨[], by simp [askOnN]⟩
  | succ n ih =>
    intro s
    unfold askOnN
    split
    · obtain ⟨l, hl⟩ := ih (askOne s)
      exact ⟨(s.front, 100) :: l, by rw [hl]; simp [askOne]⟩
    · exact ⟨[], by simp⟩
theorem got_pre (g : Gt) (s : Fs) : ∃ l, (gotT g s).out = s.out.erase (g.at_, g.cnt) ++ l := by
  unfold gotT
  simp only
  split
  · refine ⟨[], ?_⟩
    unfold stopT
    split <;> simp
  · split
    · exact ⟨_, rfl⟩
    · exact ⟨[], by simp⟩
theorem InvF.out {F : List Int} {s : Fs} (h : InvF F s) {w : Wt} {g : Gt} (hw : w ∈ s.out) (ha : Ans F w g) : (takeG s g).2.out = s.out.erase w ++ (takeG s g).1.wants := by
  have hwg : (g.at_, g.cnt) = w := by rw [ha.at_, ha.cnt]
  obtain ⟨l1, h1⟩ := got_pre g s
  obtain ⟨l2, h2⟩ := askOnN_pre 6 (gotT g s)
  rw [(h.take hw ha).1]
  show (askOn (gotT g s)).out = s.out.erase w ++ (askOn (gotT g s)).out.drop (s.out.length - 1)
  unfold askOn
  rw [h2, h1, hwg, List.append_assoc, ← List.length_erase_of_mem hw, List.drop_left]
/-- each is there once -/
theorem InvF.once {F : List Int} {s : Fs} (h : InvF F s) {k : Nat} {w : Wt} (hk : s.out[k]? = some w) : s.out.erase w = s.out.take k ++ s.out.drop (k + 1) := by
  have hn : w ∉ s.out.take k := fun hm => by
    obtain ⟨i, hi, hiw⟩ := List.mem_iff_getElem.1 hm
    rw [List.length_take] at hi
    rw [List.getElem_take] at hiw
    obtain ⟨hkl, hkw⟩ := List.getElem?_eq_some_iff.1 hk
    have hd := List.pairwise_iff_getElem.1 h.apart i k (by omega) hkl (by omega)
    rw [hiw, hkw] at hd
    obtain ⟨-, a1, -, -⟩ := h.ok.wants w (List.mem_of_getElem? hk)
    rcases hd with hd | hd <;> omega
  have hlt := (List.getElem?_eq_some_iff.1 hk).1
  have hd : s.out.drop k = w :: s.out.drop (k + 1) := by rw [List.drop_eq_getElem_cons hlt]; congr 1; simpa [List.getElem?_eq_getElem hlt] using hk
  conv => lhs; rw [← List.take_append_drop k s.out, hd]
  rw [List.erase_append_right _ hn, List.erase_cons_head]

end Go.Proofs.Ytjlnjeigoncfoaa
