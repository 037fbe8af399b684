/-
  Mathematics of SendHeard: polls until there is nothing to send.
-/
import Derived.Test.YtehckiihipnimaaSendRuns
import Derived.Test.YtehckiihipnimaaSendRel
import Derived.Test.YtehckiihipnimaaSendAllMath
namespace Go.Proofs.Ytehckiihipnimaa
set_option linter.unusedVariables false
set_option linter.unusedSimpArgs false

def pollD : Dd := ⟨3, [], 0, 0, []⟩
/-- who sends behind so many polls -/
def iter (s : Sd) : Nat → Sd
  | 0 => s
  | n + 1 => (polls (iter s n)).2
def IdleP (s : Sd) : Prop := (∀ i, s.todo ≤ i → unk s i = false) ∧ lim s ≤ s.sent
theorem iter_ok {s : Sd} (h : SdOk s) : ∀ n, SdOk (iter s n)
  | 0 => h
  | n + 1 => polls_ok (iter_ok h n)
theorem iter_sds (s : Sd) : ∀ n, sds s (List.replicate n pollD) = iter s n
  | 0 => rfl
  | n + 1 => by
    rw [List.replicate_succ', sds_app, iter_sds s n]
    show (deed (iter s n) pollD).2 = (polls (iter s n)).2
    rw [deed_poll _ _ rfl]
/-- what a poll leaves as it was -/
theorem polls_keep {s : Sd} (h : SdOk s) : (polls s).2.data = s.data ∧ (polls s).2.closed = s.closed ∧ (polls s).2.edge = s.edge ∧ (polls s).2.known = s.known ∧ s.sent ≤ (polls s).2.sent := by
  have hK := polls_K h
  generalize (polls s).1 = t at hK
  generalize (polls s).2 = s' at hK
  cases hK with
  | again a m fin hA hl hw hu => exact ⟨rfl, rfl, rfl, rfl, Nat.le_refl _⟩
  | new m fin hn hl hp hle hw => exact ⟨rfl, rfl, rfl, rfl, by simp only; omega⟩
  | idle hn hl hw => exact ⟨rfl, rfl, rfl, rfl, Nat.le_refl _⟩
theorem iter_keep {s : Sd} (h : SdOk s) : ∀ n, (iter s n).data = s.data ∧ (iter s n).closed = s.closed ∧ (iter s n).edge = s.edge ∧ (iter s n).known = s.known ∧ s.sent ≤ (iter s n).sent
  | 0 => ⟨rfl, rfl, rfl, rfl, Nat.le_refl _⟩
  | n + 1 => by
    obtain ⟨a1, a2, a3, a4, a5⟩ := iter_keep h n
    obtain ⟨b1, b2, b3, b4, b5⟩ := polls_keep (iter_ok h n)
    exact ⟨b1.trans a1, b2.trans a2, b3.trans a3, b4.trans a4, Nat.le_trans a5 b5⟩
theorem iter_work {s : Sd} (h : SdOk s) : ∀ n, work (iter s n) + 64 * n ≤ work s ∨ IdleP (iter s n)
  | 0 => .inl (by show work s + 64 * 0 ≤ work s; omega)
  | n + 1 => by
    have ih := iter_work h n
    have hK := polls_K (iter_ok h n)
    show work (polls (iter s n)).2 + 64 * (n + 1) ≤ work s ∨ IdleP (polls (iter s n)).2
    generalize iter s n = u at ih hK
    generalize (polls u).1 = t at hK
    generalize (polls u).2 = s' at hK
    cases hK with
    | again a m fin hA hl hw hu =>
      rcases ih with ih | ⟨i1, -⟩
      · left; omega
      · exact absurd (hA.all a (Nat.le_refl _) hA.lt) (by rw [i1 a hA.t]; simp)
    | new m fin hn hl hp hle hw =>
      rcases ih with ih | ⟨-, i2⟩
      · left; omega
      · exact absurd i2 (by omega)
    | idle hn hl hw => exact .inr ⟨hn, hl⟩
theorem iter_idle {s : Sd} (h : SdOk s) (n : Nat) (hn : work s < 64 * n) : IdleP (iter s n) := by
  rcases iter_work h n with g | g
  · omega
  · exact g
/-- all that may be sent was sent -/
theorem idle_all {s : Sd} (h : SdOk s) (hi : IdleP s) (he : (places s : Int) ≤ s.edge) : s.sent = places s := by
  have := hi.2
  have := h.sent
  unfold lim at *
  omega

/-- how often each place was told, where all was sent: once if it is not heard of and one is past it -/
def seenB (s : Sd) (t p : Nat) : Nat := if unk s p = true ∧ p < t then 1 else 0
theorem seen_step {s : Sd} (h : SdOk s) (hs : s.sent = places s) (hc : s.closed = false) : ∃ (a m : Nat), (polls s).1.data = (s.data.drop a).take m ∧ ((s.data.drop a).take m).length = m ∧ ((polls s).1.idle = false → (polls s).1.at_ = a) ∧ ((polls s).1.idle = true → m = 0) ∧
    a + m ≤ s.data.length ∧ (polls s).2.sent = s.sent ∧ (∀ p, unk (polls s).2 p = unk s p) ∧ (∀ p, seenB s s.todo p + (if a ≤ p ∧ p < a + m then 1 else 0) = seenB s (polls s).2.todo p) := by
  have hpl : places s = s.data.length := by unfold places; rw [hc]; simp
  have hK := polls_K h
  have hG := poll_good h
  generalize hpp : polls s = q at hK hG
  obtain ⟨t, s'⟩ := q
  simp only at hK ⊢
  cases hK with
  | again a m fin hA hl hw hu =>
    rcases hG with e | ⟨a', m', fin', ag', s1, e, G⟩
    · injection e with e1 _; injection e1 with _ _ _ _ _ e2; cases e2
    · injection e with e1 e3
      injection e1 with _ e4 e5 e6 e7 _ _
      have hf : fin = false := by
        rcases hfc : fin with _ | _
        · rfl
        · rw [hfc] at e6
          have := (G.fi e6.symm).2
          rw [hc] at this; cases this
      subst hf
      simp only [Bool.false_eq_true, if_false, Nat.add_zero] at hA ⊢
      have h3 := hA.le
      refine ⟨a, m, rfl, hl, fun _ => rfl, (fun g => by cases g), by omega, trivial, fun p => rfl, fun p => ?_⟩
      unfold seenB
      have h1 := hA.t; have h2 := hA.lt
      have hn := hA.none_ p
      have ha := hA.all p
      by_cases g1 : p < s.todo
      · rw [if_neg (show ¬ (a ≤ p ∧ p < a + m) by omega)]
        by_cases g2 : unk s p = true
        · rw [if_pos ⟨g2, g1⟩, if_pos ⟨g2, by omega⟩]
        · rw [if_neg (fun q => g2 q.1), if_neg (fun q => g2 q.1)]
      · rw [if_neg (fun q => g1 q.2)]
        by_cases g2 : p < a
        · rw [if_neg (show ¬ (a ≤ p ∧ p < a + m) by omega), if_neg (fun q => by rw [hn (by omega) g2] at q; cases q.1)]
        · by_cases g3 : p < a + m
          · rw [if_pos ⟨by omega, g3⟩, if_pos ⟨ha (by omega) g3, g3⟩]
          · rw [if_neg (show ¬ (a ≤ p ∧ p < a + m) by omega), if_neg (fun q => g3 q.2)]
  | new m fin hn hl hp hle hw =>
    exfalso
    have : lim s ≤ places s := by unfold lim; have := h.e0; omega
    omega
  | idle hn hl hw =>
    exact ⟨0, 0, by simp [st0], by simp, (fun g => by cases g), fun _ => rfl, by omega, rfl, fun p => rfl, fun p => by rw [if_neg (by omega)]; rfl⟩

/-! what is heard of -/
theorem isl_one (K : List Bool) (f : Nat) (h : ∀ p, hd K p = true → hd K (p - 1) = false → p = f) : ∀ m, isl K m ≤ if f < m then 1 else 0
  | 0 => by simp [isl]
  | m + 1 => by
    have ih := isl_one K f h m
    have e : isl K (m + 1) = isl K m + (if hd K m && !hd K (m - 1) then 1 else 0) := rfl
    rw [e]
    by_cases g : hd K m = true ∧ hd K (m - 1) = false
    · have := h m g.1 g.2
      subst this
      rw [if_neg (by omega)] at ih
      rw [g.1, g.2]
      simp; omega
    · have : (hd K m && !hd K (m - 1)) = false := by
        rcases h1 : hd K m with _ | _
        · rfl
        · rcases h2 : hd K (m - 1) with _ | _
          · exact absurd ⟨h1, h2⟩ g
          · rfl
      rw [this]
      simp only [Bool.false_eq_true, if_false, Nat.add_zero]
      split at ih
      · rw [if_pos (by omega)]; omega
      · omega
theorem hd_nil_pad (n p : Nat) : hd (pad [] n) p = false := by rw [hd_pad]; simp [hd]
theorem marks2 (n k f t : Nat) (hk : k ≤ n) (hf : f < t) (ht : t ≤ n) : ∃ K, marks (pad [] n) [((0 : Int), (k : Int)), ((f : Int), (t : Int))] = some K ∧ (∀ p, hd K p = true ↔ p < k ∨ (f ≤ p ∧ p < t)) ∧ K.length = n ∧ islands K ≤ 1 := by
  have hl : (pad [] n).length = n := pad_len (by simp)
  have h1 : ∀ p, hd (mark (pad [] n) ((0 : Int), (k : Int))) p = true ↔ p < k := fun p => by
    have := hd_fill (pad [] n) 0 k (by omega) p
    rw [hd_nil_pad] at this
    show hd (fill (pad [] n) (0 : Int).toNat ((k : Int) - 0).toNat) p = true ↔ _
    rw [show (0 : Int).toNat = 0 from rfl, show ((k : Int) - 0).toNat = k by omega, this]
    simp
  have hl1 : (mark (pad [] n) ((0 : Int), (k : Int))).length = n := by unfold mark; rw [fill_len, hl]
  have h2 : ∀ p, hd (mark (mark (pad [] n) ((0 : Int), (k : Int))) ((f : Int), (t : Int))) p = true ↔ p < k ∨ (f ≤ p ∧ p < t) := fun p => by
    have := hd_fill (mark (pad [] n) ((0 : Int), (k : Int))) f (t - f) (by omega) p
    show hd (fill (mark (pad [] n) ((0 : Int), (k : Int))) (f : Int).toNat ((t : Int) - (f : Int)).toNat) p = true ↔ _
    rw [show ((f : Int)).toNat = f by omega, show ((t : Int) - (f : Int)).toNat = t - f by omega, this, h1]
    constructor
    · rintro (g | g)
      · exact .inl g
      · exact .inr (by omega)
    · rintro (g | g)
      · exact .inl g
      · exact .inr (by omega)
  have no : ∀ (K : List Bool), (∀ p, hd K p = true → hd K (p - 1) = false → p = f) → ¬ 16 < islands K := fun K h => by
    have := isl_one K f h K.length
    unfold islands
    split at this <;> omega
  have bf : ∀ (K : List Bool) (p : Nat), (hd K p = false) ↔ ¬ hd K p = true := fun K p => by rcases hd K p with _ | _ <;> simp
  refine ⟨_, ?_, h2, by unfold mark; rw [fill_len]; exact hl1, by
    have := isl_one (mark (mark (pad [] n) ((0 : Int), (k : Int))) ((f : Int), (t : Int))) f (fun p g1 g2 => by rw [bf, h2] at g2; rw [h2] at g1; omega) (mark (mark (pad [] n) ((0 : Int), (k : Int))) ((f : Int), (t : Int))).length
    unfold islands
    split at this <;> omega⟩
  unfold marks
  rw [if_neg (no _ fun p g1 g2 => by
    rw [bf, h1] at g2; rw [h1] at g1; omega)]
  unfold marks
  rw [if_neg (no _ fun p g1 g2 => by
    rw [bf, h2] at g2; rw [h2] at g1; omega)]
  rfl
theorem marks1 (K : List Bool) (n : Nat) (hK : K.length ≤ n) : ∃ K', marks (pad K n) [((0 : Int), (n : Int))] = some K' ∧ ∀ p, p < n → hd K' p = true := by
  have hl : (pad K n).length = n := pad_len hK
  have h1 : ∀ p, hd (mark (pad K n) ((0 : Int), (n : Int))) p = true ↔ p < n := fun p => by
    have := hd_fill (pad K n) 0 n (by omega) p
    show hd (fill (pad K n) (0 : Int).toNat ((n : Int) - 0).toNat) p = true ↔ _
    rw [show (0 : Int).toNat = 0 from rfl, show ((n : Int) - 0).toNat = n by omega, this]
    constructor
    · rintro (g | g)
      · have := hd_lt g; omega
      · omega
    · intro g; exact .inr (by omega)
  refine ⟨_, ?_, fun p hp => (h1 p).2 hp⟩
  unfold marks
  have bf : ∀ (K : List Bool) (p : Nat), (hd K p = false) ↔ ¬ hd K p = true := fun K p => by rcases hd K p with _ | _ <;> simp
  rw [if_neg (by
    have := isl_one (mark (pad K n) ((0 : Int), (n : Int))) 0 (fun p g1 g2 => by rw [bf, h1] at g2; rw [h1] at g1; omega) (mark (pad K n) ((0 : Int), (n : Int))).length
    unfold islands
    split at this <;> omega)]
  rfl

/-! the whole of it -/
def subD (z : List Int) : Dd := ⟨1, z, 0, 0, []⟩
def hrdD (k : Nat) (l : List Rg) : Dd := ⟨2, [], k, 0, l⟩
def tmoD : Dd := ⟨4, [], 0, 0, []⟩
theorem heard_first (z : List Int) (n k f t : Nat) (hz : z.length = n) (hn : n ≤ 203) (hk : k ≤ n) (hf : f < t) (ht : t ≤ n) :
    ∃ s, sds (sd0 1000) ((subD z :: List.replicate 10 pollD) ++ [hrdD k [((f : Int), (t : Int))], tmoD]) = s ∧ SdOk s ∧ s.sent = n ∧ places s = n ∧ s.closed = false ∧ s.data = z ∧ s.todo = 0 ∧ s.known.length ≤ n ∧ (n : Int) ≤ s.edge ∧ islands s.known ≤ 1 ∧ (∀ p, unk s p = true ↔ p < n ∧ ¬ (p < k ∨ (f ≤ p ∧ p < t))) := by
  have hok0 : SdOk (sd0 1000) := sd0_ok (by omega) (by omega)
  have hA : (deed (sd0 1000) (subD z)).2 = { sd0 1000 with data := z } := by
    unfold deed subD sd0
    simp
    rw [if_neg (by omega), if_neg (by omega)]
  have hokA : SdOk { sd0 1000 with data := z } := by rw [← hA]; exact deed_ok hok0 _
  obtain ⟨sA, hsA⟩ : ∃ x, x = ({ sd0 1000 with data := z } : Sd) := ⟨_, rfl⟩
  rw [← hsA] at hA hokA
  have hplA : places sA = n := by rw [hsA]; simp [places, sd0, hz]
  have hwA : work sA < 64 * 10 := by
    have h1 : pot sA sA.todo = 0 := pot_zero (fun i _ => by rw [hsA]; simp [unk, sd0])
    have h2 : lim sA ≤ n := by rw [← hplA]; unfold lim; have := hokA.e0; omega
    unfold work
    rw [h1]
    split <;> omega
  have hokB := iter_ok hokA 10
  obtain ⟨b1, b2, b3, b4, b5⟩ := iter_keep hokA 10
  have hiB := iter_idle hokA 10 hwA
  obtain ⟨sB, hsB⟩ : ∃ x, x = iter sA 10 := ⟨_, rfl⟩
  rw [← hsB] at hokB b1 b2 b3 b4 b5 hiB
  have c1 : sB.data = z := by rw [b1, hsA]
  have c2 : sB.closed = false := by rw [b2, hsA]; rfl
  have c3 : sB.edge = 1000 := by rw [b3, hsA]; rfl
  have c4 : sB.known = [] := by rw [b4, hsA]; rfl
  have hplB : places sB = n := by unfold places; rw [c1, c2]; simp [hz]
  have hsn : sB.sent = n := by rw [← hplB]; exact idle_all hokB hiB (by rw [hplB, c3]; omega)
  obtain ⟨K, hK1, hK2, hK3, hK4⟩ := marks2 n k f t hk hf ht
  have hmk : marks (pad sB.known sB.sent) [((0 : Int), (k : Int)), ((f : Int), (t : Int))] = some K := by rw [c4, hsn]; exact hK1
  have hC : (deed sB (hrdD k [((f : Int), (t : Int))])).2 = { sB with known := K, edge := max sB.edge ((k : Int) + 0) } := by
    unfold deed hrdD
    simp only [show ¬ (2 : Int) = 1 by omega, show ¬ (2 : Int) = 5 by omega, if_true, if_false]
    unfold hears
    simp only
    rw [if_neg (by omega), if_neg (by simp), if_neg (fun ⟨r, hr, hb⟩ => by simp at hr; subst hr; unfold badR at hb; simp only at hb; omega), hmk]
    rfl
  obtain ⟨sC, hsC⟩ : ∃ x, x = ({ sB with known := K, edge := max sB.edge ((k : Int) + 0) } : Sd) := ⟨_, rfl⟩
  rw [← hsC] at hC
  have hplC : places sC = n := by rw [hsC]; exact hplB
  have hD : (deed sC tmoD).2 = { sC with todo := 0 } := by
    rw [(deed_timeout sC tmoD rfl).2, if_neg (fun g => by have := g.2.1; rw [hplC, hsC] at this; simp only at this; omega)]
  have hokD : SdOk { sC with todo := 0 } := by rw [← hD, ← hC]; exact deed_ok (deed_ok hokB _) _
  refine ⟨{ sC with todo := 0 }, ?_, hokD, by rw [hsC]; exact hsn, hplC, by rw [hsC]; exact c2, by rw [hsC]; exact c1, rfl, by rw [hsC]; simp only; omega, by rw [hsC]; simp only; omega, by rw [hsC]; exact hK4, fun p => ?_⟩
  · have e1 : sds (sd0 1000) (subD z :: List.replicate 10 pollD) = sB := by rw [sds, hA, iter_sds, ← hsB]
    rw [sds_app, e1, sds, sds, sds, hC, hD]
  · unfold unk
    rw [hsC]
    simp only [Bool.and_eq_true, decide_eq_true_eq, Bool.not_eq_true', hsn]
    have := hK2 p
    constructor
    · rintro ⟨g1, g2⟩
      refine ⟨g1, fun g => ?_⟩
      rw [this.2 g] at g2; cases g2
    · rintro ⟨g1, g2⟩
      refine ⟨g1, ?_⟩
      rcases hv : hd K p with _ | _
      · rfl
      · exact absurd (this.1 hv) g2
theorem heard_mid {s : Sd} (n : Nat) (h : SdOk s) (hs : s.sent = n) (hp : places s = n) (hn : n ≤ 203) (hi : islands s.known ≤ 1) : IdleP (iter s 12) := by
  refine iter_idle h 12 ?_
  have h2 : lim s ≤ n := by unfold lim; have := h.e0; omega
  have h1 := cf_le (unk s) s.todo (s.sent - s.todo)
  have hr := ends_le s s.todo (s.sent - s.todo)
  unfold work pot
  rw [if_neg (by omega)]
  omega
theorem heard_last {s : Sd} (n : Nat) (h : SdOk s) (hs : s.sent = n) (hp : places s = n) (hK : s.known.length ≤ n) : ∃ x, sent s [hrdD n [], tmoD, pollD] = [(deed s (hrdD n [])).1, (deed (deed s (hrdD n [])).2 tmoD).1, x] ∧ x.idle = true ∧ x.left = 0 := by
  obtain ⟨K, hK1, hK2⟩ := marks1 s.known n hK
  have hn : n ≤ 1048576 := by have := h.len; have := places_le s; omega
  have hmk : marks (pad s.known s.sent) [((0 : Int), (n : Int))] = some K := by rw [hs]; exact hK1
  have hC : (deed s (hrdD n [])).2 = { s with known := K, edge := max s.edge ((n : Int) + 0) } := by
    unfold deed hrdD
    simp only [show ¬ (2 : Int) = 1 by omega, show ¬ (2 : Int) = 5 by omega, if_true, if_false]
    unfold hears
    simp only
    rw [if_neg (by omega), if_neg (by simp), if_neg (fun ⟨r, hr, hb⟩ => by simp at hr), hmk]
    rfl
  obtain ⟨sC, hsC⟩ : ∃ x, x = ({ s with known := K, edge := max s.edge ((n : Int) + 0) } : Sd) := ⟨_, rfl⟩
  rw [← hsC] at hC
  have hplC : places sC = n := by rw [hsC]; exact hp
  have hD : (deed sC tmoD).2 = { sC with todo := 0 } := by
    rw [(deed_timeout sC tmoD rfl).2, if_neg (fun g => by have := g.2.1; rw [hplC, hsC] at this; simp only at this; omega)]
  have hokD : SdOk { sC with todo := 0 } := by rw [← hD, ← hC]; exact deed_ok (deed_ok h _) _
  obtain ⟨sD, hsD⟩ : ∃ x, x = ({ sC with todo := 0 } : Sd) := ⟨_, rfl⟩
  rw [← hsD] at hD hokD
  have hDs : sD.sent = n := by rw [hsD, hsC]; exact hs
  have hDp : places sD = n := by rw [hsD]; exact hplC
  have hDk : sD.known = K := by rw [hsD, hsC]
  have hno : ∀ p, unk sD p = false := fun p => by
    unfold unk
    by_cases g : p < n
    · rw [hDk, hK2 p g]; simp
    · rw [decide_eq_false (by omega)]; rfl
  have hP : polls sD = ({ st0 with idle := true }, sD) := by
    have hK := polls_K hokD
    generalize hq : polls sD = q at hK
    obtain ⟨a, b⟩ := q
    simp only at hK
    cases hK with
    | again a m fin hA hl hw hu => exact absurd (hA.all a (Nat.le_refl _) hA.lt) (by rw [hno]; simp)
    | new m fin hn' hl hp' hle hw =>
      have : lim sD ≤ n := by unfold lim; have := hokD.e0; omega
      omega
    | idle hn' hl hw => rfl
  refine ⟨(deed sD pollD).1, ?_, ?_, ?_⟩
  · simp only [sent, hC, hD]
  · rw [deed_poll _ _ rfl, hP]
  · rw [deed_left, deed_poll _ _ rfl, hP]
    show left sD = 0
    have h1 := cnt_seg sD.known 0 true n (fun i _ hi => by rw [hDk]; exact hK2 i (by omega))
    simp only [Nat.zero_add, if_true, show cnt sD.known 0 = 0 from rfl] at h1
    unfold left
    rw [hDp, hDs, h1]
    omega

theorem told_poll (s : Sd) : (deed s pollD).1.data = (polls s).1.data ∧ (deed s pollD).1.at_ = (polls s).1.at_ ∧ (deed s pollD).1.idle = (polls s).1.idle := by
  rw [deed_poll _ _ rfl]
  exact ⟨rfl, rfl, rfl⟩

theorem told_mid (A B : List Dd) (s0 s : Sd) (q j m : Nat) (hA : sds s0 A = s) (hl : A.length = q) (hj : j < m) :
    (sent s0 (A ++ (List.replicate m pollD ++ B)))[q + j]? = some (deed (iter s j) pollD).1 := by
  have hget : (A ++ (List.replicate m pollD ++ B))[q + j]? = some pollD := by
    rw [List.getElem?_append_right (by omega), hl, Nat.add_sub_cancel_left, List.getElem?_append_left (by simp; omega), List.getElem?_replicate, if_pos hj]
  have htake : (A ++ (List.replicate m pollD ++ B)).take (q + j) = A ++ List.replicate j pollD := by
    rw [← hl, List.take_length_add_append, List.take_append_of_le_length (by simp; omega), List.take_replicate, Nat.min_eq_left (by omega)]
  rw [sent_get _ s0 (q + j) pollD hget, htake, sds_app, hA, iter_sds]

theorem told_end (A : List Dd) (s0 s : Sd) (m q : Nat) (C : List Dd) (hA : sds s0 A = s) (hl : A.length + m = q) (i : Nat) (hi : i < C.length) :
    (sent s0 (A ++ (List.replicate m pollD ++ C)))[q + i]? = (sent (iter s m) C)[i]? := by
  obtain ⟨d, hd⟩ : ∃ d, C[i]? = some d := ⟨_, List.getElem?_eq_getElem hi⟩
  have hget : (A ++ (List.replicate m pollD ++ C))[q + i]? = some d := by
    rw [List.getElem?_append_right (by omega), List.getElem?_append_right (by simp; omega), List.length_replicate, show q + i - A.length - m = i by omega, hd]
  have htake : (A ++ (List.replicate m pollD ++ C)).take (q + i) = A ++ (List.replicate m pollD ++ C.take i) := by
    rw [show q + i = A.length + ((List.replicate m pollD).length + i) by simp; omega, List.take_length_add_append, List.take_length_add_append]
  rw [sent_get _ s0 (q + i) d hget, sent_get _ (iter s m) i d hd, htake, sds_app, hA, sds_app, iter_sds]

/-- a poll where all was sent changes nothing but where it goes on -/
theorem iter_same {s : Sd} {n : Nat} (h : SdOk s) (hs : s.sent = n) (hp : places s = n) (j : Nat) : SdOk (iter s j) ∧ (iter s j).sent = n ∧ places (iter s j) = n ∧ (iter s j).closed = s.closed ∧ (iter s j).data = s.data ∧ (∀ p, unk (iter s j) p = unk s p) ∧ (iter s j).known = s.known := by
  have hok := iter_ok h j
  obtain ⟨k1, k2, k3, k4, k5⟩ := iter_keep h j
  have hpl : places (iter s j) = n := by unfold places at hp ⊢; rw [k1, k2]; exact hp
  have hsn : (iter s j).sent = n := by have := hok.sent; omega
  exact ⟨hok, hsn, hpl, k2, k1, fun p => by unfold unk; rw [hsn, hs, k4], k4⟩
def rowS (s : Sd) (n : Nat) : List Nat := (List.range n).map (seenB s s.todo)
def rowI (s : Sd) (n a i : Nat) : List Nat := (List.range n).map fun p => seenB s s.todo p + (if a ≤ p ∧ p < a + i then 1 else 0)
theorem row_get (f : Nat → Nat) (n p : Nat) (h : p < n) : ((List.range n).map f)[p]? = some (f p) := by
  rw [List.getElem?_map, List.getElem?_range h]; rfl
theorem row_first (s : Sd) (n : Nat) (h : s.todo = 0) : rowS s n = List.replicate n 0 := by
  apply List.ext_getElem?
  intro p
  by_cases g : p < n
  · unfold rowS; rw [row_get _ _ _ g, List.getElem?_replicate, if_pos g]
    unfold seenB; rw [if_neg (by omega)]
  · rw [List.getElem?_eq_none (by unfold rowS; simp; omega), List.getElem?_eq_none (by simp; omega)]
theorem rowI_zero (s : Sd) (n a : Nat) : rowI s n a 0 = rowS s n := by
  unfold rowI rowS
  congr 1
  funext p
  rw [if_neg (by omega)]; rfl
theorem rowI_step (s : Sd) (n a i : Nat) (h : a + i < n) : (rowI s n a i).set (a + i) (seenB s s.todo (a + i) + 1) = rowI s n a (i + 1) := by
  apply List.ext_getElem?
  intro p
  rw [List.getElem?_set]
  by_cases g : p < n
  · unfold rowI
    rw [row_get _ _ _ g, row_get _ _ _ g]
    by_cases e : a + i = p
    · subst e
      rw [if_pos rfl, if_pos (by simp; exact h), if_pos ⟨by omega, by omega⟩]
    · rw [if_neg e]
      by_cases q : a ≤ p ∧ p < a + i
      · rw [if_pos q, if_pos ⟨q.1, by omega⟩]
      · rw [if_neg q, if_neg (by omega)]
  · rw [if_neg (by omega), List.getElem?_eq_none (by unfold rowI; simp; omega), List.getElem?_eq_none (by unfold rowI; simp; omega)]
theorem rowI_at (s : Sd) (n a i : Nat) (h : a + i < n) : (rowI s n a i)[a + i]? = some (seenB s s.todo (a + i)) := by
  unfold rowI
  rw [row_get _ _ _ h, if_neg (by omega)]; rfl
theorem seenB_le (s : Sd) (t p : Nat) : seenB s t p ≤ 1 := by unfold seenB; split <;> omega
theorem rowI_end (s s' : Sd) (n a m : Nat) (hu : ∀ p, unk s' p = unk s p) (h : ∀ p, seenB s s.todo p + (if a ≤ p ∧ p < a + m then 1 else 0) = seenB s s'.todo p) : rowI s n a m = rowS s' n := by
  unfold rowI rowS
  congr 1
  funext p
  rw [h p]
  unfold seenB
  rw [hu p]
/-- what is told of each place at the end -/
theorem row_last {s : Sd} {n k f t : Nat} (h : SdOk s) (hs : s.sent = n) (hp : places s = n) (hn : n ≤ 203) (hi : islands s.known ≤ 1) (hu : ∀ p, unk s p = true ↔ p < n ∧ ¬ (p < k ∨ (f ≤ p ∧ p < t))) (p : Nat) (hpn : p < n) :
    (rowS (iter s 12) n)[p]? = some (if p < k ∨ (f ≤ p ∧ p < t) then 0 else 1) := by
  have hI := heard_mid n h hs hp hn hi
  obtain ⟨-, -, -, -, -, i6, -⟩ := iter_same h hs hp 12
  unfold rowS
  rw [row_get _ _ _ hpn]
  unfold seenB
  by_cases g : p < k ∨ (f ≤ p ∧ p < t)
  · rw [if_pos g, if_neg (fun q => ((hu p).1 (by rw [← i6]; exact q.1)).2 g)]
  · have hup : unk s p = true := (hu p).2 ⟨hpn, g⟩
    rw [if_neg g, if_pos ⟨by rw [i6]; exact hup, by
      rcases Nat.lt_or_ge p (iter s 12).todo with q | q
      · exact q
      · have := hI.1 p q; rw [i6, hup] at this; cases this⟩]

end Go.Proofs.Ytehckiihipnimaa
