/-
  Mathematics of who sends: polls, one behind another: what is sent again is what is not heard of, each place once; and how many polls that takes.
-/
import Derived.Test.YtehckiihipnimaaSendKeep
namespace Go.Proofs.Ytehckiihipnimaa
set_option linter.unusedVariables false

theorem run_spec (s : Sd) (ag : Bool) (li : Int) : ∀ (f n m : Nat), m ≤ 64 → 66 ≤ f + m → n ≤ s.data.length →
    (∀ i, n ≤ i → i < n + ((run s ag li f n m).1 - m) → goes s ag li i) ∧ ((run s ag li f n m).2 = true → goes s ag li (n + ((run s ag li f n m).1 - m)) ∧ n + ((run s ag li f n m).1 - m) = s.data.length) ∧
    ((run s ag li f n m).2 = false → (run s ag li f n m).1 = 64 ∨ ¬ goes s ag li (n + ((run s ag li f n m).1 - m)))
  | 0, n, m, h, hf, hn => by omega
  | f + 1, n, m, h, hf, hn => by
    unfold run
    split
    · rename_i g
      split
      · rename_i e
        refine ⟨fun i h1 h2 => by simp at h2; omega, fun _ => ?_, fun h => by simp at h⟩
        simp only [Nat.sub_self, Nat.add_zero]
        exact ⟨g, e⟩
      · rename_i e
        split
        · rename_i e64
          exact ⟨fun i h1 h2 => by simp at h2; omega, fun h => by simp at h, fun _ => .inl e64⟩
        · obtain ⟨i1, i2, i3⟩ := run_spec s ag li f (n + 1) (m + 1) (by omega) (by omega) (by omega)
          obtain ⟨b1, -, -, -, -⟩ := run_bd s ag li f (n + 1) (m + 1) (by omega) (by omega)
          rw [show n + ((run s ag li f (n + 1) (m + 1)).1 - m) = n + 1 + ((run s ag li f (n + 1) (m + 1)).1 - (m + 1)) by omega]
          refine ⟨fun i h1 h2 => ?_, i2, i3⟩
          by_cases hi : i = n
          · rw [hi]; exact g
          · exact i1 i (by omega) h2
    · rename_i g
      refine ⟨fun i h1 h2 => by simp at h2; omega, fun h => by simp at h, fun _ => .inr ?_⟩
      simp only [Nat.sub_self, Nat.add_zero]
      exact g

/-- is this place to be sent again, if it is not heard of -/
def unk (s : Sd) (n : Nat) : Bool := decide (n < s.sent) && !hd s.known n
theorem skip_in (k : List Bool) (sent : Nat) : ∀ f n i, n ≤ i → i < skip k sent f n → hd k i = true
  | 0, n, i, h1, h2 => by simp only [skip] at h2; omega
  | f + 1, n, i, h1, h2 => by
    unfold skip at h2
    split at h2
    · rename_i g
      by_cases e : i = n
      · rw [e]; exact g.2
      · exact skip_in k sent f (n + 1) i (by omega) h2
    · omega
/-- something is to be sent again: what goes out -/
structure PollA (s : Sd) (a z : Nat) : Prop where
  t : s.todo ≤ a
  lt : a < z
  le : z ≤ s.sent
  few : z ≤ a + 65
  none_ : ∀ i, s.todo ≤ i → i < a → unk s i = false
  all : ∀ i, a ≤ i → i < z → unk s i = true
  stop : a + 64 ≤ z ∨ z = s.sent ∨ unk s z = false
theorem polls_A {s : Sd} (h : SdOk s) : (∃ (a m : Nat) (fin : Bool), (polls s).1 = ⟨0, a, (s.data.drop a).take m, fin, true, false, 0⟩ ∧ ((s.data.drop a).take m).length = m ∧ PollA s a (a + m + (if fin then 1 else 0)) ∧ (polls s).2 = { s with todo := a + m + (if fin then 1 else 0) }) ∨
    ((∀ i, s.todo ≤ i → unk s i = false) ∧ (polls s).1.again = false ∧ ((polls s = ({ st0 with idle := true }, s) ∧ ¬ goes s false s.edge s.sent) ∨
      ∃ (m : Nat) (fin : Bool), goes s false s.edge s.sent ∧ (polls s).1 = ⟨0, s.sent, (s.data.drop s.sent).take m, fin, false, false, 0⟩ ∧ ((s.data.drop s.sent).take m).length = m ∧ 0 < m + (if fin then 1 else 0) ∧ (polls s).2 = { s with sent := s.sent + m + (if fin then 1 else 0), todo := s.sent + m + (if fin then 1 else 0) } ∧
        (fin = false → m = 64 ∨ ¬ goes s false s.edge (s.sent + m)) ∧ (fin = true → s.sent + m = s.data.length))) := by
  obtain ⟨ag, at_, m, fin, tz, li, hag, hat, hli, hr, hto, hp, h1, h2, h3, h4, h5, h6⟩ := polls_cases s h
  have hpl := places_le s
  have hsk := skip_bd s.known s.sent (s.sent - s.todo) s.todo h.todo
  have hin := skip_in s.known s.sent (s.sent - s.todo) s.todo
  change ∀ i, s.todo ≤ i → i < skips s.known s.sent s.todo → hd s.known i = true at hin
  change s.todo ≤ skips s.known s.sent s.todo ∧ skips s.known s.sent s.todo ≤ s.sent at hsk
  have hsent := h.sent
  rcases ag with _ | _
  · right
    simp only [Bool.false_eq_true, if_false] at hat hli
    subst hat; subst hli
    have hns : ¬ skips s.known s.sent s.todo < s.sent := fun g => by rw [decide_eq_true g] at hag; cases hag
    have hno : ∀ i, s.todo ≤ i → unk s i = false := fun i hi => by
      unfold unk
      by_cases g : i < s.sent
      · rw [hin i hi (by omega)]; simp
      · simp [g]
    refine ⟨hno, ?_, ?_⟩
    · rw [hp]; split <;> rfl
    · by_cases hb : s.sent ≤ s.data.length
      · obtain ⟨r1, r2, r3⟩ := run_spec s false s.edge 66 s.sent 0 (by omega) (by omega) hb
        rw [show run s false s.edge 66 s.sent 0 = (m, fin) from hr.symm] at r1 r2 r3
        simp only [Nat.sub_zero] at r1 r2 r3
        by_cases he : tz = s.sent
        · left
          have hm0 : m = 0 ∧ fin = false := by rcases fin with _ | _ <;> simp at hto <;> constructor <;> first | omega | rfl
          refine ⟨by rw [hp, if_pos he], ?_⟩
          rcases r3 hm0.2 with g | g
          · omega
          · rw [hm0.1] at g; exact g
        · right
          refine ⟨m, fin, ?_, by rw [hp, if_neg he], ?_, by omega, by rw [hp, if_neg he]; simp only [Bool.false_eq_true, if_false]; rw [hto], fun hf => ?_, fun hf => (r2 hf).2⟩
          · rcases Nat.eq_zero_or_pos m with g | g
            · subst g
              rcases hf : fin with _ | _
              · rw [hf] at hto; simp at hto; omega
              · have := (r2 hf).1; simpa using this
            · exact r1 s.sent (Nat.le_refl _) (by omega)
          · rw [List.length_take, List.length_drop]
            rcases Nat.eq_zero_or_pos m with g | g
            · omega
            · have := h3 g; omega
          · rcases r3 hf with g | g
            · exact .inl g
            · exact .inr g
      · left
        have hn : ¬ goes s false s.edge s.sent := fun g => by have := g.2.1; omega
        have e0 : (m, fin) = (0, false) := by rw [hr]; unfold runs run; rw [if_neg hn]
        injection e0 with e1 e2
        subst e1; subst e2
        exact ⟨by rw [hp, if_pos (by simpa using hto)], hn⟩
  · left
    simp only [if_true] at hat hli
    subst hli
    have hlt : skips s.known s.sent s.todo < s.sent := of_decide_eq_true hag.symm
    subst hat
    have hhd := skip_hd s.known s.sent (s.sent - s.todo) s.todo (by omega) hlt
    change hd s.known (skips s.known s.sent s.todo) = false at hhd
    obtain ⟨a, ha⟩ : ∃ a, a = skips s.known s.sent s.todo := ⟨_, rfl⟩
    rw [← ha] at hp hr hto h1 h3 h4 hlt hhd hin hsk
    have hg : goes s true s.sent a := ⟨by omega, by omega, fun g => by rw [hhd] at g; cases g.2⟩
    have hb : a ≤ s.data.length := by omega
    obtain ⟨r1, r2, r3⟩ := run_spec s true s.sent 66 a 0 (by omega) (by omega) hb
    rw [show run s true s.sent 66 a 0 = (m, fin) from hr.symm] at r1 r2 r3
    simp only [Nat.sub_zero] at r1 r2 r3
    have hpos : a < tz := by
      rcases hf : fin with _ | _
      · rcases Nat.eq_zero_or_pos m with g | g
        · rcases r3 hf with q | q
          · omega
          · rw [g] at q; exact absurd hg q
        · rw [hto, hf]; simp; omega
      · rw [hto, hf]; simp; omega
    have hle := h6 rfl
    refine ⟨a, m, fin, by rw [hp, if_neg (by omega)], ?_, ?_, by rw [hp, if_neg (by omega)]; simp only [if_true]; rw [hto]⟩
    · rw [List.length_take, List.length_drop]
      rcases Nat.eq_zero_or_pos m with g | g
      · omega
      · have := h3 g; omega
    · rw [← hto]
      have hgo : ∀ i, a ≤ i → i < tz → goes s true s.sent i := fun i g1 g2 => by
        by_cases g : i < a + m
        · exact r1 i g1 g
        · rcases hf : fin with _ | _
          · rw [hf] at hto; simp at hto; omega
          · rw [hf] at hto; simp at hto
            rw [show i = a + m by omega]
            exact (r2 hf).1
      refine ⟨hsk.1, hpos, hle, by rw [hto]; split <;> omega, fun i g1 g2 => ?_, fun i g1 g2 => ?_, ?_⟩
      · unfold unk; rw [hin i g1 g2]; simp
      · have g := hgo i g1 g2
        unfold unk
        rcases hv : hd s.known i with _ | _
        · simp; have := g.1; omega
        · exact absurd ⟨rfl, hv⟩ g.2.2
      · rcases hf : fin with _ | _
        · rw [hf] at hto; simp at hto
          rcases r3 hf with g | g
          · left; omega
          · right
            rw [← hto] at g
            by_cases e : tz = s.sent
            · exact .inl e
            · right
              unfold unk
              rcases hv : hd s.known tz with _ | _
              · exact absurd ⟨by omega, by omega, fun q => by rw [hv] at q; cases q.2⟩ g
              · simp
        · have := (r2 hf).2
          have := (h4 hf).1
          rw [hf] at hto; simp at hto
          right; left
          have := places_le s
          omega

/-- how many of the places from t on (k of them) are so -/
def cf (p : Nat → Bool) (t : Nat) : Nat → Nat
  | 0 => 0
  | k + 1 => cf p t k + (if p (t + k) then 1 else 0)
theorem cf_add (p : Nat → Bool) (t k : Nat) : ∀ j, cf p t (k + j) = cf p t k + cf p (t + k) j
  | 0 => rfl
  | j + 1 => by
    show cf p t (k + j) + (if p (t + (k + j)) then 1 else 0) = cf p t k + (cf p (t + k) j + (if p (t + k + j) then 1 else 0))
    rw [cf_add p t k j, Nat.add_assoc t k j]; omega
theorem cf_none (p : Nat → Bool) (t : Nat) : ∀ k, (∀ i, t ≤ i → i < t + k → p i = false) → cf p t k = 0
  | 0, _ => rfl
  | k + 1, h => by
    show cf p t k + (if p (t + k) then 1 else 0) = 0
    rw [cf_none p t k (fun i a b => h i a (by omega)), h (t + k) (by omega) (by omega)]; rfl
theorem cf_all (p : Nat → Bool) (t : Nat) : ∀ k, (∀ i, t ≤ i → i < t + k → p i = true) → cf p t k = k
  | 0, _ => rfl
  | k + 1, h => by
    show cf p t k + (if p (t + k) then 1 else 0) = k + 1
    rw [cf_all p t k (fun i a b => h i a (by omega)), h (t + k) (by omega) (by omega)]; rfl
theorem cf_le (p : Nat → Bool) (t : Nat) : ∀ k, cf p t k ≤ k
  | 0 => Nat.le_refl _
  | k + 1 => by
    have := cf_le p t k
    show cf p t k + (if p (t + k) then 1 else 0) ≤ k + 1
    split <;> omega
/-- a run of places that are not heard of ends here -/
def ends (s : Sd) (n : Nat) : Bool := unk s n && !unk s (n + 1)
/-- what is left to be sent again, from place t on: its places, and 64 for each of its runs -/
def pot (s : Sd) (t : Nat) : Nat := cf (unk s) t (s.sent - t) + 64 * cf (ends s) t (s.sent - t)
theorem pot_step {s : Sd} {a z : Nat} (h : PollA s a z) : pot s z + 64 ≤ pot s s.todo ∧ cf (unk s) s.todo (s.sent - s.todo) = (z - a) + cf (unk s) z (s.sent - z) := by
  have h1 := h.t; have h2 := h.lt; have h3 := h.le
  have split3 : ∀ p : Nat → Bool, cf p s.todo (s.sent - s.todo) = cf p s.todo (a - s.todo) + cf p a (z - a) + cf p z (s.sent - z) := fun p => by
    have e1 := cf_add p s.todo (a - s.todo) (s.sent - a)
    have e2 := cf_add p a (z - a) (s.sent - z)
    rw [show s.todo + (a - s.todo) = a by omega, show a - s.todo + (s.sent - a) = s.sent - s.todo by omega] at e1
    rw [show a + (z - a) = z by omega, show z - a + (s.sent - z) = s.sent - a by omega] at e2
    omega
  have u1 := cf_none (unk s) s.todo (a - s.todo) (fun i g1 g2 => h.none_ i g1 (by omega))
  have u2 := cf_all (unk s) a (z - a) (fun i g1 g2 => h.all i g1 (by omega))
  have hu := split3 (unk s)
  have he := split3 (ends s)
  have hu' : cf (unk s) s.todo (s.sent - s.todo) = (z - a) + cf (unk s) z (s.sent - z) := by omega
  refine ⟨?_, hu'⟩
  unfold pot
  rw [hu', he]
  by_cases h64 : a + 64 ≤ z
  · omega
  · have hend : ends s (z - 1) = true := by
      unfold ends
      rw [h.all (z - 1) (by omega) (by omega), show z - 1 + 1 = z by omega]
      rcases h.stop with g | g | g
      · omega
      · unfold unk; simp [g]
      · rw [g]; rfl
    have e3 := cf_add (ends s) a (z - 1 - a) 1
    rw [show z - 1 - a + 1 = z - a by omega, show a + (z - 1 - a) = z - 1 by omega] at e3
    have e4 : cf (ends s) (z - 1) 1 = 1 := by
      show 0 + (if ends s (z - 1 + 0) then 1 else 0) = 1
      rw [Nat.add_zero, hend]; rfl
    omega


/-- the first place that may not be sent for the first time -/
def lim (s : Sd) : Nat := (min s.edge (places s)).toNat
theorem goes_lim {s : Sd} (h : SdOk s) (n : Nat) : goes s false s.edge n ↔ n < lim s := by
  have h0 := h.e0
  unfold goes lim
  constructor
  · rintro ⟨g1, g2, -⟩; omega
  · intro g; exact ⟨by omega, by omega, fun q => by cases q.1⟩
/-- what is left to do -/
def work (s : Sd) : Nat := pot s s.todo + (if s.sent < lim s then lim s - s.sent + 64 else 0)
theorem pot_zero {s : Sd} (h : ∀ i, s.todo ≤ i → unk s i = false) : pot s s.todo = 0 := by
  unfold pot
  rw [cf_none (unk s) s.todo _ (fun i g _ => h i g), cf_none (ends s) s.todo _ (fun i g _ => by unfold ends; rw [h i g]; rfl)]

/-- a poll: it sends again, or for the first time, or there is nothing to do -/
inductive PollK (s : Sd) : St → Sd → Prop
  | again (a m : Nat) (fin : Bool) (hA : PollA s a (a + m + (if fin then 1 else 0))) (hl : ((s.data.drop a).take m).length = m) (hw : work { s with todo := a + m + (if fin then 1 else 0) } + 64 ≤ work s)
      (hu : cf (unk s) s.todo (s.sent - s.todo) = (m + (if fin then 1 else 0)) + cf (unk s) (a + m + (if fin then 1 else 0)) (s.sent - (a + m + (if fin then 1 else 0)))) :
      PollK s ⟨0, a, (s.data.drop a).take m, fin, true, false, 0⟩ { s with todo := a + m + (if fin then 1 else 0) }
  | new (m : Nat) (fin : Bool) (hn : ∀ i, s.todo ≤ i → unk s i = false) (hl : ((s.data.drop s.sent).take m).length = m) (hp : 0 < m + (if fin then 1 else 0)) (hle : s.sent + m + (if fin then 1 else 0) ≤ lim s)
      (hw : work { s with sent := s.sent + m + (if fin then 1 else 0), todo := s.sent + m + (if fin then 1 else 0) } + 64 ≤ work s) :
      PollK s ⟨0, s.sent, (s.data.drop s.sent).take m, fin, false, false, 0⟩ { s with sent := s.sent + m + (if fin then 1 else 0), todo := s.sent + m + (if fin then 1 else 0) }
  | idle (hn : ∀ i, s.todo ≤ i → unk s i = false) (hl : lim s ≤ s.sent) (hw : work s = 0) : PollK s { st0 with idle := true } s

theorem polls_K {s : Sd} (h : SdOk s) : PollK s (polls s).1 (polls s).2 := by
  rcases polls_A h with ⟨a, m, fin, e1, e2, hA, e3⟩ | ⟨hn, -, ⟨e1, hg⟩ | ⟨m, fin, hg, e1, e2, e3, e4, e5, e6⟩⟩
  · rw [e1, e3]
    obtain ⟨p1, p2⟩ := pot_step hA
    have hlt := hA.lt
    refine .again a m fin hA e2 ?_ (by omega)
    show pot s (a + m + (if fin then 1 else 0)) + (if s.sent < lim s then lim s - s.sent + 64 else 0) + 64 ≤ pot s s.todo + (if s.sent < lim s then lim s - s.sent + 64 else 0)
    omega
  · rw [e1]
    have hl : ¬ s.sent < lim s := fun g => hg ((goes_lim h _).2 g)
    refine .idle hn (by omega) ?_
    unfold work
    rw [pot_zero hn, if_neg hl]
  · rw [e1, e4]
    have hl := (goes_lim h _).1 hg
    obtain ⟨z, hz⟩ : ∃ z, z = s.sent + m + (if fin then 1 else 0) := ⟨_, rfl⟩
    rw [← hz]
    have hpl := places_le s
    have hlim : lim s ≤ places s := by unfold lim; omega
    -- what follows is not beyond the bound
    have hzl : z ≤ lim s := by
      obtain ⟨ag, at_, m', fin', tz, li, hag, hat, hli, hr, hto, hp, h1, h2, h3, h4, h5, h6⟩ := polls_cases s h
      rcases poll_good h with hp' | ⟨a, m2, fin2, ag2, s1, hp', G⟩
      · rw [hp'] at e1; injection e1 with _ _ _ _ _ e; cases e
      · rw [hp'] at e1 e4
        simp only at e1 e4
        injection e1 with _ x2 x3 x4 x5 _ _
        obtain ⟨g1, g2, g3⟩ := G.new x5
        have hs1 : s1.sent = z := by rw [e4]; exact hz.symm
        rw [hs1] at g3
        rw [← g3] at g2
        have : z ≤ places s := by
          have := polls_ok h
          rw [hp'] at this
          have := this.sent
          simp only at this
          rw [hs1] at this
          have e : places s1 = places s := by unfold places; rw [G.data, G.closed]
          omega
        unfold lim; omega
    have hw : work { s with sent := z, todo := z } + 64 ≤ work s := by
      have hn' : ∀ i, z ≤ i → unk { s with sent := z, todo := z } i = false := fun i hi => by
        unfold unk; simp only; rw [decide_eq_false (by omega)]; rfl
      have hlim' : lim { s with sent := z, todo := z } = lim s := rfl
      unfold work
      rw [pot_zero (s := { s with sent := z, todo := z }) hn', hlim', pot_zero hn, if_pos hl]
      simp only
      split
      · rename_i g
        rcases hf : fin with _ | _
        · rw [hf] at hz
          simp at hz
          rcases e5 hf with q | q
          · omega
          · exact absurd ((goes_lim h _).2 (by omega)) q
        · rw [hf] at hz
          simp at hz
          have := e6 hf
          omega
      · omega
    subst hz
    exact .new m fin hn e2 e3 hzl hw

/-- runs: one more than what one knows of -/
theorem cf_ends (s : Sd) (t : Nat) : ∀ k, cf (ends s) t k + isl s.known (t + 1) ≤ isl s.known (t + k + 1) + (if s.sent ≤ t + k then 1 else 0)
  | 0 => by simp only [cf, Nat.add_zero]; omega
  | k + 1 => by
    have ih := cf_ends s t k
    have e1 : cf (ends s) t (k + 1) = cf (ends s) t k + (if ends s (t + k) then 1 else 0) := rfl
    have e2 : isl s.known (t + (k + 1) + 1) = isl s.known (t + k + 1) + (if hd s.known (t + k + 1) && !hd s.known (t + k + 1 - 1) then 1 else 0) := rfl
    rw [e1, e2]
    rw [show t + k + 1 - 1 = t + k by omega]
    rcases he : ends s (t + k) with _ | _
    · simp only [Bool.false_eq_true, if_false]
      split at ih
      · rw [if_pos (show s.sent ≤ t + (k + 1) by omega)]; omega
      · split <;> omega
    · unfold ends unk at he
      simp only [Bool.and_eq_true, decide_eq_true_eq, Bool.not_eq_true', Bool.and_eq_false_iff, decide_eq_false_iff_not] at he
      obtain ⟨⟨h1, h2⟩, h3⟩ := he
      rw [if_neg (by omega)] at ih
      simp only [if_true]
      rcases h3 with h3 | h3
      · rw [if_pos (show s.sent ≤ t + (k + 1) by omega)]; omega
      · rw [h2]
        have : hd s.known (t + k + 1) = true := by
          rcases hv : hd s.known (t + k + 1) with _ | _
          · rw [hv] at h3; cases h3
          · rfl
        rw [this]
        simp only [Bool.not_false, Bool.and_self, if_true]
        omega
theorem isl_mono (k : List Bool) (a : Nat) : ∀ m, isl k a ≤ isl k (a + m)
  | 0 => Nat.le_refl _
  | m + 1 => by
    have e : isl k (a + (m + 1)) = isl k (a + m) + (if hd k (a + m) && !hd k (a + m - 1) then 1 else 0) := rfl
    rw [e]; have := isl_mono k a m; omega
theorem isl_over (k : List Bool) : ∀ m, isl k (k.length + m) = isl k k.length
  | 0 => rfl
  | m + 1 => by
    have e : isl k (k.length + (m + 1)) = isl k (k.length + m) + (if hd k (k.length + m) && !hd k (k.length + m - 1) then 1 else 0) := rfl
    rw [e, isl_over k m]
    have : hd k (k.length + m) = false := by unfold hd; rw [List.getD_eq_getElem?_getD, List.getElem?_eq_none (by omega)]; rfl
    rw [this]; simp
theorem ends_le (s : Sd) (t k : Nat) : cf (ends s) t k ≤ islands s.known + 1 := by
  have h := cf_ends s t k
  have h2 : isl s.known (t + k + 1) ≤ islands s.known := by
    unfold islands
    by_cases g : t + k + 1 ≤ s.known.length
    · have := isl_mono s.known (t + k + 1) (s.known.length - (t + k + 1))
      rwa [show t + k + 1 + (s.known.length - (t + k + 1)) = s.known.length by omega] at this
    · have := isl_over s.known (t + k + 1 - s.known.length)
      rw [show s.known.length + (t + k + 1 - s.known.length) = t + k + 1 by omega] at this
      omega
  split at h <;> omega
theorem work_le {s : Sd} (h : SdOk s) (hi : islands s.known ≤ 16) : work s ≤ s.sent + 64 * 17 + (lim s + 64) := by
  unfold work pot
  have h1 := cf_le (unk s) s.todo (s.sent - s.todo)
  have h2 := ends_le s s.todo (s.sent - s.todo)
  split <;> omega

end Go.Proofs.Ytehckiihipnimaa
