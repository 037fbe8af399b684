/-
  What becomes of the tree by each act: it stays one. Mathematics alone.
-/
import Derived.Test.YthjpighlcalocaaGreatDoorTreeMath
namespace Go.Proofs.YthjpighlcalocaaGreatDoor
set_option linter.unusedVariables false
set_option linter.unusedSimpArgs false

theorem nd_app_lt {T : Wd} {x : It} {i : Nat} (h : i < T.length) : nd (T ++ [x]) i = nd T i := by
  unfold nd; rw [List.getD_eq_getElem?_getD, List.getD_eq_getElem?_getD, List.getElem?_append_left h]
theorem nd_app_new (T : Wd) (x : It) : nd (T ++ [x]) T.length = x := by
  unfold nd; rw [List.getD_eq_getElem?_getD, List.getElem?_append_right (Nat.le_refl _), Nat.sub_self]; rfl
theorem nd_set_same {T : Wd} {x : It} {i : Nat} (h : i < T.length) : nd (setI T i x) i = x := by
  unfold nd setI; rw [List.getD_eq_getElem?_getD, List.getElem?_set_self h]; rfl
theorem nd_set_other {T : Wd} {x : It} {i j : Nat} (h : j ≠ i) : nd (setI T i x) j = nd T j := by
  unfold nd setI; rw [List.getD_eq_getElem?_getD, List.getD_eq_getElem?_getD, List.getElem?_set_ne (Ne.symm h)]
theorem len_set (T : Wd) (i : Nat) (x : It) : (setI T i x).length = T.length := List.length_set
theorem live_app {T : Wd} {x : It} (hx : x.gone = false) {i : Nat} : Live (T ++ [x]) i ↔ Live T i ∨ i = T.length := by
  unfold Live
  rw [List.length_append]
  rcases Nat.lt_trichotomy i T.length with h | h | h
  · rw [nd_app_lt h]
    exact ⟨fun g => .inl ⟨h, g.2⟩, fun g => ⟨by simp; omega, by rcases g with g | g; exact g.2; omega⟩⟩
  · subst h; rw [nd_app_new]; simp [hx]
  · exact ⟨fun g => by (have := g.1; simp at this; omega), fun g => by (rcases g with g | g; (have := g.1; omega); omega)⟩
theorem child_ext {T : Wd} (h : WF T) {d : Nat} {nm : Byt} (o : Option Nat) (ho : ∀ i, o = some i ↔ 0 < i ∧ Live T i ∧ (nd T i).inn = d ∧ (nd T i).name = nm) : child T d nm = o := by
  rcases o with _ | i
  · rw [child_none h]
    intro i h0 h1 h2 h3
    have := (ho i).2 ⟨h0, h1, h2, h3⟩
    cases this
  · exact (child_some h).2 ((ho i).1 rfl)

theorem liveN_app (T : Wd) (x : It) (hx : x.gone = false) : liveN (T ++ [x]) = liveN T + 1 := by
  unfold liveN; rw [List.filter_append, List.length_append]; simp [hx]
theorem liveN_set : ∀ (T : Wd) (i : Nat) (x : It), i < T.length → liveN (setI T i x) + (if (nd T i).gone then 0 else 1) = liveN T + (if x.gone then 0 else 1)
  | [], i, x, h => by simp at h
  | y :: t, 0, x, h => by
    show liveN (x :: t) + (if y.gone then 0 else 1) = liveN (y :: t) + _
    unfold liveN
    cases hx : x.gone <;> cases hy : y.gone <;> simp [List.filter_cons, hx, hy]
  | y :: t, i + 1, x, h => by
    have ih := liveN_set t i x (by simpa using h)
    show liveN (y :: setI t i x) + (if (nd t i).gone then 0 else 1) = liveN (y :: t) + _
    unfold liveN at ih ⊢
    cases hy : y.gone
    · simp only [List.filter_cons, hy, Bool.not_false, if_true, List.length_cons]; omega
    · simp only [List.filter_cons, hy, Bool.not_true]; simpa using ih

theorem Dep.unique {T : Wd} {i k k' : Nat} (h : Dep T i k) (h' : Dep T i k') : k = k' := by
  induction h generalizing k' with
  | root => cases h' with
    | root => rfl
    | step h0 _ _ => omega
  | step h0 _ _ ih => cases h' with
    | root => omega
    | step _ _ h2 => rw [ih h2]
theorem dep_bound (T : Wd) : ∃ B, ∀ i, i < T.length → ∀ k, Dep T i k → k ≤ B := by
  suffices ∀ n, ∃ B, ∀ i, i < n → ∀ k, Dep T i k → k ≤ B from this _
  intro n
  induction n with
  | zero => exact ⟨0, fun i hi => by omega⟩
  | succ n ih =>
    obtain ⟨B, hB⟩ := ih
    by_cases h : ∃ k, Dep T n k
    · obtain ⟨k0, hk0⟩ := h
      refine ⟨max B k0, fun i hi k hk => ?_⟩
      rcases Nat.lt_or_ge i n with g | g
      · have := hB i g k hk; omega
      · obtain rfl : i = n := by omega
        have := hk.unique hk0; omega
    · refine ⟨B, fun i hi k hk => ?_⟩
      rcases Nat.lt_or_ge i n with g | g
      · exact hB i g k hk
      · obtain rfl : i = n := by omega
        exact absurd ⟨k, hk⟩ h

/-- who holds whom, from above -/
theorem under_down {T : Wd} {n d : Nat} (h : WF T) (hd : Live T d) : Under T n d ↔ d = n ∨ ∃ c, 0 < c ∧ Live T c ∧ (nd T c).inn = n ∧ Under T c d := by
  constructor
  · intro hu
    induction hu with
    | refl => exact .inl rfl
    | @step e h0 _ ih =>
      rcases ih (h.par e h0 hd).1 with g | ⟨c, c0, c1, c2, c3⟩
      · exact .inr ⟨e, h0, hd, g, .refl⟩
      · exact .inr ⟨c, c0, c1, c2, .step h0 c3⟩
  · rintro (rfl | ⟨c, c0, c1, c2, c3⟩)
    · exact .refl
    · induction c3 with
      | refl => exact .step c0 (c2 ▸ .refl)
      | @step e h0 _ ih => exact .step h0 (ih (h.par e h0 hd).1)

theorem wf_root : WF root0 := by
  have hl : ∀ i, Live root0 i → i = 0 := fun i hi => by have := hi.1; simp [root0] at this; exact this
  exact ⟨⟨⟨by simp [root0], rfl⟩, rfl, rfl⟩, fun i h0 hi => by have := hl i hi; omega, fun i j h0 _ hi => by have := hl i hi; omega, fun i hi => by rw [hl i hi]; exact .inl rfl,
    fun i h0 hi => by (have := hl i hi; omega), fun i hi => by rw [hl i hi]; exact ⟨0, .root⟩, fun i hi => by rw [hl i hi]; simp [nd, root0], fun i hi => by rw [hl i hi]; simp [nd, root0]⟩

section
variable {T : Wd} {d : Nat} {nm : Byt} {x : It}
theorem wf_add (h : WF T) (hd : Live T d) (hk : (nd T d).kind = 1) (hn : nameB nm = true) (hc : child T d nm = none) (hx : x.kind = 1 ∨ x.kind = 2 ∨ x.kind = 3) (hdat : x.data = []) (hto : x.to.length ≤ 200) (hg : x.gone = false) :
    WF (T ++ [newIt x d nm]) := by
  have hgn : (newIt x d nm).gone = false := hg
  have lv := fun i => @live_app T (newIt x d nm) hgn i
  have old : ∀ i, Live T i → nd (T ++ [newIt x d nm]) i = nd T i := fun i hi => nd_app_lt hi.1
  have new := nd_app_new T (newIt x d nm)
  have hT : 0 < T.length := by have := hd.1; omega
  have hcn := (child_none h).1 hc
  refine ⟨⟨(lv 0).2 (.inl h.root.1), by rw [old 0 h.root.1]; exact h.root.2.1, by rw [old 0 h.root.1]; exact h.root.2.2⟩, ?_, ?_, ?_, ?_, ?_, ?_, ?_⟩
  · intro i h0 hi
    rcases (lv i).1 hi with g | rfl
    · rw [old i g]
      obtain ⟨p1, p2⟩ := h.par i h0 g
      exact ⟨(lv _).2 (.inl p1), by rw [old _ p1]; exact p2⟩
    · rw [new]
      exact ⟨(lv _).2 (.inl hd), by show (nd _ d).kind = 1; rw [old _ hd]; exact hk⟩
  · intro i j h0 k0 hi hj hin hnm
    rcases (lv i).1 hi with g | rfl <;> rcases (lv j).1 hj with g' | rfl
    · rw [old i g, old j g'] at hin hnm
      exact h.one i j h0 k0 g g' hin hnm
    · rw [old i g, new] at hin hnm
      exact absurd hnm (hcn i h0 g hin)
    · rw [old j g', new] at hin hnm
      exact absurd hnm.symm (hcn j k0 g' hin.symm)
    · rfl
  · intro i hi
    rcases (lv i).1 hi with g | rfl
    · rw [old i g]; exact h.kin i g
    · rw [new]; exact hx
  · intro i h0 hi
    rcases (lv i).1 hi with g | rfl
    · rw [old i g]; exact h.nam i h0 g
    · rw [new]; exact hn
  · have up : ∀ i k, Live T i → Dep T i k → Dep (T ++ [newIt x d nm]) i k := by
      intro i k hi hk
      induction hk with
      | root => exact .root
      | @step i k h0 hl _ ih => exact .step h0 ((lv i).2 (.inl hl)) (by rw [old i hl]; exact ih (h.par i h0 hl).1)
    intro i hi
    rcases (lv i).1 hi with g | rfl
    · obtain ⟨k, hk⟩ := h.dep i g
      exact ⟨k, up i k g hk⟩
    · obtain ⟨k, hk⟩ := h.dep d hd
      exact ⟨k + 1, .step hT ((lv _).2 (.inr rfl)) (by rw [new]; exact up d k hd hk)⟩
  · intro i hi
    rcases (lv i).1 hi with g | rfl
    · rw [old i g]; exact h.dat i g
    · rw [new]; show x.data.length ≤ 2048 ∧ _; rw [show (newIt x d nm).data = [] from hdat, hdat]; simp
  · intro i hi
    rcases (lv i).1 hi with g | rfl
    · rw [old i g]; exact h.lnk i g
    · rw [new]; exact hto
theorem child_add (h : WF T) (h' : WF (T ++ [newIt x d nm])) (hd : Live T d) (hc : child T d nm = none) (hg : x.gone = false) (e : Nat) (he : e ≠ d ∨ True) (m : Byt) :
    child (T ++ [newIt x d nm]) e m = if e = d ∧ m = nm then some T.length else child T e m := by
  have hgn : (newIt x d nm).gone = false := hg
  have lv := fun i => @live_app T (newIt x d nm) hgn i
  have old : ∀ i, Live T i → nd (T ++ [newIt x d nm]) i = nd T i := fun i hi => nd_app_lt hi.1
  have new := nd_app_new T (newIt x d nm)
  have hT : 0 < T.length := by have := hd.1; omega
  refine child_ext h' _ fun i => ?_
  by_cases hem : e = d ∧ m = nm
  · rw [if_pos hem]
    obtain ⟨rfl, rfl⟩ := hem
    constructor
    · intro hi; injection hi with hi; subst hi
      exact ⟨hT, (lv _).2 (.inr rfl), by rw [new]; rfl, by rw [new]; rfl⟩
    · rintro ⟨g0, g1, g2, g3⟩
      rcases (lv i).1 g1 with g | rfl
      · rw [old i g] at g2 g3
        exact absurd g3 ((child_none h).1 hc i g0 g g2)
      · rfl
  · rw [if_neg hem]
    rw [child_some h]
    constructor
    · rintro ⟨g0, g1, g2, g3⟩
      exact ⟨g0, (lv _).2 (.inl g1), by rw [old i g1]; exact g2, by rw [old i g1]; exact g3⟩
    · rintro ⟨g0, g1, g2, g3⟩
      rcases (lv i).1 g1 with g | rfl
      · rw [old i g] at g2 g3
        exact ⟨g0, g, g2, g3⟩
      · rw [new] at g2 g3
        exact absurd ⟨g2.symm, g3.symm⟩ hem
end

/-! bytes -/
section
variable {T : Wd} {n : Nat} {b : List Int}
theorem nd_data (n : Nat) (b : List Int) (i : Nat) (hn : n < T.length) : (nd (setI T n { nd T n with data := b }) i).kind = (nd T i).kind ∧ (nd (setI T n { nd T n with data := b }) i).inn = (nd T i).inn ∧ (nd (setI T n { nd T n with data := b }) i).name = (nd T i).name ∧
    (nd (setI T n { nd T n with data := b }) i).gone = (nd T i).gone ∧ (nd (setI T n { nd T n with data := b }) i).to = (nd T i).to ∧ (i ≠ n → (nd (setI T n { nd T n with data := b }) i).data = (nd T i).data) := by
  by_cases h : i = n
  · subst h; rw [nd_set_same hn]; exact ⟨rfl, rfl, rfl, rfl, rfl, fun g => absurd rfl g⟩
  · rw [nd_set_other h]; exact ⟨rfl, rfl, rfl, rfl, rfl, fun _ => rfl⟩
theorem live_data (hn : n < T.length) (i : Nat) : Live (setI T n { nd T n with data := b }) i ↔ Live T i := by
  unfold Live; rw [len_set, (nd_data n b i hn).2.2.2.1]
theorem wf_data (h : WF T) (hn : Live T n) (hb : b.length ≤ 2048 ∧ ∀ z ∈ b, 0 ≤ z ∧ z ≤ 255) : WF (setI T n { nd T n with data := b }) := by
  have lv := @live_data T n b hn.1
  have k := fun i => nd_data (T := T) n b i hn.1
  refine ⟨⟨(lv 0).2 h.root.1, (k 0).1.trans h.root.2.1, (k 0).2.2.1.trans h.root.2.2⟩, ?_, ?_, ?_, ?_, ?_, ?_, ?_⟩
  · intro i h0 hi
    rw [(k i).2.1, (k _).1]
    obtain ⟨p1, p2⟩ := h.par i h0 ((lv i).1 hi)
    exact ⟨(lv _).2 p1, p2⟩
  · intro i j h0 k0 hi hj hin hnm
    rw [(k i).2.1, (k j).2.1] at hin
    rw [(k i).2.2.1, (k j).2.2.1] at hnm
    exact h.one i j h0 k0 ((lv i).1 hi) ((lv j).1 hj) hin hnm
  · intro i hi; rw [(k i).1]; exact h.kin i ((lv i).1 hi)
  · intro i h0 hi; rw [(k i).2.2.1]; exact h.nam i h0 ((lv i).1 hi)
  · intro i hi
    obtain ⟨m, hm⟩ := h.dep i ((lv i).1 hi)
    refine ⟨m, ?_⟩
    clear hi
    induction hm with
    | root => exact .root
    | @step i m h0 hl _ ih => exact .step h0 ((lv i).2 hl) (by rw [(k i).2.1]; exact ih)
  · intro i hi
    by_cases g : i = n
    · subst g; rw [nd_set_same hn.1]; exact hb
    · rw [(k i).2.2.2.2.2 g]; exact h.dat i ((lv i).1 hi)
  · intro i hi; rw [(k i).2.2.2.2.1]; exact h.lnk i ((lv i).1 hi)
theorem child_data (h : WF T) (h' : WF (setI T n { nd T n with data := b })) (hn : Live T n) (e : Nat) (m : Byt) : child (setI T n { nd T n with data := b }) e m = child T e m := by
  refine child_ext h' _ fun i => ?_
  rw [child_some h, live_data hn.1, (nd_data (T := T) n b i hn.1).2.1, (nd_data (T := T) n b i hn.1).2.2.1]
theorem liveN_data (hn : Live T n) : liveN (setI T n { nd T n with data := b }) = liveN T := by
  have := liveN_set T n { nd T n with data := b } hn.1
  rw [show ({ nd T n with data := b } : It).gone = (nd T n).gone from rfl] at this
  omega
end

/-! gone -/
section
variable {T : Wd} {n : Nat}
theorem nd_gone (i : Nat) (hn : n < T.length) : (nd (setI T n { nd T n with gone := true }) i).kind = (nd T i).kind ∧ (nd (setI T n { nd T n with gone := true }) i).inn = (nd T i).inn ∧ (nd (setI T n { nd T n with gone := true }) i).name = (nd T i).name ∧
    (nd (setI T n { nd T n with gone := true }) i).data = (nd T i).data ∧ (nd (setI T n { nd T n with gone := true }) i).to = (nd T i).to ∧ (i ≠ n → (nd (setI T n { nd T n with gone := true }) i).gone = (nd T i).gone) := by
  by_cases h : i = n
  · subst h; rw [nd_set_same hn]; exact ⟨rfl, rfl, rfl, rfl, rfl, fun g => absurd rfl g⟩
  · rw [nd_set_other h]; exact ⟨rfl, rfl, rfl, rfl, rfl, fun _ => rfl⟩
theorem live_gone (hn : n < T.length) (i : Nat) : Live (setI T n { nd T n with gone := true }) i ↔ Live T i ∧ i ≠ n := by
  unfold Live; rw [len_set]
  by_cases h : i = n
  · subst h; rw [nd_set_same hn]; simp
  · rw [nd_set_other h]; simp [h]
/-- nobody stands in n -/
theorem bare_of {T : Wd} {n : Nat} (h : WF T) (hb : ¬ ((nd T n).kind = 1 ∧ kids T n ≠ [])) : ∀ i, 0 < i → Live T i → (nd T i).inn ≠ n := by
  intro i h0 hi he
  apply hb
  refine ⟨he ▸ (h.par i h0 hi).2, fun hk => ?_⟩
  have : (nd T i).name ∈ kids T n := (mem_kids h).2 (by rw [(child_some h).2 ⟨h0, hi, he, rfl⟩]; rfl)
  rw [hk] at this; cases this
theorem wf_gone (h : WF T) (hn : Live T n) (h0n : 0 < n) (hb : ∀ i, 0 < i → Live T i → (nd T i).inn ≠ n) : WF (setI T n { nd T n with gone := true }) := by
  have lv := @live_gone T n hn.1
  have k := fun i => nd_gone (T := T) (n := n) i hn.1
  refine ⟨⟨(lv 0).2 ⟨h.root.1, by omega⟩, (k 0).1.trans h.root.2.1, (k 0).2.2.1.trans h.root.2.2⟩, ?_, ?_, ?_, ?_, ?_, ?_, ?_⟩
  · intro i h0 hi
    rw [(k i).2.1, (k _).1]
    obtain ⟨p1, p2⟩ := h.par i h0 ((lv i).1 hi).1
    exact ⟨(lv _).2 ⟨p1, hb i h0 ((lv i).1 hi).1⟩, p2⟩
  · intro i j h0 k0 hi hj hin hnm
    rw [(k i).2.1, (k j).2.1] at hin
    rw [(k i).2.2.1, (k j).2.2.1] at hnm
    exact h.one i j h0 k0 ((lv i).1 hi).1 ((lv j).1 hj).1 hin hnm
  · intro i hi; rw [(k i).1]; exact h.kin i ((lv i).1 hi).1
  · intro i h0 hi; rw [(k i).2.2.1]; exact h.nam i h0 ((lv i).1 hi).1
  · intro i hi
    obtain ⟨g1, g2⟩ := (lv i).1 hi
    obtain ⟨m, hm⟩ := h.dep i g1
    refine ⟨m, ?_⟩
    clear hi g1
    induction hm with
    | root => exact .root
    | @step i m h0 hl _ ih => exact .step h0 ((lv i).2 ⟨hl, g2⟩) (by rw [(k i).2.1]; exact ih (hb i h0 hl))
  · intro i hi; rw [(k i).2.2.2.1]; exact h.dat i ((lv i).1 hi).1
  · intro i hi; rw [(k i).2.2.2.2.1]; exact h.lnk i ((lv i).1 hi).1
theorem child_gone (h : WF T) (h' : WF (setI T n { nd T n with gone := true })) (hn : Live T n) (h0n : 0 < n) (e : Nat) (m : Byt) :
    child (setI T n { nd T n with gone := true }) e m = if e = (nd T n).inn ∧ m = (nd T n).name then none else child T e m := by
  refine child_ext h' _ fun i => ?_
  rw [live_gone hn.1, (nd_gone (T := T) (n := n) i hn.1).2.1, (nd_gone (T := T) (n := n) i hn.1).2.2.1]
  by_cases hem : e = (nd T n).inn ∧ m = (nd T n).name
  · rw [if_pos hem]
    constructor
    · intro g; cases g
    · rintro ⟨g0, ⟨g1, g2⟩, g3, g4⟩
      exact absurd (h.one i n g0 h0n g1 hn (g3.trans hem.1) (g4.trans hem.2)) g2
  · rw [if_neg hem, child_some h]
    constructor
    · rintro ⟨g0, g1, g2, g3⟩
      exact ⟨g0, ⟨g1, fun e' => hem (by subst e'; exact ⟨g2.symm, g3.symm⟩)⟩, g2, g3⟩
    · rintro ⟨g0, ⟨g1, g2⟩, g3, g4⟩
      exact ⟨g0, g1, g3, g4⟩
theorem liveN_gone (hn : Live T n) : liveN (setI T n { nd T n with gone := true }) + 1 = liveN T := by
  have := liveN_set T n { nd T n with gone := true } hn.1
  rw [hn.2] at this
  simpa using this
end

/-! moved -/
section
variable {T : Wd} {n d : Nat} {nm : Byt}
theorem nd_move (i : Nat) (hn : n < T.length) : (nd (setI T n { nd T n with inn := d, name := nm }) i).kind = (nd T i).kind ∧ (nd (setI T n { nd T n with inn := d, name := nm }) i).gone = (nd T i).gone ∧ (nd (setI T n { nd T n with inn := d, name := nm }) i).data = (nd T i).data ∧
    (nd (setI T n { nd T n with inn := d, name := nm }) i).to = (nd T i).to ∧ (nd (setI T n { nd T n with inn := d, name := nm }) i).inn = (if i = n then d else (nd T i).inn) ∧ (nd (setI T n { nd T n with inn := d, name := nm }) i).name = (if i = n then nm else (nd T i).name) := by
  by_cases h : i = n
  · subst h; rw [nd_set_same hn, if_pos rfl, if_pos rfl]; exact ⟨rfl, rfl, rfl, rfl, rfl, rfl⟩
  · rw [nd_set_other h, if_neg h, if_neg h]; exact ⟨rfl, rfl, rfl, rfl, rfl, rfl⟩
theorem live_move (hn : n < T.length) (i : Nat) : Live (setI T n { nd T n with inn := d, name := nm }) i ↔ Live T i := by
  unfold Live; rw [len_set, (nd_move i hn).2.1]
theorem wf_move (h : WF T) (hn : Live T n) (h0n : 0 < n) (hd : Live T d) (hk : (nd T d).kind = 1) (hnm : nameB nm = true) (hc : child T d nm = none) (hu : ¬ Under T n d) : WF (setI T n { nd T n with inn := d, name := nm }) := by
  have lv := @live_move T n d nm hn.1
  have k := fun i => nd_move (T := T) (n := n) (d := d) (nm := nm) i hn.1
  have hcn := (child_none h).1 hc
  refine ⟨⟨(lv 0).2 h.root.1, (k 0).1.trans h.root.2.1, by rw [(k 0).2.2.2.2.2, if_neg (by omega)]; exact h.root.2.2⟩, ?_, ?_, ?_, ?_, ?_, ?_, ?_⟩
  · intro i h0 hi
    rw [(k i).2.2.2.2.1, (k _).1]
    split
    · exact ⟨(lv _).2 hd, hk⟩
    · obtain ⟨p1, p2⟩ := h.par i h0 ((lv i).1 hi)
      exact ⟨(lv _).2 p1, p2⟩
  · intro i j h0 k0 hi hj hin hnm'
    rw [(k i).2.2.2.2.1, (k j).2.2.2.2.1] at hin
    rw [(k i).2.2.2.2.2, (k j).2.2.2.2.2] at hnm'
    by_cases gi : i = n <;> by_cases gj : j = n
    · rw [gi, gj]
    · rw [if_pos gi, if_neg gj] at hin hnm'
      exact absurd hnm'.symm (hcn j k0 ((lv j).1 hj) hin.symm)
    · rw [if_neg gi, if_pos gj] at hin hnm'
      exact absurd hnm' (hcn i h0 ((lv i).1 hi) hin)
    · rw [if_neg gi, if_neg gj] at hin hnm'
      exact h.one i j h0 k0 ((lv i).1 hi) ((lv j).1 hj) hin hnm'
  · intro i hi; rw [(k i).1]; exact h.kin i ((lv i).1 hi)
  · intro i h0 hi; rw [(k i).2.2.2.2.2]; split; exact hnm; exact h.nam i h0 ((lv i).1 hi)
  · have far : ∀ i m, Dep T i m → ¬ Under T n i → Dep (setI T n { nd T n with inn := d, name := nm }) i m := by
      intro i m hm
      induction hm with
      | root => intro _; exact .root
      | @step i m h0 hl _ ih =>
        intro hu'
        have hne : i ≠ n := fun e => hu' (e ▸ .refl)
        exact .step h0 ((lv i).2 hl) (by rw [(k i).2.2.2.2.1, if_neg hne]; exact ih (fun g => hu' (.step h0 g)))
    obtain ⟨kd, hkd⟩ := h.dep d hd
    have hdn := far d kd hkd hu
    have near : ∀ i m, Dep T i m → ∃ m', Dep (setI T n { nd T n with inn := d, name := nm }) i m' := by
      intro i m hm
      induction hm with
      | root => exact ⟨0, .root⟩
      | @step i m h0 hl _ ih =>
        by_cases g : i = n
        · subst g
          exact ⟨kd + 1, .step h0 ((lv i).2 hl) (by rw [(k i).2.2.2.2.1, if_pos rfl]; exact hdn)⟩
        · obtain ⟨m', hm'⟩ := ih
          exact ⟨m' + 1, .step h0 ((lv i).2 hl) (by rw [(k i).2.2.2.2.1, if_neg g]; exact hm')⟩
    intro i hi
    obtain ⟨m, hm⟩ := h.dep i ((lv i).1 hi)
    exact near i m hm
  · intro i hi; rw [(k i).2.2.1]; exact h.dat i ((lv i).1 hi)
  · intro i hi; rw [(k i).2.2.2.1]; exact h.lnk i ((lv i).1 hi)
theorem child_move (h : WF T) (h' : WF (setI T n { nd T n with inn := d, name := nm })) (hn : Live T n) (h0n : 0 < n) (hc : child T d nm = none) (e : Nat) (m : Byt) :
    child (setI T n { nd T n with inn := d, name := nm }) e m = if e = d ∧ m = nm then some n else if e = (nd T n).inn ∧ m = (nd T n).name then none else child T e m := by
  have hcn := (child_none h).1 hc
  refine child_ext h' _ fun i => ?_
  rw [live_move hn.1, (nd_move (T := T) (n := n) (d := d) (nm := nm) i hn.1).2.2.2.2.1, (nd_move (T := T) (n := n) (d := d) (nm := nm) i hn.1).2.2.2.2.2]
  by_cases hem : e = d ∧ m = nm
  · rw [if_pos hem]
    constructor
    · intro g; injection g with g; subst g
      rw [if_pos rfl, if_pos rfl]
      exact ⟨h0n, hn, hem.1.symm, hem.2.symm⟩
    · rintro ⟨g0, g1, g2, g3⟩
      by_cases gi : i = n
      · rw [gi]
      · rw [if_neg gi] at g2 g3
        exact absurd (g3.trans hem.2) (hcn i g0 g1 (g2.trans hem.1))
  · rw [if_neg hem]
    by_cases hem2 : e = (nd T n).inn ∧ m = (nd T n).name
    · rw [if_pos hem2]
      constructor
      · intro g; cases g
      · rintro ⟨g0, g1, g2, g3⟩
        by_cases gi : i = n
        · rw [if_pos gi] at g2 g3; exact absurd ⟨g2.symm, g3.symm⟩ hem
        · rw [if_neg gi] at g2 g3
          exact absurd (h.one i n g0 h0n g1 hn (g2.trans hem2.1) (g3.trans hem2.2)) gi
    · rw [if_neg hem2, child_some h]
      constructor
      · rintro ⟨g0, g1, g2, g3⟩
        have gi : i ≠ n := fun e' => hem2 (by subst e'; exact ⟨g2.symm, g3.symm⟩)
        rw [if_neg gi, if_neg gi]
        exact ⟨g0, g1, g2, g3⟩
      · rintro ⟨g0, g1, g2, g3⟩
        by_cases gi : i = n
        · rw [if_pos gi] at g2 g3; exact absurd ⟨g2.symm, g3.symm⟩ hem
        · rw [if_neg gi] at g2 g3
          exact ⟨g0, g1, g2, g3⟩
theorem liveN_move (hn : Live T n) : liveN (setI T n { nd T n with inn := d, name := nm }) = liveN T := by
  have := liveN_set T n { nd T n with inn := d, name := nm } hn.1
  rw [show ({ nd T n with inn := d, name := nm } : It).gone = (nd T n).gone from rfl] at this
  omega
end

/-- bytes below 'z' -/
def Lo (p : Byt) : Prop := ∀ b ∈ p, b < 122
theorem lo_nil : Lo [] := fun b hb => by cases hb

end Go.Proofs.YthjpighlcalocaaGreatDoor
