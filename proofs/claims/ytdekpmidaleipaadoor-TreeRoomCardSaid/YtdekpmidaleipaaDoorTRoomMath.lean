/-
  Room for so many nodes. Mathematics alone.
-/
import Derived.Test.YtdekpmidaleipaaDoorTLinkMath
namespace Go.Proofs.YtdekpmidaleipaaDoor
set_option linter.unusedVariables false
set_option linter.unusedSimpArgs false

def rn (i : Nat) : Byt := [122, UInt8.ofNat (97 + i % 26), UInt8.ofNat (97 + i / 26)]
def rp (i : Nat) : Byt := 47 :: rn i
def mkA (i : Nat) : Ac := ⟨2, rp i, [], 0, 0, []⟩
def makes (k : Nat) : List Ac := (List.range k).map mkA
theorem rn_name : ∀ i, i < 60 → nameB (rn i) = true := by
  have : ∀ i : Fin 60, nameB (rn i.val) = true := by decide
  exact fun i hi => this ⟨i, hi⟩
theorem rn_inj : ∀ i j, i < 60 → j < 60 → rn i = rn j → i = j := by
  intro i j hi hj h
  simp only [rn, List.cons.injEq, true_and, and_true] at h
  have h1 := congrArg UInt8.toNat h.1
  have h2 := congrArg UInt8.toNat h.2
  rw [UInt8.toNat_ofNat', UInt8.toNat_ofNat'] at h1 h2
  omega
theorem rn_not (i : Nat) : ¬ Lo (rn i) := fun h => absurd (h 122 (by simp [rn])) (by decide)
theorem clean_name {nm : Byt} (h : nameB nm = true) : clean (47 :: nm) = .ok [nm] := by
  obtain ⟨h1, h2, -, -, h5⟩ := nameB_is.1 h
  unfold clean pfrom
  rw [if_neg (by simp; omega), parts_slash, parts_free nm (fun b hb => (h5 b hb).2), pfold_empty]
  have := pfold_names [nm] [] (by intro x hx; simp at hx; subst hx; exact h) (by simp)
  rw [this]; rfl
def zzzN : Byt := [122, 122, 122]
theorem zz_rn : ∀ i, i < 60 → zzN ≠ rn i := fun i hi h => by simp [zzN, rn] at h
theorem zzz_rn : ∀ i, i < 60 → zzzN ≠ rn i := fun i hi h => by
  simp only [zzzN, rn, List.cons.injEq, true_and, and_true] at h
  have h2 := congrArg UInt8.toNat h.2
  rw [UInt8.toNat_ofNat'] at h2
  have : (122 : UInt8).toNat = 122 := rfl
  omega
theorem zzz_not : ¬ Lo zzzN := fun h => absurd (h 122 (by simp [zzzN])) (by decide)
theorem seen_get : ∀ (l : List Ac) (T : Wd) (i : Nat) (a : Ac), l[i]? = some a → (seenT T l)[i]? = some (actT (actsT T (l.take i)) a).2
  | [], T, i, a, h => by simp at h
  | b :: r, T, 0, a, h => by injection h with h; subst h; rfl
  | b :: r, T, i + 1, a, h => seen_get r (actT T b).1 i a h

/-- j files of that kind stand in the root -/
structure Room (T : Wd) (m j : Nat) : Prop where
  wf : WF T
  live : liveN T = m + j
  none : ∀ nm, ¬ Lo nm → (∀ i, i < j → nm ≠ rn i) → child T 0 nm = none
  some : ∀ i, i < j → ∃ c, child T 0 (rn i) = some c ∧ (nd T c).kind = 2
theorem make_is {T : Wd} (h : WF T) {nm : Byt} (hn : nameB nm = true) (hc : child T 0 nm = none) (k : Int) (hk : k = 1 ∨ k = 2) : actT T ⟨k, 47 :: nm, [], 0, 0, []⟩ = if 40 ≤ liveN T then (T, snE 9) else (T ++ [newIt ⟨k.toNat, 0, [], [], [], false⟩ 0 nm], snE 0) := by
  have hf := free_root h (clean_name hn) hc
  rcases hk with rfl | rfl
  · have e : actT T ⟨1, 47 :: nm, [], 0, 0, []⟩ = snC (addT T (47 :: nm) ⟨1, 0, [], [], [], false⟩) := rfl
    rw [e]; unfold addT; rw [hf]; simp only []
    split <;> rfl
  · have e : actT T ⟨2, 47 :: nm, [], 0, 0, []⟩ = snC (addT T (47 :: nm) ⟨2, 0, [], [], [], false⟩) := rfl
    rw [e]; unfold addT; rw [hf]; simp only []
    split <;> rfl
theorem Room.full {T : Wd} {m j k : Nat} (h : Room T m j) (hk : j ≤ k) (hk6 : k < 60) (hl : 40 ≤ m + j) : actT T (mkA k) = (T, snE 9) := by
  have hc := h.none (rn k) (rn_not k) fun i hi he => by have := rn_inj k i hk6 (by omega) he; omega
  have := make_is h.wf (rn_name k hk6) hc 2 (.inr rfl)
  rw [if_pos (by rw [h.live]; exact hl)] at this
  exact this
theorem Room.next {T : Wd} {m j : Nat} (h : Room T m j) (hj6 : j < 60) (hl : m + j < 40) : ∃ T', actT T (mkA j) = (T', snE 0) ∧ Room T' m (j + 1) := by
  have hc := h.none (rn j) (rn_not j) fun i hi he => by have := rn_inj j i hj6 (by omega) he; omega
  have hm := make_is h.wf (rn_name j hj6) hc 2 (.inr rfl)
  rw [if_neg (by rw [h.live]; omega)] at hm
  obtain ⟨x, hx⟩ : ∃ x : It, x = ⟨(2 : Int).toNat, 0, [], [], [], false⟩ := ⟨_, rfl⟩
  rw [← hx] at hm
  have hxk : x.kind = 2 := by rw [hx]; rfl
  have hxd : x.data = [] := by rw [hx]
  have hxg : x.gone = false := by rw [hx]
  have hxt : x.to.length ≤ 200 := by rw [hx]; simp
  have hw := wf_add h.wf h.wf.root.1 h.wf.root.2.1 (rn_name j hj6) hc (.inr (.inl hxk)) hxd hxt hxg
  have hch := fun e m => child_add h.wf hw h.wf.root.1 hc hxg e (.inr trivial) m
  refine ⟨_, hm, hw, ?_, ?_, ?_⟩
  · rw [liveN_app _ _ (show (newIt x 0 (rn j)).gone = false from hxg), h.live]; omega
  · intro nm hn hi
    rw [hch, if_neg (fun g => hi j (by omega) g.2)]
    exact h.none nm hn fun i hi' => hi i (by omega)
  · intro i hi
    by_cases g : i = j
    · subst g
      exact ⟨T.length, by rw [hch, if_pos ⟨rfl, rfl⟩], by rw [nd_app_new]; exact hxk⟩
    · obtain ⟨c, c1, c2⟩ := h.some i (by omega)
      have hlc := (child_is h.wf c1).2.1
      refine ⟨c, ?_, by rw [nd_app_lt hlc.1]; exact c2⟩
      rw [hch, if_neg (fun g' => g (rn_inj i j (by omega) hj6 g'.2)), c1]
theorem makes_succ (k : Nat) : makes (k + 1) = makes k ++ [mkA k] := by unfold makes; rw [List.range_succ, List.map_append]; rfl
theorem room_run {T0 : Wd} {m : Nat} (h : Room T0 m 0) (hm : m ≤ 40) : ∀ k, k ≤ 60 → Room (actsT T0 (makes k)) m (min k (40 - m)) := by
  intro k
  induction k with
  | zero => intro _; rw [Nat.zero_min]; exact h
  | succ k ih =>
    intro hk
    have hr := ih (by omega)
    rw [makes_succ, actsT_app]
    show Room (actT (actsT T0 (makes k)) (mkA k)).1 m _
    by_cases hlt : k < 40 - m
    · rw [Nat.min_eq_left (by omega)] at hr ⊢
      obtain ⟨T', h1, h2⟩ := hr.next (by omega) (by omega)
      rw [h1]; exact h2
    · rw [Nat.min_eq_right (by omega)] at hr ⊢
      rw [hr.full (by omega) (by omega) (by omega)]; exact hr
theorem room_code {T0 : Wd} {m : Nat} (h : Room T0 m 0) (hm : m ≤ 40) (k : Nat) (hk : k < 60) : (actT (actsT T0 (makes k)) (mkA k)).2.code = if k < 40 - m then 0 else 9 := by
  have hr := room_run h hm k (by omega)
  by_cases hlt : k < 40 - m
  · rw [Nat.min_eq_left (by omega)] at hr
    obtain ⟨T', h1, h2⟩ := hr.next (by omega) (by omega)
    rw [h1, if_pos hlt]; rfl
  · rw [Nat.min_eq_right (by omega)] at hr
    rw [hr.full (by omega) (by omega) (by omega), if_neg hlt]; rfl
theorem live_le (T : Wd) : liveN T ≤ T.length := List.length_filter_le _ _
theorem live_pos {T : Wd} (h : WF T) : 1 ≤ liveN T := by
  unfold liveN
  have h0 := h.root.1
  have hx : T[0]? = some (nd T 0) := by
    unfold nd; rw [List.getD_eq_getElem?_getD, List.getElem?_eq_getElem h0.1]; rfl
  have hm : nd T 0 ∈ T.filter fun x => !x.gone := List.mem_filter.2 ⟨List.mem_of_getElem? hx, by rw [h0.2]; rfl⟩
  exact List.length_pos_of_mem hm
/-- so many are made; then there is no room; for one that is removed there is room for one -/
theorem room {T0 : Wd} (h : WF T0) (hz : LoT T0) (hl : liveN T0 ≤ 31) :
    ∃ k, k < 59 ∧ (∀ i, i < 60 → ∃ s, (seenT T0 (makes 60))[i]? = some s ∧ s.code = if i ≤ k then 0 else 9) ∧
      ∃ a b c, seenT (actsT T0 (makes 60)) [⟨8, rp k, [], 0, 0, []⟩, ⟨1, zzP, [], 0, 0, []⟩, ⟨1, 47 :: zzzN, [], 0, 0, []⟩] = [a, b, c] ∧ a.code = 0 ∧ b.code = 0 ∧ c.code = 9 := by
  have hp := live_pos h
  obtain ⟨m, hm⟩ : ∃ m, m = liveN T0 := ⟨_, rfl⟩
  have hr0 : Room T0 m 0 := ⟨h, by omega, fun nm hn _ => no_child h hz 0 nm hn, fun i hi => by omega⟩
  refine ⟨39 - m, by omega, ?_, ?_⟩
  · intro i hi
    have hg : (makes 60)[i]? = some (mkA i) := by
      unfold makes
      rw [List.getElem?_map, List.getElem?_range hi]; rfl
    have ht : (makes 60).take i = makes i := by
      unfold makes
      rw [← List.map_take, List.take_range, Nat.min_eq_left (by omega)]
    refine ⟨_, seen_get _ T0 i _ hg, ?_⟩
    rw [ht, room_code hr0 (by omega) i hi]
    by_cases g : i < 40 - m
    · rw [if_pos g, if_pos (by omega)]
    · rw [if_neg g, if_neg (by omega)]
  · have hr := room_run hr0 (by omega) 60 (Nat.le_refl _)
    rw [Nat.min_eq_right (by omega)] at hr
    obtain ⟨T, hT⟩ : ∃ T, T = actsT T0 (makes 60) := ⟨_, rfl⟩
    rw [← hT] at hr ⊢
    obtain ⟨c, c1, c2⟩ := hr.some (39 - m) (by omega)
    obtain ⟨d0, d1, d2, d3⟩ := child_is hr.wf c1
    have hlow : ∀ i, 0 < i → Live T i → (nd T i).inn ≠ c := bare_of hr.wf (by rw [c2]; simp)
    have hw1 := wf_gone hr.wf d1 d0 hlow
    have how : ownT T (rp (39 - m)) = .ok c := by
      unfold ownT
      rw [show rp (39 - m) = 47 :: rn (39 - m) from rfl, clean_name (rn_name _ (by omega))]
      simp only []
      rw [if_neg (by simp), findT_eq, walkT_cons, if_pos hr.wf.root.2.1, c1]
      simp only []
      rw [if_neg (by rw [c2]; decide)]; rfl
    have e1 : actT T ⟨8, rp (39 - m), [], 0, 0, []⟩ = (setI T c { nd T c with gone := true }, snE 0) := by
      have : actT T ⟨8, rp (39 - m), [], 0, 0, []⟩ = snC (removeT T (rp (39 - m))) := rfl
      rw [this]; unfold removeT; rw [how]
      simp only []
      rw [if_neg (by rw [c2]; simp)]; rfl
    have hch := child_gone hr.wf hw1 d1 d0
    have hlv := liveN_gone (T := T) d1
    rw [hr.live] at hlv
    obtain ⟨T1, hT1⟩ : ∃ T1, T1 = setI T c { nd T c with gone := true } := ⟨_, rfl⟩
    rw [← hT1] at e1 hw1 hch hlv
    have hzz : child T1 0 zzN = none := by
      rw [hch]; split
      · rfl
      · exact hr.none _ zz_not fun i hi => zz_rn i (by omega)
    have hzzz : child T1 0 zzzN = none := by
      rw [hch]; split
      · rfl
      · exact hr.none _ zzz_not fun i hi => zzz_rn i (by omega)
    have e2 := make_is hw1 zz_name hzz 1 (.inl rfl)
    rw [if_neg (by omega)] at e2
    obtain ⟨x, hx⟩ : ∃ x : It, x = ⟨(1 : Int).toNat, 0, [], [], [], false⟩ := ⟨_, rfl⟩
    rw [← hx] at e2
    have hxk : x.kind = 1 := by rw [hx]; rfl
    have hxd : x.data = [] := by rw [hx]
    have hxg : x.gone = false := by rw [hx]
    have hxt : x.to.length ≤ 200 := by rw [hx]; simp
    have hw2 := wf_add hw1 hw1.root.1 hw1.root.2.1 zz_name hzz (.inl hxk) hxd hxt hxg
    have hch2 := fun e m => child_add hw1 hw2 hw1.root.1 hzz hxg e (.inr trivial) m
    have hlv2 := liveN_app T1 (newIt x 0 zzN) hxg
    have hzzz2 : child (T1 ++ [newIt x 0 zzN]) 0 zzzN = none := by
      rw [hch2, if_neg (by simp [zzzN, zzN]), hzzz]
    have e3 := make_is hw2 (by rfl : nameB zzzN = true) hzzz2 1 (.inl rfl)
    rw [if_pos (by omega)] at e3
    refine ⟨snE 0, snE 0, snE 9, ?_, rfl, rfl, rfl⟩
    show [(actT T _).2, (actT (actT T _).1 _).2, (actT (actT (actT T _).1 _).1 _).2] = _
    rw [e1]
    show [snE 0, (actT T1 _).2, (actT (actT T1 _).1 _).2] = _
    have e2' : actT T1 ⟨1, zzP, [], 0, 0, []⟩ = (T1 ++ [newIt x 0 zzN], snE 0) := e2
    rw [e2']
    show [snE 0, snE 0, (actT (T1 ++ [newIt x 0 zzN]) _).2] = _
    rw [e3]

end Go.Proofs.YtdekpmidaleipaaDoor
