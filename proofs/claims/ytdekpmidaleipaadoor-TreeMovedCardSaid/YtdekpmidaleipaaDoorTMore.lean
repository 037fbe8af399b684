/-
  What acts leave of the tree, for the laws on it. Mathematics alone.
-/
import Derived.Test.YtdekpmidaleipaaDoorTPlay
namespace Go.Proofs.YtdekpmidaleipaaDoor
set_option linter.unusedVariables false
set_option linter.unusedSimpArgs false

/-! ### trees in which the same is looked up -/
structure Alike (T T' : Wd) : Prop where
  kind : ∀ i, (nd T' i).kind = (nd T i).kind
  lk : ∀ i, (nd T' i).to = (nd T i).to
  child : ∀ e m, child T' e m = child T e m
theorem walkT_alike {T T' : Wd} (h : Alike T T') : ∀ (l done : List Byt) (d : Nat), walkT T' done d l = walkT T done d l
  | [], _, _ => rfl
  | n :: r, done, d => by
    rw [walkT_cons, walkT_cons, h.kind, h.child]
    by_cases h1 : (nd T d).kind = 1
    · rw [if_pos h1, if_pos h1]
      rcases hc : child T d n with _ | c
      · rfl
      · simp only []
        rw [h.kind, walkT_alike h r]
    · rw [if_neg h1, if_neg h1]
theorem findT_alike {T T' : Wd} (h : Alike T T') (fo : Bool) : ∀ (k : Nat) (names : List Byt), findT T' fo k names = findT T fo k names := by
  intro k
  induction k with
  | zero =>
    intro names
    rw [findT_eq, findT_eq, walkT_alike h]
  | succ k ih =>
    intro names
    rw [findT_eq, findT_eq, walkT_alike h]
    rcases walkT T [] 0 names with e | c | ⟨dn, c, r⟩
    · rfl
    · rfl
    · simp only []
      rw [h.lk]
      rcases leadT dn (nd T c).to r with e | n'
      · rfl
      · simp only []; rw [ih]
theorem openT_alike {T T' : Wd} (h : Alike T T') (p : Byt) : openT T' p = openT T p := by
  unfold openT; rcases clean p with e | n
  · rfl
  · exact findT_alike h _ _ _

/-! ### each act leaves a tree -/
theorem laid_len2 (l : List Int) (k : Nat) (d : List Int) : (laid l k d).length = max l.length (k + d.length) := by
  have hr : ∀ s, (resized l s).length = s := fun s => by unfold resized zeros; rw [List.length_append, List.length_take, List.length_replicate]; omega
  unfold laid
  rw [List.length_append, List.length_append, List.length_take, List.length_drop, hr]; omega
def Bts (l : List Int) : Prop := ∀ z ∈ l, 0 ≤ z ∧ z ≤ 255
theorem resized_bts {l : List Int} (h : Bts l) (s : Nat) : Bts (resized l s) := fun z hz => by
  unfold resized zeros at hz
  rcases List.mem_append.1 hz with hz | hz
  · exact h z (List.mem_of_mem_take hz)
  · rw [(List.mem_replicate.1 hz).2]; omega
theorem laid_bts {l d : List Int} (h : Bts l) (hd : Bts d) (k : Nat) : Bts (laid l k d) := fun z hz => by
  unfold laid at hz
  rcases List.mem_append.1 hz with hz | hz
  · rcases List.mem_append.1 hz with hz | hz
    · exact resized_bts h _ z (List.mem_of_mem_take hz)
    · exact hd z hz
  · exact resized_bts h _ z (List.mem_of_mem_drop hz)
theorem resized_len2 (l : List Int) (s : Nat) : (resized l s).length = s := by unfold resized zeros; rw [List.length_append, List.length_take, List.length_replicate]; omega
theorem fits_is {n : Int} : fits n = true ↔ 0 ≤ n ∧ n ≤ 2048 := by simp [fits]
theorem fits_not {n : Int} : fits n = false ↔ ¬ (0 ≤ n ∧ n ≤ 2048) := by simp only [fits, decide_eq_false_iff_not]

theorem addT_wf {T : Wd} (h : WF T) (p : Byt) (x : It) (hx : x.kind = 1 ∨ x.kind = 2 ∨ x.kind = 3) (hdat : x.data = []) (hto : x.to.length ≤ 200) (hg : x.gone = false) : WF (addT T p x).1 := by
  unfold addT
  rcases hf : freeT T p with e | ⟨d, nm⟩
  · exact h
  · simp only []
    split
    · exact h
    · obtain ⟨h1, h2, h3, h4⟩ := freeT_ok h hf
      exact wf_add h h1 h2 h3 h4 hx hdat hto hg
theorem removeT_wf {T : Wd} (h : WF T) (p : Byt) : WF (removeT T p).1 := by
  unfold removeT
  rcases hf : ownT T p with e | n
  · exact h
  · simp only []
    split
    · exact h
    · rename_i hb
      obtain ⟨h1, h2⟩ := ownT_ok h hf
      exact wf_gone h h1 h2 (bare_of h hb)
theorem renameT_wf {T : Wd} (h : WF T) (p q : Byt) : WF (renameT T p q).1 := by
  unfold renameT
  rcases hf : ownT T p with e | n
  · exact h
  · simp only []
    rcases hg : freeT T q with e | ⟨d, nm⟩
    · exact h
    · simp only []
      split
      · exact h
      · rename_i hu
        obtain ⟨h1, h2⟩ := ownT_ok h hf
        obtain ⟨k1, k2, k3, k4⟩ := freeT_ok h hg
        exact wf_move h h1 h2 k1 k2 k3 k4 hu
theorem fileT_wf {T : Wd} (h : WF T) {n : Nat} (hn : Live T n) (a : Ac) (hd : Bts a.data) : WF (fileT T n a).1 := by
  have hdat := h.dat n hn
  unfold fileT
  split
  · split
    · exact h
    · rename_i hf
      have hf' := fits_is.1 (by simpa using hf)
      split
      · exact h
      · exact wf_data h hn ⟨by rw [laid_len2]; omega, laid_bts hdat.2 hd _⟩
  · split
    · split <;> exact h
    · split
      · exact h
      · rename_i hf
        have hf' := fits_is.1 (by simpa using hf)
        exact wf_data h hn ⟨by rw [resized_len2]; omega, resized_bts hdat.2 _⟩
theorem actT_wf {T : Wd} (h : WF T) (a : Ac) (hd : Bts a.data) : WF (actT T a).1 := by
  unfold actT
  split
  · exact addT_wf h _ _ (.inl rfl) rfl (by simp) rfl
  · split
    · exact addT_wf h _ _ (.inr (.inl rfl)) rfl (by simp) rfl
    · split
      · split
        · exact h
        · rename_i hto
          exact addT_wf h _ _ (.inr (.inr rfl)) rfl (by show a.to.length ≤ 200; simp only [not_or] at hto; omega) rfl
      · split
        · unfold workT
          rcases ho : openT T a.path with e | n
          · exact h
          · simp only []
            split
            · exact fileT_wf h (openT_ok h ho).1 a hd
            · exact h
        · split
          · exact h
          · split
            · exact h
            · split
              · exact removeT_wf h _
              · split
                · exact renameT_wf h _ _
                · exact h
theorem actsT_wf : ∀ (l : List Ac) {T : Wd}, WF T → (∀ a ∈ l, Bts a.data) → WF (actsT T l)
  | [], T, h, _ => h
  | a :: r, T, h, hd => actsT_wf r (actT_wf h a (hd a (by simp))) fun b hb => hd b (by simp [hb])

/-! ### the last of what acts come to -/
theorem last1 (T : Wd) (l : List Ac) (a : Ac) : (seenT T (l ++ [a]))[l.length]? = some (actT (actsT T l) a).2 := by
  rw [seenT_app, List.getElem?_append_right (by rw [seenT_len]; exact Nat.le_refl _), seenT_len, Nat.sub_self]; rfl
theorem last2 (T : Wd) (l : List Ac) (a b : Ac) : (seenT T (l ++ [a, b]))[l.length + 1]? = some (actT (actT (actsT T l) a).1 b).2 := by
  have := last1 T (l ++ [a]) b
  rw [List.append_assoc, actsT_app, List.length_append] at this
  exact this
theorem last3 (T : Wd) (l : List Ac) (a b c : Ac) : (seenT T (l ++ [a, b, c]))[l.length + 2]? = some (actT (actT (actT (actsT T l) a).1 b).1 c).2 := by
  have := last2 T (l ++ [a]) b c
  rw [List.append_assoc, actsT_app, List.length_append] at this
  exact this

/-! ### put and get -/
def getA (p : Byt) : Ac := ⟨4, p, [], 0, 2048, []⟩
def putA (p : Byt) (k : Int) (d : List Int) : Ac := ⟨3, p, [], k, 0, d⟩
theorem get_is {T : Wd} (h : WF T) (p : Byt) : (actT T (getA p)).1 = T ∧ (actT T (getA p)).2 = match openT T p with
    | .error e => snE e
    | .ok n => if (nd T n).kind = 2 then ⟨0, 0, 0, (nd T n).data, []⟩ else snE 14 := by
  have e : actT T (getA p) = workT T (getA p) := rfl
  rw [e]
  unfold workT
  show (match openT T p with | .error e => (T, snE e) | .ok n => if (nd T n).kind = 2 then fileT T n (getA p) else (T, snE 14)).1 = T ∧ (match openT T p with | .error e => (T, snE e) | .ok n => if (nd T n).kind = 2 then fileT T n (getA p) else (T, snE 14)).2 = _
  rcases ho : openT T p with e | n
  · exact ⟨rfl, rfl⟩
  · simp only []
    by_cases hk : (nd T n).kind = 2
    · rw [if_pos hk, if_pos hk]
      have hl := (h.dat n (openT_ok h ho).1).1
      have e2 : fileT T n (getA p) = (T, ⟨0, 0, 0, ((nd T n).data.drop 0).take 2048, []⟩) := rfl
      rw [e2, List.drop_zero, List.take_of_length_le hl]
      exact ⟨rfl, rfl⟩
    · rw [if_neg hk, if_neg hk]; exact ⟨rfl, rfl⟩
theorem alike_data {T : Wd} (h : WF T) {n : Nat} (hn : Live T n) {b : List Int} (hb : b.length ≤ 2048 ∧ Bts b) : Alike T (setI T n { nd T n with data := b }) :=
  ⟨fun i => (nd_data n b i hn.1).1, fun i => (nd_data n b i hn.1).2.2.2.2.1, fun e m => child_data h (wf_data h hn hb) hn e m⟩
/-- what is put is got -/
theorem put_get {T : Wd} (h : WF T) (p : Byt) (k : Nat) (d : List Int) (hk : k < 60) (hd : d.length ≤ 41) (hb : Bts d) :
    (∃ e : Int, e ≠ 0 ∧ (actT T (getA p)).2 = snE e ∧ (actT T (putA p k d)).2 = snE e ∧ (actT (actT T (putA p k d)).1 (getA p)).2 = snE e) ∨
    (∃ l : List Int, l.length ≤ 2048 ∧ Bts l ∧ (actT T (getA p)).2 = ⟨0, 0, 0, l, []⟩ ∧ (actT T (putA p k d)).2 = ⟨0, 0, (laid l k d).length, [], []⟩ ∧ (actT (actT T (putA p k d)).1 (getA p)).2 = ⟨0, 0, 0, laid l k d, []⟩) := by
  have hput : actT T (putA p k d) = match openT T p with | .error e => (T, snE e) | .ok n => if (nd T n).kind = 2 then fileT T n (putA p k d) else (T, snE 14) := rfl
  have hg := (get_is h p).2
  rcases ho : openT T p with e | n
  · rw [ho] at hput hg
    simp only [] at hput hg
    refine .inl ⟨e, ?_, hg, by rw [hput], by rw [hput]; exact hg⟩
    have := openT_code h ho
    simpa using this
  · rw [ho] at hput hg
    simp only [] at hput hg
    by_cases hk2 : (nd T n).kind = 2
    · rw [if_pos hk2] at hput hg
      have hl := (openT_ok h ho).1
      have hdat := h.dat n hl
      have hfit : fits (putA p k d).at_ = true := fits_is.2 ⟨by show (0 : Int) ≤ k; omega, by show (k : Int) ≤ 2048; omega⟩
      have hfile : fileT T n (putA p k d) = (setI T n { nd T n with data := laid (nd T n).data k d }, ⟨0, 0, (laid (nd T n).data k d).length, [], []⟩) := by
        unfold fileT
        rw [if_pos (show (putA p k d).kind = 3 from rfl), if_neg (show ¬ fits (putA p k d).at_ = false by rw [hfit]; simp), if_neg (show ¬ 2048 - (putA p k d).at_ < ((putA p k d).data.length : Nat) by show ¬ 2048 - (k : Int) < (d.length : Nat); omega)]
        rfl
      have hlb : (laid (nd T n).data k d).length ≤ 2048 ∧ Bts (laid (nd T n).data k d) := ⟨by rw [laid_len2]; omega, laid_bts hdat.2 hb _⟩
      rw [hfile] at hput
      have hal := alike_data h hl hlb
      have hwf := wf_data h hl hlb
      refine .inr ⟨(nd T n).data, hdat.1, hdat.2, hg, by rw [hput], ?_⟩
      rw [hput]
      have hg2 := (get_is hwf p).2
      rw [openT_alike hal, ho] at hg2
      simp only [] at hg2
      rw [hal.kind, if_pos hk2, nd_set_same hl.1] at hg2
      exact hg2
    · rw [if_neg hk2] at hput hg
      exact .inl ⟨14, by decide, hg, by rw [hput], by rw [hput]; exact hg⟩

end Go.Proofs.YtdekpmidaleipaaDoor
