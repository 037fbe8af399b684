/-
  Bytes below 'z' stay so; a tree with one more node that none of its names leads to; links. Mathematics alone.
-/
import Derived.Test.YtdekpmidaleipaaDoorTMore
namespace Go.Proofs.YtdekpmidaleipaaDoor
set_option linter.unusedVariables false
set_option linter.unusedSimpArgs false

/-! ### bytes below 'z' -/
def LoL (l : List Byt) : Prop := ∀ x ∈ l, Lo x
theorem lo_parts : ∀ (p : Byt), Lo p → LoL (parts p)
  | [], _ => fun x hx => by simp [parts] at hx; subst hx; exact lo_nil
  | b :: r, h => by
    have ih := lo_parts r fun c hc => h c (by simp [hc])
    intro x hx
    simp only [parts] at hx
    split at hx
    · rcases List.mem_cons.1 hx with rfl | hx
      · exact lo_nil
      · exact ih x hx
    · rcases hp : parts r with _ | ⟨y, q⟩
      · exact absurd hp (parts_ne r)
      · rw [hp] at hx ih
        rcases List.mem_cons.1 hx with rfl | hx
        · intro c hc
          rcases List.mem_cons.1 hc with rfl | hc
          · exact h c (by simp)
          · exact ih y (by simp) c hc
        · exact ih x (by simp [hx])
theorem lo_pfold : ∀ (ps out o : List Byt), LoL ps → LoL out → pfold out ps = .ok o → LoL o
  | [], out, o, _, h, hs => by injection hs with hs; subst hs; exact h
  | p :: r, out, o, hp, h, hs => by
    simp only [pfold] at hs
    rcases hq : pstep out p with e | o'
    · rw [hq] at hs; cases hs
    · rw [hq] at hs
      refine lo_pfold r o' o (fun x hx => hp x (by simp [hx])) ?_ hs
      unfold pstep at hq
      split at hq
      · injection hq with hq; subst hq; exact fun x hx => h x (List.dropLast_subset _ hx)
      · split at hq
        · injection hq with hq; subst hq; exact h
        · split at hq
          · cases hq
          · split at hq
            · cases hq
            · injection hq with hq; subst hq
              intro x hx
              rcases List.mem_append.1 hx with hx | hx
              · exact h x hx
              · simp at hx; subst hx; exact hp x (by simp)
theorem lo_pfrom {f o : List Byt} {p : Byt} (hf : LoL f) (hp : Lo p) (h : pfrom f p = .ok o) : LoL o := by
  unfold pfrom at h
  split at h
  · cases h
  · exact lo_pfold _ _ _ (lo_parts p hp) hf h
theorem lol_nil : LoL [] := fun x hx => by cases hx
theorem lo_clean {o : List Byt} {p : Byt} (hp : Lo p) (h : clean p = .ok o) : LoL o := lo_pfrom lol_nil hp h
theorem lo_lead {dn rest o : List Byt} {p : Byt} (hd : LoL dn) (hp : Lo p) (hr : LoL rest) (h : leadT dn p rest = .ok o) : LoL o := by
  unfold leadT at h
  rcases hf : pfollow dn p with e | on
  · rw [hf] at h; cases h
  · rw [hf] at h
    simp only [] at h
    split at h
    · cases h
    · injection h with h; subst h
      unfold pfollow at hf
      split at hf
      · cases hf
      · have := lo_pfrom (by split; exact lol_nil; exact hd) hp hf
        intro x hx
        rcases List.mem_append.1 hx with hx | hx
        · exact this x hx
        · exact hr x hx
/-- no name and no link's path has a 'z' -/
def LoT (T : Wd) : Prop := ∀ i, Lo (nd T i).name ∧ Lo (nd T i).to
theorem lo_root : LoT root0 := fun i => by
  rcases i with _ | i
  · exact ⟨lo_nil, lo_nil⟩
  · exact ⟨lo_nil, lo_nil⟩
theorem nd_out {T : Wd} {i : Nat} (h : T.length ≤ i) : nd T i = it0 := by
  unfold nd; rw [List.getD_eq_getElem?_getD, List.getElem?_eq_none h]; rfl
theorem lo_app {T : Wd} (h : LoT T) {x : It} (hx : Lo x.name ∧ Lo x.to) : LoT (T ++ [x]) := fun i => by
  rcases Nat.lt_trichotomy i T.length with g | g | g
  · rw [nd_app_lt g]; exact h i
  · subst g; rw [nd_app_new]; exact hx
  · rw [nd_out (by rw [List.length_append]; simp; omega)]; exact ⟨lo_nil, lo_nil⟩
theorem lo_set {T : Wd} (h : LoT T) {x : It} (hx : Lo x.name ∧ Lo x.to) (n : Nat) : LoT (setI T n x) := fun i => by
  by_cases g : i = n
  · subst g
    by_cases g2 : i < T.length
    · rw [nd_set_same g2]; exact hx
    · rw [nd_out (by rw [len_set]; omega)]; exact ⟨lo_nil, lo_nil⟩
  · rw [nd_set_other g]; exact h i
theorem lo_free {T : Wd} {p nm : Byt} {d : Nat} (hp : Lo p) (h : freeT T p = .ok (d, nm)) : Lo nm := by
  unfold freeT at h
  rcases hc : clean p with e | l
  · rw [hc] at h; cases h
  · rw [hc] at h
    simp only [] at h
    unfold spotT at h
    split at h
    · cases h
    · rename_i hne
      split at h
      · cases h
      · split at h
        · cases h
        · injection h with h
          injection h with h1 h2
          rw [← h2]
          refine lo_clean hp hc _ ?_
          rw [List.getLastD_eq_getLast?, List.getLast?_eq_some_getLast hne]
          exact List.getLast_mem hne
theorem actT_lo {T : Wd} (h : LoT T) (a : Ac) (hp : Lo a.path) (ht : Lo a.to) : LoT (actT T a).1 := by
  have hadd : ∀ x : It, Lo x.to → LoT (addT T a.path x).1 := fun x hx => by
    unfold addT
    rcases hf : freeT T a.path with e | ⟨d, nm⟩
    · exact h
    · simp only []
      split
      · exact h
      · exact lo_app h ⟨lo_free hp hf, hx⟩
  unfold actT
  split
  · exact hadd _ lo_nil
  · split
    · exact hadd _ lo_nil
    · split
      · split
        · exact h
        · exact hadd _ ht
      · split
        · unfold workT
          rcases ho : openT T a.path with e | n
          · exact h
          · simp only []
            split
            · unfold fileT
              split
              · split
                · exact h
                · split
                  · exact h
                  · refine lo_set h ?_ n; exact h n
              · split
                · split <;> exact h
                · split
                  · exact h
                  · refine lo_set h ?_ n; exact h n
            · exact h
        · split
          · exact h
          · split
            · exact h
            · split
              · unfold snC removeT
                rcases hf : ownT T a.path with e | n
                · exact h
                · simp only []
                  split
                  · exact h
                  · refine lo_set h ?_ n; exact h n
              · split
                · unfold snC renameT
                  rcases hf : ownT T a.path with e | n
                  · exact h
                  · simp only []
                    rcases hg : freeT T a.to with e | ⟨d, nm⟩
                    · exact h
                    · simp only []
                      split
                      · exact h
                      · refine lo_set h ?_ n; exact ⟨lo_free ht hg, (h n).2⟩
                · exact h
theorem actsT_lo : ∀ (l : List Ac) {T : Wd}, LoT T → (∀ a ∈ l, Lo a.path ∧ Lo a.to) → LoT (actsT T l)
  | [], T, h, _ => h
  | a :: r, T, h, hd => actsT_lo r (actT_lo h a (hd a (by simp)).1 (hd a (by simp)).2) fun b hb => hd b (by simp [hb])

/-! ### one more node, which no name below 'z' leads to -/
structure Plus (T T' : Wd) : Prop where
  kind : ∀ i, Live T i → (nd T' i).kind = (nd T i).kind
  lk : ∀ i, Live T i → (nd T' i).to = (nd T i).to
  child : ∀ e m, Lo m → child T' e m = child T e m
theorem walkT_plus {T T' : Wd} (hw : WF T) (h : Plus T T') : ∀ (l done : List Byt) (d : Nat), LoL l → Live T d → walkT T' done d l = walkT T done d l
  | [], _, _, _, _ => rfl
  | n :: r, done, d, hl, hd => by
    rw [walkT_cons, walkT_cons, h.kind d hd, h.child _ _ (hl n (by simp))]
    by_cases h1 : (nd T d).kind = 1
    · rw [if_pos h1, if_pos h1]
      rcases hc : child T d n with _ | c
      · rfl
      · simp only []
        have hlc := (child_is hw hc).2.1
        rw [h.kind c hlc, walkT_plus hw h r _ c (fun x hx => hl x (by simp [hx])) hlc]
    · rw [if_neg h1, if_neg h1]
theorem findT_plus {T T' : Wd} (hw : WF T) (hz : LoT T) (h : Plus T T') (fo : Bool) : ∀ (k : Nat) (names : List Byt), LoL names → findT T' fo k names = findT T fo k names := by
  intro k
  induction k with
  | zero =>
    intro names hn
    rw [findT_eq, findT_eq, walkT_plus hw h _ _ _ hn hw.root.1]
  | succ k ih =>
    intro names hn
    rw [findT_eq, findT_eq, walkT_plus hw h _ _ _ hn hw.root.1]
    have hwk := walkT_is hw names [] 0 hw.root.1 (by rw [hw.root.2.1]; decide)
    rcases hww : walkT T [] 0 names with e | c | ⟨dn, c, r⟩
    · rfl
    · rfl
    · rw [hww] at hwk
      obtain ⟨k1, k2, k3, j, k4, k5, k6⟩ := hwk
      simp only []
      rw [h.lk c k1]
      rcases hl : leadT dn (nd T c).to r with e | n'
      · rfl
      · simp only []
        rw [ih n' (lo_lead (fun x hx => hn x (by rw [k5] at hx; exact List.mem_of_mem_take (by simpa using hx))) (hz c).2 (fun x hx => hn x (by rw [k6] at hx; exact List.mem_of_mem_drop hx)) hl)]

/-! ### fewer links -/
theorem findT_less (T : Wd) : ∀ (k : Nat) (names : List Byt), findT T true k names = .error 13 ∨ findT T true k names = findT T true (k + 1) names := by
  intro k
  induction k with
  | zero =>
    intro names
    rw [findT_eq, findT_eq]
    rcases walkT T [] 0 names with e | c | ⟨dn, c, r⟩
    · exact .inr rfl
    · exact .inr rfl
    · exact .inl (by simp)
  | succ k ih =>
    intro names
    rw [findT_eq T true (k + 1), findT_eq T true (k + 1 + 1)]
    rcases walkT T [] 0 names with e | c | ⟨dn, c, r⟩
    · exact .inr rfl
    · exact .inr rfl
    · simp only []
      rw [if_neg (by simp), if_neg (by simp)]
      rcases leadT dn (nd T c).to r with e | n'
      · exact .inr rfl
      · exact ih n'

/-! ### looking: what is told of a place that is found, or not -/
def lookR (T : Wd) (k : Int) : Except Int Nat → Sn
  | .error e => snE e
  | .ok n =>
    if k = 7 then (if (nd T n).kind = 1 then ⟨0, 0, 0, [], sorted (kids T n)⟩ else snE 15)
    else if k = 6 then (if (nd T n).kind = 1 then ⟨0, 1, ((kids T n).length : Nat), [], []⟩ else ⟨0, 2, ((nd T n).data.length : Nat), [], []⟩)
    else if (nd T n).kind = 2 then ⟨0, 0, 0, ((nd T n).data.drop 0).take 60, []⟩ else snE 14
def lookA (k : Int) (p : Byt) : Ac := ⟨k, p, [], 0, 60, []⟩
theorem look_is (T : Wd) (k : Int) (p : Byt) (hk : k = 7 ∨ k = 6 ∨ k = 4) : actT T (lookA k p) = (T, lookR T k (openT T p)) := by
  rcases hk with rfl | rfl | rfl
  · have e : actT T (lookA 7 p) = (T, listT T p) := rfl
    rw [e]; unfold listT
    rcases openT T p with e | n <;> rfl
  · have e : actT T (lookA 6 p) = (T, statT T p) := rfl
    rw [e]; unfold statT
    rcases openT T p with e | n <;> rfl
  · have e : actT T (lookA 4 p) = workT T (lookA 4 p) := rfl
    rw [e]; unfold workT
    show (match openT T p with | .error e => (T, snE e) | .ok n => if (nd T n).kind = 2 then fileT T n (lookA 4 p) else (T, snE 14)) = _
    rcases openT T p with e | n
    · rfl
    · simp only []
      by_cases h2 : (nd T n).kind = 2
      · rw [if_pos h2]
        have e2 : fileT T n (lookA 4 p) = (T, ⟨0, 0, 0, ((nd T n).data.drop 0).take 60, []⟩) := rfl
        rw [e2]
        show _ = (T, if (nd T n).kind = 2 then _ else _)
        rw [if_pos h2]
      · rw [if_neg h2]
        show _ = (T, if (nd T n).kind = 2 then _ else _)
        rw [if_neg h2]

end Go.Proofs.YtdekpmidaleipaaDoor
