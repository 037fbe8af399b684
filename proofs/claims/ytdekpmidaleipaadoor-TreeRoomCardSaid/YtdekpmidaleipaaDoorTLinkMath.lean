/-
  Bytes below 'z' stay so; a tree with one more node that none of its names leads to; links. Mathematics alone.
  A link at /zz: what is looked up by it. Mathematics alone.
-/
import Derived.Test.YtdekpmidaleipaaDoorTMore
namespace Go.Proofs.YtdekpmidaleipaaDoor
set_option linter.unusedVariables false
set_option linter.unusedSimpArgs false

/-! ### bytes below 'z' -/
def LoL (l : List Byt) : Prop := ∀ x ∈ l, Lo x
theorem lo_parts : ∀ (p : Byt), Lo p → LoL (parts p)
  | [], _ => fun x hx => by simp [parts] at hx; subst hx; exact lo_nil
  | b :: r, h => by
    have ih := lo_parts r fun c hc => h c (by simp [hc])
    intro x hx
    simp only [parts] at hx
    split at hx
    · rcases List.mem_cons.1 hx with rfl | hx
      · exact lo_nil
      · exact ih x hx
    · rcases hp : parts r with _ | ⟨y, q⟩
      · exact absurd hp (parts_ne r)
      · rw [hp] at hx ih
        rcases List.mem_cons.1 hx with rfl | hx
        · intro c hc
          rcases List.mem_cons.1 hc with rfl | hc
          · exact h c (by simp)
          · exact ih y (by simp) c hc
        · exact ih x (by simp [hx])
theorem lo_pfold : ∀ (ps out o : List Byt), LoL ps → LoL out → pfold out ps = .ok o → LoL o
  | [], out, o, _, h, hs => by injection hs with hs; subst hs; exact h
  | p :: r, out, o, hp, h, hs => by
    simp only [pfold] at hs
    rcases hq : pstep out p with e | o'
    · rw [hq] at hs; cases hs
    · rw [hq] at hs
      refine lo_pfold r o' o (fun x hx => hp x (by simp [hx])) ?_ hs
      unfold pstep at hq
      split at hq
      · injection hq with hq; subst hq; exact fun x hx => h x (List.dropLast_subset _ hx)
      · split at hq
        · injection hq with hq; subst hq; exact h
        · split at hq
          · cases hq
          · split at hq
            · cases hq
            · injection hq with hq; subst hq
              intro x hx
              rcases List.mem_append.1 hx with hx | hx
              · exact h x hx
              · simp at hx; subst hx; exact hp x (by simp)
theorem lo_pfrom {f o : List Byt} {p : Byt} (hf : LoL f) (hp : Lo p) (h : pfrom f p = .ok o) : LoL o := by
  unfold pfrom at h
  split at h
  · cases h
  · exact lo_pfold _ _ _ (lo_parts p hp) hf h
theorem lol_nil : LoL [] := fun x hx => by cases hx
theorem lo_clean {o : List Byt} {p : Byt} (hp : Lo p) (h : clean p = .ok o) : LoL o := lo_pfrom lol_nil hp h
theorem lo_lead {dn rest o : List Byt} {p : Byt} (hd : LoL dn) (hp : Lo p) (hr : LoL rest) (h : leadT dn p rest = .ok o) : LoL o := by
  unfold leadT at h
  rcases hf : pfollow dn p with e | on
  · rw [hf] at h; cases h
  · rw [hf] at h
    simp only [] at h
    split at h
    · cases h
    · injection h with h; subst h
      unfold pfollow at hf
      split at hf
      · cases hf
      · have := lo_pfrom (by split; exact lol_nil; exact hd) hp hf
        intro x hx
        rcases List.mem_append.1 hx with hx | hx
        · exact this x hx
        · exact hr x hx
/-- no name and no link's path has a 'z' -/
def LoT (T : Wd) : Prop := ∀ i, Lo (nd T i).name ∧ Lo (nd T i).to
theorem lo_root : LoT root0 := fun i => by
  rcases i with _ | i
  · exact ⟨lo_nil, lo_nil⟩
  · exact ⟨lo_nil, lo_nil⟩
theorem nd_out {T : Wd} {i : Nat} (h : T.length ≤ i) : nd T i = it0 := by
  unfold nd; rw [List.getD_eq_getElem?_getD, List.getElem?_eq_none h]; rfl
theorem lo_app {T : Wd} (h : LoT T) {x : It} (hx : Lo x.name ∧ Lo x.to) : LoT (T ++ [x]) := fun i => by
  rcases Nat.lt_trichotomy i T.length with g | g | g
  · rw [nd_app_lt g]; exact h i
  · subst g; rw [nd_app_new]; exact hx
  · rw [nd_out (by rw [List.length_append]; simp; omega)]; exact ⟨lo_nil, lo_nil⟩
theorem lo_set {T : Wd} (h : LoT T) {x : It} (hx : Lo x.name ∧ Lo x.to) (n : Nat) : LoT (setI T n x) := fun i => by
  by_cases g : i = n
  · subst g
    by_cases g2 : i < T.length
    · rw [nd_set_same g2]; exact hx
    · rw [nd_out (by rw [len_set]; omega)]; exact ⟨lo_nil, lo_nil⟩
  · rw [nd_set_other g]; exact h i
theorem lo_free {T : Wd} {p nm : Byt} {d : Nat} (hp : Lo p) (h : freeT T p = .ok (d, nm)) : Lo nm := by
  unfold freeT at h
  rcases hc : clean p with e | l
  · rw [hc] at h; cases h
  · rw [hc] at h
    simp only [] at h
    unfold spotT at h
    split at h
    · cases h
    · rename_i hne
      split at h
      · cases h
      · split at h
        · cases h
        · injection h with h
          injection h with h1 h2
          rw [← h2]
          refine lo_clean hp hc _ ?_
          rw [List.getLastD_eq_getLast?, List.getLast?_eq_some_getLast hne]
          exact List.getLast_mem hne
theorem actT_lo {T : Wd} (h : LoT T) (a : Ac) (hp : Lo a.path) (ht : Lo a.to) : LoT (actT T a).1 := by
  have hadd : ∀ x : It, Lo x.to → LoT (addT T a.path x).1 := fun x hx => by
    unfold addT
    rcases hf : freeT T a.path with e | ⟨d, nm⟩
    · exact h
    · simp only []
      split
      · exact h
      · exact lo_app h ⟨lo_free hp hf, hx⟩
  unfold actT
  split
  · exact hadd _ lo_nil
  · split
    · exact hadd _ lo_nil
    · split
      · split
        · exact h
        · exact hadd _ ht
      · split
        · unfold workT
          rcases ho : openT T a.path with e | n
          · exact h
          · simp only []
            split
            · unfold fileT
              split
              · split
                · exact h
                · split
                  · exact h
                  · refine lo_set h ?_ n; exact h n
              · split
                · split <;> exact h
                · split
                  · exact h
                  · refine lo_set h ?_ n; exact h n
            · exact h
        · split
          · exact h
          · split
            · exact h
            · split
              · unfold snC removeT
                rcases hf : ownT T a.path with e | n
                · exact h
                · simp only []
                  split
                  · exact h
                  · refine lo_set h ?_ n; exact h n
              · split
                · unfold snC renameT
                  rcases hf : ownT T a.path with e | n
                  · exact h
                  · simp only []
                    rcases hg : freeT T a.to with e | ⟨d, nm⟩
                    · exact h
                    · simp only []
                      split
                      · exact h
                      · refine lo_set h ?_ n; exact ⟨lo_free ht hg, (h n).2⟩
                · exact h
theorem actsT_lo : ∀ (l : List Ac) {T : Wd}, LoT T → (∀ a ∈ l, Lo a.path ∧ Lo a.to) → LoT (actsT T l)
  | [], T, h, _ => h
  | a :: r, T, h, hd => actsT_lo r (actT_lo h a (hd a (by simp)).1 (hd a (by simp)).2) fun b hb => hd b (by simp [hb])

/-! ### one more node, which no name below 'z' leads to -/
structure Plus (T T' : Wd) : Prop where
  kind : ∀ i, Live T i → (nd T' i).kind = (nd T i).kind
  lk : ∀ i, Live T i → (nd T' i).to = (nd T i).to
  child : ∀ e m, Lo m → child T' e m = child T e m
theorem walkT_plus {T T' : Wd} (hw : WF T) (h : Plus T T') : ∀ (l done : List Byt) (d : Nat), LoL l → Live T d → walkT T' done d l = walkT T done d l
  | [], _, _, _, _ => rfl
  | n :: r, done, d, hl, hd => by
    rw [walkT_cons, walkT_cons, h.kind d hd, h.child _ _ (hl n (by simp))]
    by_cases h1 : (nd T d).kind = 1
    · rw [if_pos h1, if_pos h1]
      rcases hc : child T d n with _ | c
      · rfl
      · simp only []
        have hlc := (child_is hw hc).2.1
        rw [h.kind c hlc, walkT_plus hw h r _ c (fun x hx => hl x (by simp [hx])) hlc]
    · rw [if_neg h1, if_neg h1]
theorem findT_plus {T T' : Wd} (hw : WF T) (hz : LoT T) (h : Plus T T') (fo : Bool) : ∀ (k : Nat) (names : List Byt), LoL names → findT T' fo k names = findT T fo k names := by
  intro k
  induction k with
  | zero =>
    intro names hn
    rw [findT_eq, findT_eq, walkT_plus hw h _ _ _ hn hw.root.1]
  | succ k ih =>
    intro names hn
    rw [findT_eq, findT_eq, walkT_plus hw h _ _ _ hn hw.root.1]
    have hwk := walkT_is hw names [] 0 hw.root.1 (by rw [hw.root.2.1]; decide)
    rcases hww : walkT T [] 0 names with e | c | ⟨dn, c, r⟩
    · rfl
    · rfl
    · rw [hww] at hwk
      obtain ⟨k1, k2, k3, j, k4, k5, k6⟩ := hwk
      simp only []
      rw [h.lk c k1]
      rcases hl : leadT dn (nd T c).to r with e | n'
      · rfl
      · simp only []
        rw [ih n' (lo_lead (fun x hx => hn x (by rw [k5] at hx; exact List.mem_of_mem_take (by simpa using hx))) (hz c).2 (fun x hx => hn x (by rw [k6] at hx; exact List.mem_of_mem_drop hx)) hl)]

/-! ### fewer links -/
theorem findT_less (T : Wd) : ∀ (k : Nat) (names : List Byt), findT T true k names = .error 13 ∨ findT T true k names = findT T true (k + 1) names := by
  intro k
  induction k with
  | zero =>
    intro names
    rw [findT_eq, findT_eq]
    rcases walkT T [] 0 names with e | c | ⟨dn, c, r⟩
    · exact .inr rfl
    · exact .inr rfl
    · exact .inl (by simp)
  | succ k ih =>
    intro names
    rw [findT_eq T true (k + 1), findT_eq T true (k + 1 + 1)]
    rcases walkT T [] 0 names with e | c | ⟨dn, c, r⟩
    · exact .inr rfl
    · exact .inr rfl
    · simp only []
      rw [if_neg (by simp), if_neg (by simp)]
      rcases leadT dn (nd T c).to r with e | n'
      · exact .inr rfl
      · exact ih n'

/-! ### looking: what is told of a place that is found, or not -/
def lookR (T : Wd) (k : Int) : Except Int Nat → Sn
  | .error e => snE e
  | .ok n =>
    if k = 7 then (if (nd T n).kind = 1 then ⟨0, 0, 0, [], sorted (kids T n)⟩ else snE 15)
    else if k = 6 then (if (nd T n).kind = 1 then ⟨0, 1, ((kids T n).length : Nat), [], []⟩ else ⟨0, 2, ((nd T n).data.length : Nat), [], []⟩)
    else if (nd T n).kind = 2 then ⟨0, 0, 0, ((nd T n).data.drop 0).take 60, []⟩ else snE 14
def lookA (k : Int) (p : Byt) : Ac := ⟨k, p, [], 0, 60, []⟩
theorem look_is (T : Wd) (k : Int) (p : Byt) (hk : k = 7 ∨ k = 6 ∨ k = 4) : actT T (lookA k p) = (T, lookR T k (openT T p)) := by
  rcases hk with rfl | rfl | rfl
  · have e : actT T (lookA 7 p) = (T, listT T p) := rfl
    rw [e]; unfold listT
    rcases openT T p with e | n <;> rfl
  · have e : actT T (lookA 6 p) = (T, statT T p) := rfl
    rw [e]; unfold statT
    rcases openT T p with e | n <;> rfl
  · have e : actT T (lookA 4 p) = workT T (lookA 4 p) := rfl
    rw [e]; unfold workT
    show (match openT T p with | .error e => (T, snE e) | .ok n => if (nd T n).kind = 2 then fileT T n (lookA 4 p) else (T, snE 14)) = _
    rcases openT T p with e | n
    · rfl
    · simp only []
      by_cases h2 : (nd T n).kind = 2
      · rw [if_pos h2]
        have e2 : fileT T n (lookA 4 p) = (T, ⟨0, 0, 0, ((nd T n).data.drop 0).take 60, []⟩) := rfl
        rw [e2]
        show _ = (T, if (nd T n).kind = 2 then _ else _)
        rw [if_pos h2]
      · rw [if_neg h2]
        show _ = (T, if (nd T n).kind = 2 then _ else _)
        rw [if_neg h2]

end Go.Proofs.YtdekpmidaleipaaDoor

namespace Go.Proofs.YtdekpmidaleipaaDoor
set_option linter.unusedVariables false
set_option linter.unusedSimpArgs false

def zzN : Byt := [122, 122]
def zzP : Byt := [47, 122, 122]
theorem zz_clean : clean zzP = .ok [zzN] := by rfl
theorem zz_name : nameB zzN = true := by rfl
/-- a name with a 'z' is none of the tree's -/
theorem no_child {T : Wd} (h : WF T) (hz : LoT T) (d : Nat) (nm : Byt) (hn : ¬ Lo nm) : child T d nm = none := by
  refine (child_none h).2 fun i _ _ _ he => hn ?_
  rw [← he]; exact (hz i).1
theorem zz_not : ¬ Lo zzN := fun h => absurd (h 122 (by simp [zzN])) (by decide)
/-- a new name in the root -/
theorem free_root {T : Wd} (h : WF T) {p nm : Byt} (hc : clean p = .ok [nm]) (hn : child T 0 nm = none) : freeT T p = .ok (0, nm) := by
  unfold freeT
  rw [hc]
  show spotT T [nm] = _
  unfold spotT
  rw [if_neg (by simp)]
  have hd : dirT T ([nm] : List Byt).dropLast = .ok 0 := by
    show dirT T [] = _
    unfold dirT
    have : findT T true 8 [] = .ok 0 := by rw [findT_eq]; rfl
    rw [this]
    simp only []
    rw [if_pos h.root.2.1]
  rw [hd]
  simp only []
  have hl : ([nm] : List Byt).getLastD [] = nm := rfl
  rw [hl, hn]; rfl

section
variable {T : Wd} {x : It} {d : Nat} {nm : Byt}
theorem plus_add (h : WF T) (hd : Live T d) (hk : (nd T d).kind = 1) (hn : nameB nm = true) (hnz : ¬ Lo nm) (hc : child T d nm = none) (hx : x.kind = 1 ∨ x.kind = 2 ∨ x.kind = 3) (hdat : x.data = []) (hto : x.to.length ≤ 200) (hg : x.gone = false) : Plus T (T ++ [newIt x d nm]) := by
  have hw := wf_add h hd hk hn hc hx hdat hto hg
  refine ⟨fun i hi => by rw [nd_app_lt hi.1], fun i hi => by rw [nd_app_lt hi.1], fun e m hm => ?_⟩
  rw [child_add h hw hd hc hg e (.inr trivial) m, if_neg (show ¬ (e = d ∧ m = nm) from fun g => hnz (g.2 ▸ hm))]
/-- made and gone again: as it was, but for a node that is gone -/
def gone1 (T : Wd) (x : It) (d : Nat) (nm : Byt) : Wd := setI (T ++ [newIt x d nm]) T.length { nd (T ++ [newIt x d nm]) T.length with gone := true }
theorem gone1_lt {i : Nat} (h : i < T.length) : nd (gone1 T x d nm) i = nd T i := by
  unfold gone1; rw [nd_set_other (by omega), nd_app_lt h]
theorem gone1_new : (nd (gone1 T x d nm) T.length).gone = true := by
  unfold gone1; rw [nd_set_same (by simp)]
theorem kids_gone1 (e : Nat) : kids (gone1 T x d nm) e = kids T e := by
  have hl : (gone1 T x d nm).length = T.length + 1 := by unfold gone1; rw [len_set]; simp
  unfold kids
  have hi : kidsI (gone1 T x d nm) e = kidsI T e := by
    unfold kidsI
    rw [hl, List.range_succ, List.filter_append]
    have h1 : [T.length].filter (fun i => isIn (gone1 T x d nm) e i) = [] := by
      simp [isIn, gone1_new]
    rw [h1, List.append_nil]
    refine List.filter_congr fun i hi => ?_
    unfold isIn
    rw [gone1_lt (List.mem_range.1 hi)]
  rw [hi]
  refine List.map_congr_left fun i hi => ?_
  unfold kidsI at hi
  rw [gone1_lt (List.mem_range.1 (List.mem_filter.1 hi).1)]
theorem plus_gone1 (h : WF T) (hd : Live T d) (hk : (nd T d).kind = 1) (hn : nameB nm = true) (hnz : ¬ Lo nm) (hc : child T d nm = none) (hx : x.kind = 1 ∨ x.kind = 2 ∨ x.kind = 3) (hdat : x.data = []) (hto : x.to.length ≤ 200) (hg : x.gone = false) : Plus T (gone1 T x d nm) := by
  have hw := wf_add h hd hk hn hc hx hdat hto hg
  have hT : 0 < T.length := by have := hd.1; omega
  have hln : Live (T ++ [newIt x d nm]) T.length := (live_app (x := newIt x d nm) hg).2 (.inr rfl)
  have hlow : ∀ i, 0 < i → Live (T ++ [newIt x d nm]) i → (nd (T ++ [newIt x d nm]) i).inn ≠ T.length := by
    intro i h0 hi he
    rcases (live_app (x := newIt x d nm) hg).1 hi with g | g
    · rw [nd_app_lt g.1] at he
      have := (h.par i h0 g).1.1; omega
    · subst g; rw [nd_app_new] at he
      have : d = T.length := he
      have := hd.1; omega
  have hw2 := wf_gone hw hln hT hlow
  refine ⟨fun i hi => by rw [gone1_lt hi.1], fun i hi => by rw [gone1_lt hi.1], fun e m hm => ?_⟩
  have hcg := child_gone hw hw2 hln hT e m
  have hnew : (nd (T ++ [newIt x d nm]) T.length).name = nm := by rw [nd_app_new]; rfl
  show child (setI _ _ _) e m = _
  have hno : ¬ (e = (nd (T ++ [newIt x d nm]) T.length).inn ∧ m = (nd (T ++ [newIt x d nm]) T.length).name) := fun g => by
    rw [hnew] at g
    exact hnz (g.2 ▸ hm)
  rw [if_neg hno] at hcg
  rw [hcg]
  exact (plus_add h hd hk hn hnz hc hx hdat hto hg).child e m hm
theorem lookR_gone1 (k : Int) (r : Except Int Nat) (hr : ∀ n, r = .ok n → n < T.length) : lookR (gone1 T x d nm) k r = lookR T k r := by
  rcases r with e | n
  · rfl
  · have := hr n rfl
    unfold lookR
    simp only []
    rw [gone1_lt this, kids_gone1]
end

def linkA (p : Byt) : Ac := ⟨10, zzP, p, 0, 0, []⟩
def remA : Ac := ⟨8, zzP, [], 0, 0, []⟩
/-- what a look by a link comes to -/
theorem linked {T : Wd} (h : WF T) (hz : LoT T) (p : Byt) (names : List Byt) (hc : clean p = .ok names) (hlo : LoL names) (hp0 : p ≠ []) (hpl : p.length ≤ 200) (k : Int) (hk : k = 7 ∨ k = 6 ∨ k = 4) :
    (actT T (linkA p)).2.code = 9 ∨
    ((actT T (linkA p)).2.code = 0 ∧
      ((actT (actT T (linkA p)).1 (lookA k zzP)).2.code = 13 ∨ (actT (actT T (linkA p)).1 (lookA k zzP)).2 = (actT (actT T (linkA p)).1 (lookA k p)).2) ∧
      (actT (actT (actT T (linkA p)).1 remA).1 (lookA k p)).2 = (actT T (lookA k p)).2) := by
  have hcl := clean_ok hc
  have hnc := no_child h hz 0 zzN zz_not
  have hfree := free_root h zz_clean hnc
  have hadd : actT T (linkA p) = snC (addT T zzP ⟨3, 0, [], [], p, false⟩) := by
    have : actT T (linkA p) = if p = [] ∨ 200 < p.length then (T, snE 1) else snC (addT T zzP ⟨3, 0, [], [], p, false⟩) := rfl
    rw [this, if_neg (by rintro (g | g); exact hp0 g; omega)]
  have had2 : addT T zzP ⟨3, 0, [], [], p, false⟩ = if 40 ≤ liveN T then (T, 9) else (T ++ [newIt ⟨3, 0, [], [], p, false⟩ 0 zzN], 0) := by
    unfold addT; rw [hfree]
  by_cases hfull : 40 ≤ liveN T
  · rw [if_pos hfull] at had2
    rw [hadd, had2]; exact .inl rfl
  rw [if_neg hfull] at had2
  obtain ⟨x, hx⟩ : ∃ x : It, x = ⟨3, 0, [], [], p, false⟩ := ⟨_, rfl⟩
  rw [← hx] at had2 hadd
  have e1 : actT T (linkA p) = (T ++ [newIt x 0 zzN], snE 0) := by rw [hadd, had2]; rfl
  have hxk : x.kind = 3 := by rw [hx]
  have hxt : x.to = p := by rw [hx]
  have hxd : x.data = [] := by rw [hx]
  have hxg : x.gone = false := by rw [hx]
  have hxl : x.to.length ≤ 200 := by rw [hxt]; exact hpl
  have hw1 := wf_add h h.root.1 h.root.2.1 zz_name hnc (.inr (.inr hxk)) hxd hxl hxg
  have hch := fun e m => child_add h hw1 h.root.1 hnc hxg e (.inr trivial) m
  have hnew := nd_app_new T (newIt x 0 zzN)
  have hr0 : nd (T ++ [newIt x 0 zzN]) 0 = nd T 0 := nd_app_lt h.root.1.1
  have hwalk : walkT (T ++ [newIt x 0 zzN]) [] 0 [zzN] = .link [] T.length [] := by
    rw [walkT_cons, hr0, if_pos h.root.2.1, hch, if_pos ⟨rfl, rfl⟩]
    simp only []
    rw [hnew, if_pos (show (newIt x 0 zzN).kind = 3 from hxk)]
  have hlead : leadT [] p [] = .ok names := by
    unfold leadT
    have : pfollow [] p = .ok names := by
      unfold pfollow
      rw [if_neg (by decide)]
      have e : (if p.head? = some 47 then ([] : List Byt) else []) = [] := by split <;> rfl
      rw [e]; exact hc
    rw [this]
    simp only []
    rw [if_neg (by have := hcl.1; simp; omega), List.append_nil]
  have hfz : findT (T ++ [newIt x 0 zzN]) true 8 [zzN] = findT (T ++ [newIt x 0 zzN]) true 7 names := by
    rw [findT_eq, hwalk]
    simp only []
    rw [if_neg (by simp), hnew, show (newIt x 0 zzN).to = p from hxt, hlead]
  have ho1 : openT (T ++ [newIt x 0 zzN]) zzP = findT (T ++ [newIt x 0 zzN]) true 7 names := by
    unfold openT; rw [zz_clean]; exact hfz
  have ho2 : openT (T ++ [newIt x 0 zzN]) p = findT (T ++ [newIt x 0 zzN]) true 8 names := by unfold openT; rw [hc]
  have how : ownT (T ++ [newIt x 0 zzN]) zzP = .ok T.length := by
    unfold ownT; rw [zz_clean]
    simp only []
    rw [if_neg (by simp), findT_eq, hwalk]
    simp
  have hrem : actT (T ++ [newIt x 0 zzN]) remA = (gone1 T x 0 zzN, snE 0) := by
    have : actT (T ++ [newIt x 0 zzN]) remA = snC (removeT (T ++ [newIt x 0 zzN]) zzP) := rfl
    rw [this]
    unfold removeT
    rw [how]
    simp only []
    rw [if_neg (by rw [hnew, show (newIt x 0 zzN).kind = 3 from hxk]; simp)]
    rfl
  refine .inr ⟨by rw [e1]; rfl, ?_, ?_⟩
  · rw [e1]
    simp only []
    rw [look_is _ _ _ hk, look_is _ _ _ hk, ho1, ho2]
    rcases findT_less (T ++ [newIt x 0 zzN]) 7 names with g | g
    · rw [g]; exact .inl rfl
    · rw [g]; exact .inr rfl
  · rw [e1]
    simp only []
    rw [hrem]
    simp only []
    rw [look_is _ _ _ hk, look_is _ _ _ hk]
    have hpl := plus_gone1 h h.root.1 h.root.2.1 zz_name zz_not hnc (.inr (.inr hxk)) hxd hxl hxg
    have hop : openT (gone1 T x 0 zzN) p = openT T p := by
      unfold openT; rw [hc]; exact findT_plus h hz hpl _ _ _ hlo
    rw [hop]
    exact lookR_gone1 k _ fun n hn => (openT_ok h hn).1.1

end Go.Proofs.YtdekpmidaleipaaDoor
