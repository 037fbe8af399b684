/-
  A link at /zz: what is looked up by it. Mathematics alone.
-/
import Derived.Test.YtdekpmidaleipaaDoorTLinkMath
namespace Go.Proofs.YtdekpmidaleipaaDoor
set_option linter.unusedVariables false
set_option linter.unusedSimpArgs false

def zzN : Byt := [122, 122]
def zzP : Byt := [47, 122, 122]
theorem zz_clean : clean zzP = .ok [zzN] := by rfl
theorem zz_name : nameB zzN = true := by rfl
/-- a name with a 'z' is none of the tree's -/
theorem no_child {T : Wd} (h : WF T) (hz : LoT T) (d : Nat) (nm : Byt) (hn : ¬ Lo nm) : child T d nm = none := by
  refine (child_none h).2 fun i _ _ _ he => hn ?_
  rw [← he]; exact (hz i).1
theorem zz_not : ¬ Lo zzN := fun h => absurd (h 122 (by simp [zzN])) (by decide)
/-- a new name in the root -/
theorem free_root {T : Wd} (h : WF T) {p nm : Byt} (hc : clean p = .ok [nm]) (hn : child T 0 nm = none) : freeT T p = .ok (0, nm) := by
  unfold freeT
  rw [hc]
  show spotT T [nm] = _
  unfold spotT
  rw [if_neg (by simp)]
  have hd : dirT T ([nm] : List Byt).dropLast = .ok 0 := by
    show dirT T [] = _
    unfold dirT
    have : findT T true 8 [] = .ok 0 := by rw [findT_eq]; rfl
    rw [this]
    simp only []
    rw [if_pos h.root.2.1]
  rw [hd]
  simp only []
  have hl : ([nm] : List Byt).getLastD [] = nm := rfl
  rw [hl, hn]; rfl

section
variable {T : Wd} {x : It} {d : Nat} {nm : Byt}
theorem plus_add (h : WF T) (hd : Live T d) (hk : (nd T d).kind = 1) (hn : nameB nm = true) (hnz : ¬ Lo nm) (hc : child T d nm = none) (hx : x.kind = 1 ∨ x.kind = 2 ∨ x.kind = 3) (hdat : x.data = []) (hto : x.to.length ≤ 200) (hg : x.gone = false) : Plus T (T ++ [newIt x d nm]) := by
  have hw := wf_add h hd hk hn hc hx hdat hto hg
  refine ⟨fun i hi => by rw [nd_app_lt hi.1], fun i hi => by rw [nd_app_lt hi.1], fun e m hm => ?_⟩
  rw [child_add h hw hd hc hg e (.inr trivial) m, if_neg (show ¬ (e = d ∧ m = nm) from fun g => hnz (g.2 ▸ hm))]
/-- made and gone again: as it was, but for a node that is gone -/
def gone1 (T : Wd) (x : It) (d : Nat) (nm : Byt) : Wd := setI (T ++ [newIt x d nm]) T.length { nd (T ++ [newIt x d nm]) T.length with gone := true }
theorem gone1_lt {i : Nat} (h : i < T.length) : nd (gone1 T x d nm) i = nd T i := by
  unfold gone1; rw [nd_set_other (by omega), nd_app_lt h]
theorem gone1_new : (nd (gone1 T x d nm) T.length).gone = true := by
  unfold gone1; rw [nd_set_same (by simp)]
theorem kids_gone1 (e : Nat) : kids (gone1 T x d nm) e = kids T e := by
  have hl : (gone1 T x d nm).length = T.length + 1 := by unfold gone1; rw [len_set]; simp
  unfold kids
  have hi : kidsI (gone1 T x d nm) e = kidsI T e := by
    unfold kidsI
    rw [hl, List.range_succ, List.filter_append]
    have h1 : [T.length].filter (fun i => isIn (gone1 T x d nm) e i) = [] := by
      simp [isIn, gone1_new]
    rw [h1, List.append_nil]
    refine List.filter_congr fun i hi => ?_
    unfold isIn
    rw [gone1_lt (List.mem_range.1 hi)]
  rw [hi]
  refine List.map_congr_left fun i hi => ?_
  unfold kidsI at hi
  rw [gone1_lt (List.mem_range.1 (List.mem_filter.1 hi).1)]
theorem plus_gone1 (h : WF T) (hd : Live T d) (hk : (nd T d).kind = 1) (hn : nameB nm = true) (hnz : ¬ Lo nm) (hc : child T d nm = none) (hx : x.kind = 1 ∨ x.kind = 2 ∨ x.kind = 3) (hdat : x.data = []) (hto : x.to.length ≤ 200) (hg : x.gone = false) : Plus T (gone1 T x d nm) := by
  have hw := wf_add h hd hk hn hc hx hdat hto hg
  have hT : 0 < T.length := by have := hd.1; omega
  have hln : Live (T ++ [newIt x d nm]) T.length := (live_app (x := newIt x d nm) hg).2 (.inr rfl)
  have hlow : ∀ i, 0 < i → Live (T ++ [newIt x d nm]) i → (nd (T ++ [newIt x d nm]) i).inn ≠ T.length := by
    intro i h0 hi he
    rcases (live_app (x := newIt x d nm) hg).1 hi with g | g
    · rw [nd_app_lt g.1] at he
      have := (h.par i h0 g).1.1; omega
    · subst g; rw [nd_app_new] at he
      have : d = T.length := he
      have := hd.1; omega
  have hw2 := wf_gone hw hln hT hlow
  refine ⟨fun i hi => by rw [gone1_lt hi.1], fun i hi => by rw [gone1_lt hi.1], fun e m hm => ?_⟩
  have hcg := child_gone hw hw2 hln hT e m
  have hnew : (nd (T ++ [newIt x d nm]) T.length).name = nm := by rw [nd_app_new]; rfl
  show child (setI _ _ _) e m = _
  have hno : ¬ (e = (nd (T ++ [newIt x d nm]) T.length).inn ∧ m = (nd (T ++ [newIt x d nm]) T.length).name) := fun g => by
    rw [hnew] at g
    exact hnz (g.2 ▸ hm)
  rw [if_neg hno] at hcg
  rw [hcg]
  exact (plus_add h hd hk hn hnz hc hx hdat hto hg).child e m hm
theorem lookR_gone1 (k : Int) (r : Except Int Nat) (hr : ∀ n, r = .ok n → n < T.length) : lookR (gone1 T x d nm) k r = lookR T k r := by
  rcases r with e | n
  · rfl
  · have := hr n rfl
    unfold lookR
    simp only []
    rw [gone1_lt this, kids_gone1]
end

def linkA (p : Byt) : Ac := ⟨10, zzP, p, 0, 0, []⟩
def remA : Ac := ⟨8, zzP, [], 0, 0, []⟩
/-- what a look by a link comes to -/
theorem linked {T : Wd} (h : WF T) (hz : LoT T) (p : Byt) (names : List Byt) (hc : clean p = .ok names) (hlo : LoL names) (hp0 : p ≠ []) (hpl : p.length ≤ 200) (k : Int) (hk : k = 7 ∨ k = 6 ∨ k = 4) :
    (actT T (linkA p)).2.code = 9 ∨
    ((actT T (linkA p)).2.code = 0 ∧
      ((actT (actT T (linkA p)).1 (lookA k zzP)).2.code = 13 ∨ (actT (actT T (linkA p)).1 (lookA k zzP)).2 = (actT (actT T (linkA p)).1 (lookA k p)).2) ∧
      (actT (actT (actT T (linkA p)).1 remA).1 (lookA k p)).2 = (actT T (lookA k p)).2) := by
  have hcl := clean_ok hc
  have hnc := no_child h hz 0 zzN zz_not
  have hfree := free_root h zz_clean hnc
  have hadd : actT T (linkA p) = snC (addT T zzP ⟨3, 0, [], [], p, false⟩) := by
    have : actT T (linkA p) = if p = [] ∨ 200 < p.length then (T, snE 1) else snC (addT T zzP ⟨3, 0, [], [], p, false⟩) := rfl
    rw [this, if_neg (by rintro (g | g); exact hp0 g; omega)]
  have had2 : addT T zzP ⟨3, 0, [], [], p, false⟩ = if 40 ≤ liveN T then (T, 9) else (T ++ [newIt ⟨3, 0, [], [], p, false⟩ 0 zzN], 0) := by
    unfold addT; rw [hfree]
  by_cases hfull : 40 ≤ liveN T
  · rw [if_pos hfull] at had2
    rw [hadd, had2]; exact .inl rfl
  rw [if_neg hfull] at had2
  obtain ⟨x, hx⟩ : ∃ x : It, x = ⟨3, 0, [], [], p, false⟩ := ⟨_, rfl⟩
  rw [← hx] at had2 hadd
  have e1 : actT T (linkA p) = (T ++ [newIt x 0 zzN], snE 0) := by rw [hadd, had2]; rfl
  have hxk : x.kind = 3 := by rw [hx]
  have hxt : x.to = p := by rw [hx]
  have hxd : x.data = [] := by rw [hx]
  have hxg : x.gone = false := by rw [hx]
  have hxl : x.to.length ≤ 200 := by rw [hxt]; exact hpl
  have hw1 := wf_add h h.root.1 h.root.2.1 zz_name hnc (.inr (.inr hxk)) hxd hxl hxg
  have hch := fun e m => child_add h hw1 h.root.1 hnc hxg e (.inr trivial) m
  have hnew := nd_app_new T (newIt x 0 zzN)
  have hr0 : nd (T ++ [newIt x 0 zzN]) 0 = nd T 0 := nd_app_lt h.root.1.1
  have hwalk : walkT (T ++ [newIt x 0 zzN]) [] 0 [zzN] = .link [] T.length [] := by
    rw [walkT_cons, hr0, if_pos h.root.2.1, hch, if_pos ⟨rfl, rfl⟩]
    simp only []
    rw [hnew, if_pos (show (newIt x 0 zzN).kind = 3 from hxk)]
  have hlead : leadT [] p [] = .ok names := by
    unfold leadT
    have : pfollow [] p = .ok names := by
      unfold pfollow
      rw [if_neg (by decide)]
      have e : (if p.head? = some 47 then ([] : List Byt) else []) = [] := by split <;> rfl
      rw [e]; exact hc
    rw [this]
    simp only []
    rw [if_neg (by have := hcl.1; simp; omega), List.append_nil]
  have hfz : findT (T ++ [newIt x 0 zzN]) true 8 [zzN] = findT (T ++ [newIt x 0 zzN]) true 7 names := by
    rw [findT_eq, hwalk]
    simp only []
    rw [if_neg (by simp), hnew, show (newIt x 0 zzN).to = p from hxt, hlead]
  have ho1 : openT (T ++ [newIt x 0 zzN]) zzP = findT (T ++ [newIt x 0 zzN]) true 7 names := by
    unfold openT; rw [zz_clean]; exact hfz
  have ho2 : openT (T ++ [newIt x 0 zzN]) p = findT (T ++ [newIt x 0 zzN]) true 8 names := by unfold openT; rw [hc]
  have how : ownT (T ++ [newIt x 0 zzN]) zzP = .ok T.length := by
    unfold ownT; rw [zz_clean]
    simp only []
    rw [if_neg (by simp), findT_eq, hwalk]
    simp
  have hrem : actT (T ++ [newIt x 0 zzN]) remA = (gone1 T x 0 zzN, snE 0) := by
    have : actT (T ++ [newIt x 0 zzN]) remA = snC (removeT (T ++ [newIt x 0 zzN]) zzP) := rfl
    rw [this]
    unfold removeT
    rw [how]
    simp only []
    rw [if_neg (by rw [hnew, show (newIt x 0 zzN).kind = 3 from hxk]; simp)]
    rfl
  refine .inr ⟨by rw [e1]; rfl, ?_, ?_⟩
  · rw [e1]
    simp only []
    rw [look_is _ _ _ hk, look_is _ _ _ hk, ho1, ho2]
    rcases findT_less (T ++ [newIt x 0 zzN]) 7 names with g | g
    · rw [g]; exact .inl rfl
    · rw [g]; exact .inr rfl
  · rw [e1]
    simp only []
    rw [hrem]
    simp only []
    rw [look_is _ _ _ hk, look_is _ _ _ hk]
    have hpl := plus_gone1 h h.root.1 h.root.2.1 zz_name zz_not hnc (.inr (.inr hxk)) hxd hxl hxg
    have hop : openT (gone1 T x 0 zzN) p = openT T p := by
      unfold openT; rw [hc]; exact findT_plus h hz hpl _ _ _ hlo
    rw [hop]
    exact lookR_gone1 k _ fun n hn => (openT_ok h hn).1.1

end Go.Proofs.YtdekpmidaleipaaDoor
