/-
  A move, and a move back. Mathematics alone.
-/
import Derived.Test.YtdekpmidaleipaaDoorTMore
namespace Go.Proofs.YtdekpmidaleipaaDoor
set_option linter.unusedVariables false
set_option linter.unusedSimpArgs false

/-- a walk with one name more -/
def walkOn (T : Wd) (x : Byt) (dn : List Byt) : Wk → Wk
  | .err e => .err e
  | .stop c => if (nd T c).kind = 1 then
      match child T c x with
      | none => .err 7
      | some c' => if (nd T c').kind = 3 then .link dn c' [] else .stop c'
    else .err 15
  | .link d c r => .link d c (r ++ [x])
theorem walkT_snoc (T : Wd) (x : Byt) : ∀ (l done : List Byt) (d : Nat), walkT T done d (l ++ [x]) = walkOn T x (done ++ l) (walkT T done d l)
  | [], done, d => by
    show walkT T done d [x] = walkOn T x (done ++ []) (.stop d)
    rw [walkT_cons, List.append_nil]
    show _ = (if _ then _ else _)
    by_cases h : (nd T d).kind = 1
    · rw [if_pos h, if_pos h]
      rcases child T d x with _ | c
      · rfl
      · simp only []; rfl
    · rw [if_neg h, if_neg h]
  | y :: r, done, d => by
    rw [List.cons_append, walkT_cons, walkT_cons]
    by_cases h : (nd T d).kind = 1
    · rw [if_pos h, if_pos h]
      rcases child T d y with _ | c
      · rfl
      · simp only []
        by_cases h3 : (nd T c).kind = 3
        · rw [if_pos h3, if_pos h3]; rfl
        · rw [if_neg h3, if_neg h3, walkT_snoc T x r]
          rw [List.append_assoc]; rfl
    · rw [if_neg h, if_neg h]; rfl
theorem lead_last {dn r o : List Byt} {t x : Byt} (h : leadT dn t (r ++ [x]) = .ok o) : ∃ o', leadT dn t r = .ok o' ∧ o = o' ++ [x] := by
  unfold leadT at h ⊢
  rcases hf : pfollow dn t with e | on
  · rw [hf] at h; cases h
  · rw [hf] at h
    simp only [] at h ⊢
    split at h
    · cases h
    · injection h with h
      rename_i hl
      rw [List.length_append] at hl
      simp only [List.length_cons, List.length_nil] at hl
      exact ⟨on ++ r, by rw [if_neg (by omega)], by rw [← h, List.append_assoc]⟩
/-- a node is found by its directory and its name -/
theorem find_last (T : Wd) : ∀ (k : Nat) (l : List Byt) (x : Byt) (n : Nat), findT T false k (l ++ [x]) = .ok n → ∃ d, findT T true k l = .ok d ∧ (nd T d).kind = 1 ∧ child T d x = some n := by
  intro k
  induction k with
  | zero =>
    intro l x n h
    rw [findT_eq, walkT_snoc] at h
    rw [findT_eq]
    rcases hw : walkT T [] 0 l with e | c | ⟨dn, c, r⟩
    · rw [hw] at h; cases h
    · rw [hw] at h
      refine ⟨c, rfl, ?_⟩
      simp only [walkOn] at h
      by_cases hk : (nd T c).kind = 1
      · rw [if_pos hk] at h
        rcases hc : child T c x with _ | c'
        · rw [hc] at h; cases h
        · rw [hc] at h
          simp only [] at h
          by_cases h3 : (nd T c').kind = 3
          · rw [if_pos h3] at h
            simp at h
            exact ⟨hk, by rw [h]⟩
          · rw [if_neg h3] at h
            injection h with h
            exact ⟨hk, by rw [h]⟩
      · rw [if_neg hk] at h; cases h
    · rw [hw] at h
      simp [walkOn] at h
  | succ k ih =>
    intro l x n h
    rw [findT_eq, walkT_snoc] at h
    rw [findT_eq]
    rcases hw : walkT T [] 0 l with e | c | ⟨dn, c, r⟩
    · rw [hw] at h; cases h
    · rw [hw] at h
      refine ⟨c, rfl, ?_⟩
      simp only [walkOn] at h
      by_cases hk : (nd T c).kind = 1
      · rw [if_pos hk] at h
        rcases hc : child T c x with _ | c'
        · rw [hc] at h; cases h
        · rw [hc] at h
          simp only [] at h
          by_cases h3 : (nd T c').kind = 3
          · rw [if_pos h3] at h
            simp at h
            exact ⟨hk, by rw [h]⟩
          · rw [if_neg h3] at h
            injection h with h
            exact ⟨hk, by rw [h]⟩
      · rw [if_neg hk] at h; cases h
    · rw [hw] at h
      simp only [walkOn] at h
      rw [if_neg (by simp)] at h
      simp only []
      rw [if_neg (by simp)]
      rcases hl : leadT dn (nd T c).to (r ++ [x]) with e | o
      · rw [hl] at h; cases h
      · rw [hl] at h
        obtain ⟨o', h1, rfl⟩ := lead_last hl
        rw [h1]
        exact ih _ _ _ h

/-- what is looked up there is the same, or nothing -/
structure Fewer (T T' : Wd) : Prop where
  kind : ∀ i, (nd T' i).kind = (nd T i).kind
  lk : ∀ i, (nd T' i).to = (nd T i).to
  child : ∀ e m c, child T e m = some c → child T' e m = some c ∨ child T' e m = none
theorem walkT_fewer {T T' : Wd} (h : Fewer T T') : ∀ (l done : List Byt) (d : Nat), walkT T' done d l = walkT T done d l ∨ (∃ e, walkT T' done d l = .err e) ∨ ∃ e, walkT T done d l = .err e
  | [], _, _ => .inl rfl
  | n :: r, done, d => by
    rw [walkT_cons, walkT_cons, h.kind]
    by_cases h1 : (nd T d).kind = 1
    · rw [if_pos h1, if_pos h1]
      rcases hc : child T d n with _ | c
      · exact .inr (.inr ⟨7, rfl⟩)
      · rcases h.child d n c hc with g | g
        · rw [g]
          simp only []
          rw [h.kind]
          by_cases h3 : (nd T c).kind = 3
          · rw [if_pos h3, if_pos h3]; exact .inl rfl
          · rw [if_neg h3, if_neg h3]; exact walkT_fewer h r _ c
        · rw [g]; exact .inr (.inl ⟨7, rfl⟩)
    · rw [if_neg h1, if_neg h1]; exact .inl rfl
theorem findT_fewer {T T' : Wd} (h : Fewer T T') (fo : Bool) : ∀ (k : Nat) (l : List Byt) (a b : Nat), findT T fo k l = .ok a → findT T' fo k l = .ok b → b = a := by
  intro k
  induction k with
  | zero =>
    intro l a b ha hb
    rw [findT_eq] at ha hb
    rcases walkT_fewer h l [] 0 with g | ⟨e, g⟩ | ⟨e, g⟩
    · rw [g] at hb
      have := ha.symm.trans hb
      injection this with this; exact this.symm
    · rw [g] at hb; cases hb
    · rw [g] at ha; cases ha
  | succ k ih =>
    intro l a b ha hb
    rw [findT_eq] at ha hb
    rcases walkT_fewer h l [] 0 with g | ⟨e, g⟩ | ⟨e, g⟩
    · rw [g] at hb
      rcases hw : walkT T [] 0 l with e | c | ⟨dn, c, r⟩
      · rw [hw] at ha; cases ha
      · rw [hw] at ha hb
        injection ha with ha; injection hb with hb
        omega
      · rw [hw] at ha hb
        simp only [] at ha hb
        by_cases hr : r = [] ∧ fo = false
        · rw [if_pos hr] at ha hb
          injection ha with ha; injection hb with hb
          omega
        · rw [if_neg hr] at ha hb
          rw [h.lk] at hb
          rcases hl : leadT dn (nd T c).to r with e | o
          · rw [hl] at ha; cases ha
          · rw [hl] at ha hb
            exact ih _ _ _ ha hb
    · rw [g] at hb; cases hb
    · rw [g] at ha; cases ha

def movA (p q : Byt) : Ac := ⟨9, p, q, 0, 0, []⟩
theorem mov_is (T : Wd) (p q : Byt) : actT T (movA p q) = snC (renameT T p q) := rfl
theorem own_last {T : Wd} {p : Byt} {n : Nat} (h : ownT T p = .ok n) : ∃ l x, clean p = .ok (l ++ [x]) ∧ findT T false 8 (l ++ [x]) = .ok n := by
  unfold ownT at h
  rcases hc : clean p with e | l
  · rw [hc] at h; cases h
  · rw [hc] at h
    simp only [] at h
    split at h
    · cases h
    · rename_i hne
      have e := List.dropLast_concat_getLast hne
      exact ⟨_, _, by rw [e], by rw [e]; exact h⟩
theorem free_last {T : Wd} {q nm : Byt} {d : Nat} (h : freeT T q = .ok (d, nm)) : ∃ l, clean q = .ok (l ++ [nm]) ∧ findT T true 8 l = .ok d := by
  unfold freeT at h
  rcases hc : clean q with e | l
  · rw [hc] at h; cases h
  · rw [hc] at h
    simp only [] at h
    unfold spotT at h
    split at h
    · cases h
    · rename_i hne
      have e := List.dropLast_concat_getLast hne
      have hgl : l.getLastD [] = l.getLast hne := by rw [List.getLastD_eq_getLast?, List.getLast?_eq_some_getLast hne]; rfl
      rcases hd : dirT T l.dropLast with x | d'
      · rw [hd] at h; cases h
      · rw [hd] at h
        simp only [] at h
        split at h
        · cases h
        · injection h with h
          injection h with h1 h2
          subst h1
          rw [hgl] at h2
          refine ⟨l.dropLast, by rw [← h2, e], ?_⟩
          unfold dirT at hd
          rcases hf : findT T true 8 l.dropLast with x | d''
          · rw [hf] at hd; cases hd
          · rw [hf] at hd
            simp only [] at hd
            split at hd
            · injection hd with hd; rw [hd]
            · cases hd
theorem set_back (T : Wd) (n d e : Nat) (nm m : Byt) (hn : n < T.length) (hd : (nd T n).inn = e) (hm : (nd T n).name = m) : setI (setI T n { nd T n with inn := d, name := nm }) n { nd (setI T n { nd T n with inn := d, name := nm }) n with inn := e, name := m } = T := by
  rw [nd_set_same hn]
  unfold setI
  rw [List.set_set]
  have hx : T[n]? = some (nd T n) := by
    unfold nd; rw [List.getD_eq_getElem?_getD, List.getElem?_eq_getElem hn]; rfl
  have hy : ({ nd T n with inn := e, name := m } : It) = nd T n := by
    subst hd; subst hm; rfl
  show T.set n { nd T n with inn := e, name := m } = T
  rw [hy]
  refine List.ext_getElem? fun i => ?_
  rw [List.getElem?_set]
  split
  · rename_i h; subst h
    first | rw [hx] | rw [if_pos hn, hx]
  · rfl
open Classical in
/-- a move that is done is not done again; and a move back leaves all as it was -/
theorem moved {T : Wd} (h : WF T) (p q : Byt) (hm : (actT T (movA p q)).2.code = 0) :
    (actT (actT T (movA p q)).1 (movA p q)).2.code ≠ 0 ∧ ((actT (actT T (movA p q)).1 (movA q p)).2.code = 0 → (actT (actT T (movA p q)).1 (movA q p)).1 = T) := by
  rw [mov_is] at hm
  rw [mov_is T]
  unfold renameT at hm ⊢
  rcases ho : ownT T p with e | n
  · rw [ho] at hm
    have := ownT_code h ho
    exact absurd (show e = 0 from hm) (by simpa using this)
  rw [ho] at hm
  simp only [] at hm ⊢
  rcases hf : freeT T q with e | ⟨d, nm⟩
  · rw [hf] at hm
    have := freeT_code h hf
    exact absurd (show e = 0 from hm) (by simpa using this)
  rw [hf] at hm
  simp only [] at hm ⊢
  by_cases hu : Under T n d
  · rw [if_pos hu] at hm
    exact absurd (show (4 : Int) = 0 from hm) (by decide)
  rw [if_neg hu]
  obtain ⟨h1, h2⟩ := ownT_ok h ho
  obtain ⟨k1, k2, k3, k4⟩ := freeT_ok h hf
  have hw := wf_move h h1 h2 k1 k2 k3 k4 hu
  have hch := child_move h hw h1 h2 k4
  obtain ⟨T1, hT1⟩ : ∃ T1, T1 = setI T n { nd T n with inn := d, name := nm } := ⟨_, rfl⟩
  have hback := fun e m => set_back T n d e nm m h1.1
  have hkk := fun i => (nd_move (T := T) (n := n) (d := d) (nm := nm) i h1.1)
  rw [← hT1] at hw hch hback hkk ⊢
  have hfew : Fewer T T1 := ⟨fun i => (hkk i).1, fun i => (hkk i).2.2.2.1, fun e m c hc => by
    rw [hch]
    by_cases g1 : e = d ∧ m = nm
    · rw [g1.1, g1.2, k4] at hc; cases hc
    · rw [if_neg g1]
      split
      · exact .inr rfl
      · exact .inl hc⟩
  obtain ⟨lp, xp, hcp, hfp⟩ := own_last ho
  obtain ⟨d0, hd0, hdk, hdc⟩ := find_last T 8 lp xp n hfp
  obtain ⟨-, -, hin, hnm⟩ := child_is h hdc
  obtain ⟨lq, hcq, hfq⟩ := free_last hf
  show (snC (renameT T1 p q)).2.code ≠ 0 ∧ ((snC (renameT T1 q p)).2.code = 0 → (snC (renameT T1 q p)).1 = T)
  constructor
  · unfold renameT
    rcases ho1 : ownT T1 p with e | n1
    · have := ownT_code hw ho1
      show e ≠ 0
      simpa using this
    · exfalso
      obtain ⟨l', x', hc', hf'⟩ := own_last ho1
      rw [hcp] at hc'
      injection hc' with hc'
      rw [← hc'] at hf'
      obtain ⟨d1, hd1, hdk1, hdc1⟩ := find_last T1 8 lp xp n1 hf'
      have := findT_fewer hfew true 8 lp d0 d1 hd0 hd1
      subst this
      rw [hch] at hdc1
      by_cases g1 : d1 = d ∧ xp = nm
      · rw [g1.1, g1.2, k4] at hdc; cases hdc
      · rw [if_neg g1, if_pos ⟨hin.symm, hnm.symm⟩] at hdc1; cases hdc1
  · intro hc0
    unfold renameT at hc0 ⊢
    rcases ho1 : ownT T1 q with e | n1
    · rw [ho1] at hc0
      have := ownT_code hw ho1
      exact absurd (show e = 0 from hc0) (by simpa using this)
    rw [ho1] at hc0
    simp only [] at hc0 ⊢
    rcases hf1 : freeT T1 p with e | ⟨d3, nm3⟩
    · rw [hf1] at hc0
      have := freeT_code hw hf1
      exact absurd (show e = 0 from hc0) (by simpa using this)
    rw [hf1] at hc0
    simp only [] at hc0 ⊢
    by_cases hu1 : Under T1 n1 d3
    · rw [if_pos hu1] at hc0
      exact absurd (show (4 : Int) = 0 from hc0) (by decide)
    rw [if_neg hu1]
    obtain ⟨l', x', hc', hf'⟩ := own_last ho1
    rw [hcq] at hc'
    injection hc' with hc'
    rw [← hc'] at hf'
    obtain ⟨d1, hd1, hdk1, hdc1⟩ := find_last T1 8 lq nm n1 hf'
    have := findT_fewer hfew true 8 lq d d1 hfq hd1
    subst this
    rw [hch, if_pos ⟨rfl, rfl⟩] at hdc1
    injection hdc1 with hdc1
    subst hdc1
    obtain ⟨l3, hc3, hf3⟩ := free_last hf1
    rw [hcp] at hc3
    injection hc3 with hc3
    obtain ⟨hc3, hx3⟩ := List.append_inj' hc3 rfl
    subst hc3
    injection hx3 with hx3
    subst hx3
    have := findT_fewer hfew true 8 lp d0 d3 hd0 hf3
    subst this
    show setI T1 n _ = T
    exact hback _ _ hin hnm

end Go.Proofs.YtdekpmidaleipaaDoor
