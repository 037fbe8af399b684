/-
  The tree as a list of nodes: what finding a path comes to, and each act. Mathematics alone.
-/
import Derived.Test.YthjpighlcalocaaGreatDoorPathMath
namespace Go.Proofs.YthjpighlcalocaaGreatDoor
set_option linter.unusedVariables false
set_option linter.unusedSimpArgs false

/-- a node: 1 a directory, 2 a file, 3 a link; where it stands -/
structure It where
  kind : Nat
  inn : Nat
  name : Byt
  data : List Int
  to : Byt
  gone : Bool
def it0 : It := ⟨1, 0, [], [], [], false⟩
abbrev Wd := List It
def nd (T : Wd) (i : Nat) : It := T.getD i it0
def Live (T : Wd) (i : Nat) : Prop := i < T.length ∧ (nd T i).gone = false
/-- whether node i stands in d -/
def isIn (T : Wd) (d i : Nat) : Bool := decide (0 < i) && (!(nd T i).gone && decide ((nd T i).inn = d))
def child (T : Wd) (d : Nat) (nm : Byt) : Option Nat := (List.range T.length).find? fun i => isIn T d i && decide ((nd T i).name = nm)
def kidsI (T : Wd) (d : Nat) : List Nat := (List.range T.length).filter fun i => isIn T d i
def kids (T : Wd) (d : Nat) : List Byt := (kidsI T d).map fun i => (nd T i).name
def sorted (l : List Byt) : List Byt := l.mergeSort fun x y => decide (x ≤ y)
def liveN (T : Wd) : Nat := (T.filter fun x => !x.gone).length

/-- how far names lead: refused, to a node, to a link -/
inductive Wk where
  | err (e : Int)
  | stop (c : Nat)
  | link (done : List Byt) (c : Nat) (rest : List Byt)
def walkT (T : Wd) (done : List Byt) (d : Nat) : List Byt → Wk
  | [] => .stop d
  | n :: r =>
    if (nd T d).kind = 1 then
      match child T d n with
      | none => .err 7
      | some c => if (nd T c).kind = 3 then .link done c r else walkT T (done ++ [n]) c r
    else .err 15
/-- what is looked up behind a link -/
def leadT (done : List Byt) (to : Byt) (rest : List Byt) : Except Int (List Byt) :=
  match pfollow done to with
  | .error e => .error e
  | .ok on => if 12 < on.length + rest.length then .error 9 else .ok (on ++ rest)
def findT (T : Wd) (follow : Bool) : Nat → List Byt → Except Int Nat
  | k, names =>
    match walkT T [] 0 names with
    | .err e => .error e
    | .stop c => .ok c
    | .link done c rest =>
      if rest = [] ∧ follow = false then .ok c else
      match k with
      | 0 => .error 13
      | k + 1 =>
        match leadT done (nd T c).to rest with
        | .error e => .error e
        | .ok names' => findT T follow k names'
def dirT (T : Wd) (names : List Byt) : Except Int Nat :=
  match findT T true 8 names with
  | .error e => .error e
  | .ok d => if (nd T d).kind = 1 then .ok d else .error 15
/-- the directory and the last name of a path where nothing is -/
def spotT (T : Wd) (names : List Byt) : Except Int (Nat × Byt) :=
  if names = [] then .error 8 else
  match dirT T names.dropLast with
  | .error e => .error e
  | .ok d => if (child T d (names.getLastD [])).isSome then .error 8 else .ok (d, names.getLastD [])

structure Ac where
  kind : Int
  path : Byt
  to : Byt
  at_ : Int
  count : Int
  data : List Int
structure Sn where
  code : Int
  kind : Int
  size : Int
  data : List Int
  names : List Byt
def snE (e : Int) : Sn := ⟨e, 0, 0, [], []⟩
def clean (p : Byt) : Except Int (List Byt) := pfrom [] p

def freeT (T : Wd) (p : Byt) : Except Int (Nat × Byt) :=
  match clean p with
  | .error e => .error e
  | .ok names => spotT T names
def openT (T : Wd) (p : Byt) : Except Int Nat :=
  match clean p with
  | .error e => .error e
  | .ok names => findT T true 8 names
def ownT (T : Wd) (p : Byt) : Except Int Nat :=
  match clean p with
  | .error e => .error e
  | .ok names => if names = [] then .error 14 else findT T false 8 names

def newIt (x : It) (d : Nat) (nm : Byt) : It := { x with inn := d, name := nm }
def addT (T : Wd) (p : Byt) (x : It) : Wd × Int :=
  match freeT T p with
  | .error e => (T, e)
  | .ok (d, nm) => if 40 ≤ liveN T then (T, 9) else (T ++ [newIt x d nm], 0)
def fits (n : Int) : Bool := decide (0 ≤ n ∧ n ≤ 2048)
def zeros (n : Nat) : List Int := List.replicate n 0
def resized (l : List Int) (n : Nat) : List Int := l.take n ++ zeros (n - l.length)
/-- bytes laid over others from a place on -/
def laid (l : List Int) (k : Nat) (d : List Int) : List Int :=
  (resized l (max l.length (k + d.length))).take k ++ d ++ (resized l (max l.length (k + d.length))).drop (k + d.length)
def setI (T : Wd) (i : Nat) (x : It) : Wd := T.set i x
/-- node n is d, or d stands within it -/
inductive Under (T : Wd) (n : Nat) : Nat → Prop
  | refl : Under T n n
  | step {d : Nat} : 0 < d → Under T n (nd T d).inn → Under T n d
def fileT (T : Wd) (n : Nat) (a : Ac) : Wd × Sn :=
  if a.kind = 3 then
    if fits a.at_ = false then (T, snE 2)
    else if 2048 - a.at_ < a.data.length then (T, snE 11)
    else (setI T n { nd T n with data := laid (nd T n).data a.at_.toNat a.data }, ⟨0, 0, (laid (nd T n).data a.at_.toNat a.data).length, [], []⟩)
  else if a.kind = 4 then
    if fits a.at_ = false ∨ fits a.count = false then (T, snE 2)
    else (T, ⟨0, 0, 0, ((nd T n).data.drop a.at_.toNat).take a.count.toNat, []⟩)
  else
    if fits a.count = false then (T, snE 2)
    else (setI T n { nd T n with data := resized (nd T n).data a.count.toNat }, ⟨0, 0, (resized (nd T n).data a.count.toNat).length, [], []⟩)
def workT (T : Wd) (a : Ac) : Wd × Sn :=
  match openT T a.path with
  | .error e => (T, snE e)
  | .ok n => if (nd T n).kind = 2 then fileT T n a else (T, snE 14)
def statT (T : Wd) (p : Byt) : Sn :=
  match openT T p with
  | .error e => snE e
  | .ok n => if (nd T n).kind = 1 then ⟨0, 1, ((kids T n).length : Nat), [], []⟩ else ⟨0, 2, ((nd T n).data.length : Nat), [], []⟩
def listT (T : Wd) (p : Byt) : Sn :=
  match openT T p with
  | .error e => snE e
  | .ok n => if (nd T n).kind = 1 then ⟨0, 0, 0, [], sorted (kids T n)⟩ else snE 15
def removeT (T : Wd) (p : Byt) : Wd × Int :=
  match ownT T p with
  | .error e => (T, e)
  | .ok n => if (nd T n).kind = 1 ∧ kids T n ≠ [] then (T, 16) else (setI T n { nd T n with gone := true }, 0)
open Classical in
noncomputable def renameT (T : Wd) (p q : Byt) : Wd × Int :=
  match ownT T p with
  | .error e => (T, e)
  | .ok n =>
    match freeT T q with
    | .error e => (T, e)
    | .ok (d, nm) => if Under T n d then (T, 4) else (setI T n { nd T n with inn := d, name := nm }, 0)
def snC (r : Wd × Int) : Wd × Sn := (r.1, snE r.2)
noncomputable def actT (T : Wd) (a : Ac) : Wd × Sn :=
  if a.kind = 1 then snC (addT T a.path ⟨1, 0, [], [], [], false⟩)
  else if a.kind = 2 then snC (addT T a.path ⟨2, 0, [], [], [], false⟩)
  else if a.kind = 10 then
    if a.to = [] ∨ 200 < a.to.length then (T, snE 1) else snC (addT T a.path ⟨3, 0, [], [], a.to, false⟩)
  else if a.kind = 3 ∨ a.kind = 4 ∨ a.kind = 5 then workT T a
  else if a.kind = 6 then (T, statT T a.path)
  else if a.kind = 7 then (T, listT T a.path)
  else if a.kind = 8 then snC (removeT T a.path)
  else if a.kind = 9 then snC (renameT T a.path a.to)
  else (T, snE 3)
noncomputable def actsT : Wd → List Ac → Wd
  | T, [] => T
  | T, a :: r => actsT (actT T a).1 r
noncomputable def seenT : Wd → List Ac → List Sn
  | _, [] => []
  | T, a :: r => (actT T a).2 :: seenT (actT T a).1 r
def root0 : Wd := [⟨1, 0, [], [], [], false⟩]

/-- how deep a node stands -/
inductive Dep (T : Wd) : Nat → Nat → Prop
  | root : Dep T 0 0
  | step {i k : Nat} : 0 < i → Live T i → Dep T (nd T i).inn k → Dep T i (k + 1)
structure WF (T : Wd) : Prop where
  root : Live T 0 ∧ (nd T 0).kind = 1 ∧ (nd T 0).name = []
  par : ∀ i, 0 < i → Live T i → Live T (nd T i).inn ∧ (nd T (nd T i).inn).kind = 1
  one : ∀ i j, 0 < i → 0 < j → Live T i → Live T j → (nd T i).inn = (nd T j).inn → (nd T i).name = (nd T j).name → i = j
  kin : ∀ i, Live T i → (nd T i).kind = 1 ∨ (nd T i).kind = 2 ∨ (nd T i).kind = 3
  nam : ∀ i, 0 < i → Live T i → nameB (nd T i).name = true
  dep : ∀ i, Live T i → ∃ k, Dep T i k
  dat : ∀ i, Live T i → (nd T i).data.length ≤ 2048 ∧ ∀ z ∈ (nd T i).data, 0 ≤ z ∧ z ≤ 255
  lnk : ∀ i, Live T i → (nd T i).to.length ≤ 200

theorem isIn_is {T : Wd} {d i : Nat} : isIn T d i = true ↔ 0 < i ∧ (nd T i).gone = false ∧ (nd T i).inn = d := by simp [isIn]
theorem child_some {T : Wd} (h : WF T) {d i : Nat} {nm : Byt} : child T d nm = some i ↔ 0 < i ∧ Live T i ∧ (nd T i).inn = d ∧ (nd T i).name = nm := by
  constructor
  · intro hc
    have h1 := List.find?_some hc
    have h2 := List.mem_of_find?_eq_some hc
    simp only [Bool.and_eq_true, decide_eq_true_eq] at h1
    obtain ⟨g0, g1, g2⟩ := isIn_is.1 h1.1
    exact ⟨g0, ⟨List.mem_range.1 h2, g1⟩, g2, h1.2⟩
  · rintro ⟨h0, hl, hd, hn⟩
    rcases hc : child T d nm with _ | j
    · have := List.find?_eq_none.1 hc i (List.mem_range.2 hl.1)
      simp only [Bool.and_eq_true, decide_eq_true_eq, not_and] at this
      exact absurd hn (this (isIn_is.2 ⟨h0, hl.2, hd⟩))
    · have h1 := List.find?_some hc
      have h2 := List.mem_of_find?_eq_some hc
      simp only [Bool.and_eq_true, decide_eq_true_eq] at h1
      obtain ⟨g0, g1, g2⟩ := isIn_is.1 h1.1
      rw [h.one j i g0 h0 ⟨List.mem_range.1 h2, g1⟩ hl (by rw [g2, hd]) (by rw [h1.2, hn])]
theorem child_none {T : Wd} (h : WF T) {d : Nat} {nm : Byt} : child T d nm = none ↔ ∀ i, 0 < i → Live T i → (nd T i).inn = d → (nd T i).name ≠ nm := by
  constructor
  · intro hc i h0 hl hd hn
    rw [(child_some h).2 ⟨h0, hl, hd, hn⟩] at hc; cases hc
  · intro hc
    rcases hk : child T d nm with _ | j
    · rfl
    · obtain ⟨g0, g1, g2, g3⟩ := (child_some h).1 hk
      exact absurd g3 (hc j g0 g1 g2)
theorem mem_kids {T : Wd} (h : WF T) {d : Nat} {nm : Byt} : nm ∈ kids T d ↔ (child T d nm).isSome := by
  unfold kids kidsI
  rw [List.mem_map]
  constructor
  · rintro ⟨i, hi, rfl⟩
    rw [List.mem_filter] at hi
    obtain ⟨g0, g1, g2⟩ := isIn_is.1 hi.2
    rw [(child_some h).2 ⟨g0, ⟨List.mem_range.1 hi.1, g1⟩, g2, rfl⟩]; rfl
  · intro hs
    obtain ⟨i, hi⟩ := Option.isSome_iff_exists.1 hs
    obtain ⟨g0, g1, g2, g3⟩ := (child_some h).1 hi
    exact ⟨i, List.mem_filter.2 ⟨List.mem_range.2 g1.1, isIn_is.2 ⟨g0, g1.2, g2⟩⟩, g3⟩
theorem kids_nodup {T : Wd} (h : WF T) (d : Nat) : (kids T d).Nodup := by
  unfold kids
  have hn : (kidsI T d).Nodup := List.Pairwise.filter _ List.nodup_range
  refine List.pairwise_map.2 (List.Pairwise.imp_of_mem ?_ hn)
  intro i j hi hj hne he
  unfold kidsI at hi hj
  rw [List.mem_filter] at hi hj
  obtain ⟨g0, g1, g2⟩ := isIn_is.1 hi.2
  obtain ⟨k0, k1, k2⟩ := isIn_is.1 hj.2
  exact hne (h.one i j g0 k0 ⟨List.mem_range.1 hi.1, g1⟩ ⟨List.mem_range.1 hj.1, k1⟩ (by rw [g2, k2]) he)
theorem kids_length {T : Wd} (d : Nat) : (kids T d).length ≤ T.length := by
  unfold kids kidsI
  rw [List.length_map]
  exact Nat.le_trans (List.length_filter_le _ _) (by rw [List.length_range]; exact Nat.le_refl _)

/-! what may be told against paths -/
theorem pfold_code : ∀ (ps out : List Byt) (c : Int), pfold out ps = .error c → c = 4 ∨ c = 9
  | [], out, c, h => by cases h
  | p :: r, out, c, h => by
    simp only [pfold] at h
    rcases hs : pstep out p with e | o
    · rw [hs] at h
      injection h with h
      subst h
      unfold pstep at hs
      split at hs
      · cases hs
      · split at hs
        · cases hs
        · split at hs
          · injection hs with hs; omega
          · split at hs
            · injection hs with hs; omega
            · cases hs
    · rw [hs] at h
      exact pfold_code r o c h
theorem pfrom_code {out : List Byt} {p : Byt} {c : Int} (h : pfrom out p = .error c) : c = 1 ∨ c = 4 ∨ c = 9 := by
  unfold pfrom at h
  split at h
  · injection h with h; omega
  · have := pfold_code _ _ _ h; omega
theorem nfault_code (l : List Byt) : nfault l = 0 ∨ nfault l = 4 ∨ nfault l = 9 := by
  unfold nfault
  split
  · omega
  · split <;> omega
theorem pfollow_code {l : List Byt} {p : Byt} {c : Int} (h : pfollow l p = .error c) : c = 1 ∨ c = 4 ∨ c = 9 := by
  unfold pfollow at h
  split at h
  · injection h with h
    have := nfault_code l
    omega
  · exact pfrom_code h
theorem pfollow_clean {l o : List Byt} {p : Byt} (hl : Clean_ l) (h : pfollow l p = .ok o) : Clean_ o := by
  unfold pfollow at h
  split at h
  · cases h
  · refine pfrom_clean ?_ h
    split
    · exact clean_nil
    · exact hl
theorem leadT_ok {dn rest o : List Byt} {p : Byt} (hd : Clean_ dn) (h : leadT dn p rest = .ok o) (hr : ∀ x ∈ rest, nameB x = true) : Clean_ o := by
  unfold leadT at h
  rcases hf : pfollow dn p with e | on
  · rw [hf] at h; cases h
  · rw [hf] at h
    simp only [] at h
    split at h
    · cases h
    · injection h with h
      subst h
      rename_i g
      refine ⟨by rw [List.length_append]; omega, fun x hx => ?_⟩
      rcases List.mem_append.1 hx with hx | hx
      · exact (pfollow_clean hd hf).2 x hx
      · exact hr x hx
theorem leadT_code {dn rest : List Byt} {p : Byt} {c : Int} (h : leadT dn p rest = .error c) : c = 1 ∨ c = 4 ∨ c = 9 := by
  unfold leadT at h
  rcases hf : pfollow dn p with e | on
  · rw [hf] at h
    injection h with h; subst h
    exact pfollow_code hf
  · rw [hf] at h
    simp only [] at h
    split at h
    · injection h with h; omega
    · cases h

end Go.Proofs.YthjpighlcalocaaGreatDoor
