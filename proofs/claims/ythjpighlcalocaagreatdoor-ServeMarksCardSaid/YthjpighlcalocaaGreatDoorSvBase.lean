/-
  Who serves: what each request comes to. Mathematics alone.
  Who serves, in memory: the tree and eight places in one struct; requests and replies.
  How a file may be opened: the bits.
  Who serves: the places that handles are of.
  Who serves: a place is taken; a handle is shut.
  Who serves: a request that is an act.
  Who serves: a file is opened.
-/
import Derived.Test.YthjpighlcalocaaGreatDoorTreeMath
import Derived.Test.YthjpighlcalocaaGreatDoorTDos
import Derived.Test.YthjpighlcalocaaGreatDoorBox7
namespace Go.Proofs.YthjpighlcalocaaGreatDoor
set_option linter.unusedVariables false
set_option linter.unusedSimpArgs false

/-- a place that a handle is of -/
structure Pl where
  op : Bool
  freed : Nat
  path : Byt
  how : Int
def pl0 : Pl := ⟨false, 0, [], 0⟩
/-- a request -/
structure Sq where
  (kd mrk : Int) (p q : Byt) (how han a c : Int) (data : List Int)
/-- a reply -/
structure Sr where
  (mrk code han kd sz : Int) (data : List Int) (names : List Byt)
def srE (c : Int) : Sr := ⟨0, c, 0, 0, 0, [], []⟩
/-- who serves: the tree, and eight places -/
structure Sd where
  T : Wd
  hs : List Pl
def sd0 : Sd := ⟨root0, List.replicate 8 pl0⟩
def plAt (hs : List Pl) (i : Nat) : Pl := hs.getD i pl0
def numH (hs : List Pl) (i : Nat) : Int := i + 8 * (plAt hs i).freed
def freeH (hs : List Pl) : Option Nat := (List.range 8).find? fun i => !(plAt hs i).op
def findH (hs : List Pl) (h : Int) : Option Nat := (List.range 8).find? fun i => (plAt hs i).op && decide (numH hs i = h)
/-- whether a bit is set -/
def bt (k : Int) (how : Int) : Bool := decide (how / k % 2 = 1)
def isHowT (h : Int) : Bool := decide (0 ≤ h ∧ h ≤ 31) && ((bt 1 h || bt 2 h) && ((!bt 8 h || bt 4 h) && (!bt 16 h || bt 2 h)))
/-- which act a request is -/
def actK (k : Int) : Int := if k = 3 then 4 else if k = 4 then 3 else if k = 5 then 6 else if k = 6 then 7 else if k = 7 then 1 else if k = 8 then 8 else if k = 9 then 9 else if k = 10 then 10 else 0
def acOf (path : Byt) (r : Sq) : Ac := ⟨actK r.kd, path, r.q, r.a, r.c, r.data⟩
def srOf (x : Sn) : Sr := ⟨0, x.code, 0, x.kind, x.size, x.data, x.names⟩
noncomputable def actS (s : Sd) (path : Byt) (r : Sq) : Sd × Sr := ({ s with T := (actT s.T (acOf path r)).1 }, srOf (actT s.T (acOf path r)).2)
noncomputable def workS (s : Sd) (r : Sq) : Sd × Sr :=
  match findH s.hs r.han with
  | none => (s, srE 17)
  | some i =>
    if bt (if r.kd = 4 then 2 else 1) (plAt s.hs i).how = false then (s, srE 12)
    else if (if r.kd = 4 then decide (r.data.length ≤ 100) else decide (1 ≤ r.c ∧ r.c ≤ 100)) = false then (s, srE 1)
    else actS s (plAt s.hs i).path r
def acStat (p : Byt) : Ac := ⟨6, p, [], 0, 0, []⟩
def acMake (p : Byt) : Ac := ⟨2, p, [], 0, 0, []⟩
def acCut (p : Byt) : Ac := ⟨5, p, [], 0, 0, []⟩
noncomputable def prepT (T : Wd) (p : Byt) (how : Int) : Wd × Int :=
  let x := (actT T (acStat p)).2
  if x.code = 7 ∧ bt 4 how = true then ((actT T (acMake p)).1, (actT T (acMake p)).2.code)
  else if x.code ≠ 0 then (T, x.code)
  else if bt 8 how = true then (T, 8)
  else if x.kind = 1 then (T, 14)
  else if bt 16 how = true then ((actT T (acCut p)).1, (actT T (acCut p)).2.code)
  else (T, 0)
noncomputable def openS (s : Sd) (p : Byt) (how : Int) : Sd × (Int × Int) :=
  if isHowT how = false then (s, (0, 4)) else
  match freeH s.hs with
  | none => (s, (0, 9))
  | some i =>
    if (prepT s.T p how).2 ≠ 0 then (⟨(prepT s.T p how).1, s.hs⟩, (0, (prepT s.T p how).2))
    else (⟨(prepT s.T p how).1, s.hs.set i ⟨true, (plAt s.hs i).freed, p, how⟩⟩, (numH s.hs i, 0))
def shutH (hs : List Pl) (h : Int) : List Pl × Int :=
  match findH hs h with
  | none => (hs, 17)
  | some i => (hs.set i ⟨false, (plAt hs i).freed + 1, [], 0⟩, 0)
noncomputable def serveS (s : Sd) (r : Sq) : Sd × Sr :=
  if r.kd = 1 then ((openS s r.p r.how).1, ⟨0, (openS s r.p r.how).2.2, (openS s r.p r.how).2.1, 0, 0, [], []⟩)
  else if r.kd = 2 then (⟨s.T, (shutH s.hs r.han).1⟩, srE (shutH s.hs r.han).2)
  else if r.kd = 3 ∨ r.kd = 4 then workS s r
  else if 5 ≤ r.kd ∧ r.kd ≤ 10 then actS s r.p r
  else (s, srE 3)
noncomputable def doS (s : Sd) (r : Sq) : Sd × Sr := ((serveS s r).1, { (serveS s r).2 with mrk := r.mrk })
noncomputable def stS_ : Sd → List Sq → Sd
  | s, [] => s
  | s, r :: l => stS_ (doS s r).1 l
noncomputable def repS : Sd → List Sq → List Sr
  | _, [] => []
  | s, r :: l => (doS s r).2 :: repS (doS s r).1 l

theorem freeH_some {hs : List Pl} {i : Nat} (h : freeH hs = some i) : i < 8 ∧ (plAt hs i).op = false := by
  have h1 := List.find?_some h
  have h2 := List.mem_of_find?_eq_some h
  simp at h1 h2
  exact ⟨h2, h1⟩
theorem findH_some {hs : List Pl} {i : Nat} {n : Int} (h : findH hs n = some i) : i < 8 ∧ (plAt hs i).op = true ∧ numH hs i = n := by
  have h1 := List.find?_some h
  have h2 := List.mem_of_find?_eq_some h
  simp at h1 h2
  exact ⟨h2, h1.1, h1.2⟩
theorem repS_len (l : List Sq) : ∀ s, (repS s l).length = l.length := by
  induction l with
  | nil => intro s; rfl
  | cons r l ih => intro s; show _ + 1 = _; rw [ih]; rfl
theorem stS_app (l m : List Sq) : ∀ s, stS_ s (l ++ m) = stS_ (stS_ s l) m := by
  induction l with
  | nil => intro s; rfl
  | cons r l ih => intro s; exact ih _
theorem repS_app (l m : List Sq) : ∀ s, repS s (l ++ m) = repS s l ++ repS (stS_ s l) m := by
  induction l with
  | nil => intro s; rfl
  | cons r l ih => intro s; show _ :: repS _ (l ++ m) = _; rw [ih]; rfl

/-! ### the first place of some kind, by a walk -/
theorem find_range {q : Nat → Bool} {n k : Nat} (hk : k < n) (h : q k = true) (hb : ∀ j, j < k → q j = false) : (List.range n).find? q = some k := by
  rw [List.find?_eq_some_iff_append]
  refine ⟨h, List.range k, (List.range (n - k - 1)).map (· + (k + 1)), ?_, fun a ha => by rw [List.mem_range] at ha; rw [hb a ha]; rfl⟩
  have : n = k + (1 + (n - k - 1)) := by omega
  conv => lhs; rw [this]
  rw [List.range_add, List.range_add]
  simp [List.range_one]
  intro a _
  omega
theorem find_range_none {q : Nat → Bool} {n : Nat} (h : ∀ j, j < n → q j = false) : (List.range n).find? q = none := by
  rw [List.find?_eq_none]
  intro x hx
  rw [List.mem_range] at hx
  rw [h x hx]
  simp

/-! ### sizes -/
theorem prepT_len (T : Wd) (p : Byt) (how : Int) (hl : ∀ a, (actT T a).1.length ≤ T.length + 1) : (prepT T p how).1.length ≤ T.length + 1 := by
  unfold prepT
  simp only
  split
  · exact hl _
  · split
    · simp
    · split
      · simp
      · split
        · simp
        · split
          · exact hl _
          · simp
theorem workS_form (s : Sd) (r : Sq) : (workS s r).1 = s ∨ ∃ path, workS s r = actS s path r := by
  unfold workS
  rcases findH s.hs r.han with _ | i
  · exact .inl rfl
  · simp only
    by_cases c1 : bt (if r.kd = 4 then 2 else 1) (plAt s.hs i).how = false
    · rw [if_pos c1]; exact .inl rfl
    · rw [if_neg c1]
      by_cases c2 : (if r.kd = 4 then decide (r.data.length ≤ 100) else decide (1 ≤ r.c ∧ r.c ≤ 100)) = false
      · rw [if_pos c2]; exact .inl rfl
      · rw [if_neg c2]; exact .inr ⟨_, rfl⟩
theorem doS_len (s : Sd) (r : Sq) (hl : ∀ a, (actT s.T a).1.length ≤ s.T.length + 1) : (doS s r).1.T.length ≤ s.T.length + 1 := by
  unfold doS serveS
  simp only
  split
  · unfold openS
    split
    · simp
    · split
      · simp
      · split
        · exact prepT_len _ _ _ hl
        · exact prepT_len _ _ _ hl
  · split
    · simp
    · split
      · rcases workS_form s r with e | ⟨q, e⟩
        · rw [e]; exact Nat.le_succ _
        · rw [e]; exact hl _
      · split
        · exact hl _
        · simp
theorem doS_hs (s : Sd) (r : Sq) (h : s.hs.length = 8) : (doS s r).1.hs.length = 8 := by
  unfold doS serveS
  simp only
  split
  · unfold openS
    split
    · exact h
    · split
      · exact h
      · split
        · exact h
        · simp [h]
  · split
    · unfold shutH
      split
      · exact h
      · simp [h]
    · split
      · rcases workS_form s r with e | ⟨q, e⟩
        · rw [e]; exact h
        · rw [e]; exact h
      · split
        · exact h
        · exact h

end Go.Proofs.YthjpighlcalocaaGreatDoor

namespace Go.Proofs.YthjpighlcalocaaGreatDoor
open Go.RowKit Go.Maps
set_option linter.unusedVariables false
set_option linter.unusedSimpArgs false

def plS : Shape Pl := { cells := fun x => [.bool x.op, .int .i64 (x.freed : Nat), .string (tx x.path), .int .i64 x.how], size := 4, len := fun _ => rfl, pos := by decide, one := by intro x u hu; simp at hu; rcases hu with rfl | rfl | rfl | rfl <;> rfl }
/-- a row of structs in which one has turned -/
theorem flat_setP {α : Type} (F : Shape α) : ∀ (l : List α) (k : Nat) (x y : α) (j : Nat) (v : Value), l[k]? = some x → j < F.size → F.cells y = (F.cells x).set j v → F.flat (l.set k y) = (F.flat l).set (k * F.size + j) v
  | [], k, x, y, j, v, h, _, _ => by simp at h
  | z :: t, 0, x, y, j, v, h, hj, hv => by
    simp at h; subst h
    show F.cells y ++ F.flat t = (F.cells z ++ F.flat t).set (0 * F.size + j) v
    rw [Nat.zero_mul, Nat.zero_add, List.set_append_left _ _ (by rw [F.len]; exact hj), hv]
  | z :: t, k + 1, x, y, j, v, h, hj, hv => by
    have ih := flat_setP F t k x y j v (by simpa using h) hj hv
    show F.cells z ++ F.flat (t.set k y) = (F.cells z ++ F.flat t).set ((k + 1) * F.size + j) v
    rw [List.set_append_right _ _ (by rw [F.len, Nat.succ_mul]; omega), F.len, show (k + 1) * F.size + j - F.size = k * F.size + j by rw [Nat.succ_mul]; omega, ih]
/-- the server's cells: the tree, then the places -/
def svC (tb : Nat) (hs : List Pl) : Array Value := (Value.pointer (some ⟨tb, 0, none⟩) :: plS.flat hs).toArray

section
variable {t : TypeId} {w w' : World} {B tb : Nat} {hs : List Pl}
theorem sv_cell (h : Bx t w B (svC tb hs)) (i : Nat) (x : Pl) (hx : hs[i]? = some x) (k : Nat) (v : Value) (hv : (plS.cells x)[k]? = some v) : w.cell? ⟨B, 1 + (i * 4 + k), none⟩ = some v := by
  refine h.cell _ v ?_
  unfold svC
  rw [List.getElem?_toArray, Nat.add_comm 1, List.getElem?_cons_succ]
  exact plS.flat_get hs i x k v hx hv
theorem sv_tree (h : Bx t w B (svC tb hs)) : w.cell? ⟨B, 0, none⟩ = some (.pointer (some ⟨tb, 0, none⟩)) := h.cell 0 _ rfl
theorem sv_put (h : Bx t w B (svC tb hs)) (i : Nat) (x y : Pl) (hx : hs[i]? = some x) (k : Nat) (v : Value) (hk : k < 4) (hv : plS.cells y = (plS.cells x).set k v) : Bx t (w.setCell ⟨B, 1 + (i * 4 + k), none⟩ v) B (svC tb (hs.set i y)) := by
  have h1 := h.set (1 + (i * 4 + k)) v
  have e : (svC tb hs).modify (1 + (i * 4 + k)) (fun _ => v) = svC tb (hs.set i y) := by
    unfold svC
    rw [flat_setP plS hs i x y k v hx hk hv, ← Array.toList_inj]
    simp only [Array.toList_modify]
    rw [Nat.add_comm 1]
    show _ = _ :: (plS.flat hs).set (i * 4 + k) v
    rw [List.modify_succ_cons]
    congr 1
    apply List.ext_getElem?
    intro q
    rw [List.getElem?_modify, List.getElem?_set]
    by_cases e : i * 4 + k = q
    · subst e
      simp only [if_true]
      by_cases hl : i * 4 + k < (plS.flat hs).length
      · rw [if_pos hl, List.getElem?_eq_getElem hl]; rfl
      · rw [if_neg hl, List.getElem?_eq_none (by omega)]; rfl
    · simp [e]
  rwa [e] at h1
end

/-- the table of acts, a package-level variable -/
def actZ : List Int := [0, 0, 0, 4, 3, 6, 7, 1, 8, 9, 10]
def TabAt (w : World) : Prop := ∀ i : Nat, i < 11 → w.cell? ⟨0, i, none⟩ = some (.int .i64 (actZ.getD i 0))
theorem TabAt.only {w w' : World} {S : Nat → Prop} (h : TabAt w) (ho : Only S w w') (hS : ¬ S 0) (hl : 0 < w.heap.size) : TabAt w' := fun i hi => (World.cell?_of_block (ho.block 0 hl hS)).trans (h i hi)
theorem actK_tab (k : Nat) (h0 : 3 ≤ k) (h1 : k ≤ 10) : actZ.getD k 0 = actK k := by
  have : k = 3 ∨ k = 4 ∨ k = 5 ∨ k = 6 ∨ k = 7 ∨ k = 8 ∨ k = 9 ∨ k = 10 := by omega
  rcases this with rfl | rfl | rfl | rfl | rfl | rfl | rfl | rfl <;> rfl
/-- who serves lies at block B -/
structure SvIs (w : World) (B : Nat) (s : Sd) (f : Rl) (p : Nat → Nat) (K : Nat) : Prop where
  tree : ∃ tb, Bx 99 w B (svC tb s.hs) ∧ TreeIs w tb s.T f p K
  off : f B = none
  len : s.hs.length = 8
  hs : ∀ x ∈ s.hs, x.freed ≤ K ∧ 0 ≤ x.how ∧ x.how ≤ 31
  tab : TabAt w ∧ f 0 = none ∧ B ≠ 0 ∧ 0 < w.heap.size

section
variable {w w' : World} {B K : Nat} {s : Sd} {f : Rl} {p : Nat → Nat}
theorem SvIs.lt (h : SvIs w B s f p K) : B < w.heap.size := by obtain ⟨tb, h1, -⟩ := h.tree; exact h1.lt
theorem SvIs.only {S : Nat → Prop} (h : SvIs w B s f p K) (ho : Only S w w') (hS : ∀ b, S b → f b = none ∧ b ≠ B ∧ b ≠ 0) : SvIs w' B s f p K := by
  obtain ⟨tb, h1, h2⟩ := h.tree
  exact ⟨⟨tb, h1.only ho (fun g => (hS B g).2.1 rfl), h2.only ho (fun b hb => (hS b hb).1)⟩, h.off, h.len, h.hs, h.tab.1.only ho (fun g => (hS 0 g).2.2 rfl) h.tab.2.2.2, h.tab.2.1, h.tab.2.2.1, Nat.lt_of_lt_of_le h.tab.2.2.2 ho.size⟩
theorem SvIs.new (h : SvIs w B s f p K) (hb : Below w.heap.size w w') : SvIs w' B s f p K := h.only (S := fun _ => False) (only_new hb) (fun _ h => h.elim)
theorem SvIs.mono (h : SvIs w B s f p K) {K' : Nat} (hK : K ≤ K') : SvIs w B s f p K' := by
  obtain ⟨tb, h1, h2⟩ := h.tree
  exact ⟨⟨tb, h1, h2.mono hK⟩, h.off, h.len, fun x hx => ⟨Nat.le_trans (h.hs x hx).1 hK, (h.hs x hx).2⟩, h.tab⟩
theorem SvIs.place (h : SvIs w B s f p K) (i : Nat) (hi : i < 8) : s.hs[i]? = some (plAt s.hs i) ∧ (plAt s.hs i).freed ≤ K ∧ 0 ≤ (plAt s.hs i).how ∧ (plAt s.hs i).how ≤ 31 := by
  have h1 : i < s.hs.length := by rw [h.len]; exact hi
  have e : plAt s.hs i = s.hs[i] := by unfold plAt; rw [List.getD_eq_getElem?_getD, List.getElem?_eq_getElem h1]; rfl
  rw [e]
  exact ⟨List.getElem?_eq_getElem h1, h.hs _ (List.getElem_mem h1)⟩
end

/-- a reply, with the addresses of its lists -/
structure Rv where
  r : Sr
  A : Option Addr
  n : Nat
  c : Nat
  N : Option Addr
  m : Nat
  d : Nat
def rvV (x : Rv) : Array Value := #[.int .i64 x.r.mrk, .int .i64 x.r.code, .int .i64 x.r.han, .int .i64 x.r.kd, .int .i64 x.r.sz, .slice x.A x.n x.c, .slice x.N x.m x.d]
def rvS : Shape Rv := { cells := fun x => [.int .i64 x.r.mrk, .int .i64 x.r.code, .int .i64 x.r.han, .int .i64 x.r.kd, .int .i64 x.r.sz, .slice x.A x.n x.c, .slice x.N x.m x.d], size := 7, len := fun _ => rfl, pos := by decide, one := by intro x u hu; simp at hu; rcases hu with rfl | rfl | rfl | rfl | rfl | rfl | rfl <;> rfl }
theorem rvInfo : (Tryz.prog.info? 39).map (fun i => (i.zero, i.size, i.bytes)) = some (some (.agg #[.int .i64 0, .int .i64 0, .int .i64 0, .int .i64 0, .int .i64 0, .slice none 0 0, .slice none 0 0]), rvS.size, 88) := by kernel_rfl
def zeroR : Array Value := #[.int .i64 0, .int .i64 0, .int .i64 0, .int .i64 0, .int .i64 0, .slice none 0 0, .slice none 0 0]
def rvP (r : Sr) : Rv := ⟨r, none, 0, 0, none, 0, 0⟩
def RvOwn (w : World) (base : Nat) (x : Rv) : Prop := OwnL byS 5 w base x.A x.n x.c x.r.data ∧ OwnL stS 9 w base x.N x.m x.d x.r.names
def RvB (x : Rv) (k : Nat) : Prop := (Value.slice x.A x.n x.c).ownBlock = some k ∨ (Value.slice x.N x.m x.d).ownBlock = some k
theorem rvOwn_p (w : World) (base : Nat) (r : Sr) (h1 : r.data = []) (h2 : r.names = []) : RvOwn w base (rvP r) := by
  unfold RvOwn rvP
  simp only []
  rw [h1, h2]
  exact ⟨OwnL.nil _ _, OwnL.nil _ _⟩
theorem rvB_p (r : Sr) (k : Nat) : ¬ RvB (rvP r) k := by rintro (h | h) <;> cases h
theorem RvOwn.keep {w w' : World} {base : Nat} {x : Rv} {S : Nat → Prop} (h : RvOwn w base x) (ho : Only S w w') (hS : ∀ k, S k → ¬ RvB x k) : RvOwn w' base x :=
  ⟨⟨h.1.1, own_only h.1.2 ho (fun k hk hs => hS k hs (.inl hk))⟩, ⟨h.2.1, own_only h.2.2 ho (fun k hk hs => hS k hs (.inr hk))⟩⟩
theorem RvOwn.lt {w : World} {base : Nat} {x : Rv} (h : RvOwn w base x) : ∀ k, RvB x k → base ≤ k ∧ k < w.heap.size := fun k hk => by
  rcases hk with g | g
  · exact h.1.lt k g
  · exact h.2.lt k g
theorem RvOwn.base {w : World} {base base' : Nat} {x : Rv} (h : RvOwn w base x) (hb : base' ≤ base) : RvOwn w base' x := ⟨h.1.base hb, h.2.base hb⟩
/-- the answer of an act as a reply -/
def rvOf (x : Sv) : Rv := ⟨srOf x.s, x.A, x.n, x.c, x.N, x.m, x.d⟩
theorem SvOwn.rv {w : World} {base : Nat} {x : Sv} (h : SvOwn w base x) : RvOwn w base (rvOf x) := h
theorem rvB_of (x : Sv) (k : Nat) : RvB (rvOf x) k ↔ SvB x k := Iff.rfl

/-- what a method of the server's leaves, and its answer -/
def RetSv (w : World) (B : Nat) (f : Rl) (K : Nat) (r : Sd × Sr) (e : Ending) (w' : World) : Prop :=
  ∃ (x : Rv) (f' : Rl) (p' : Nat → Nat), x.r = r.2 ∧ e = .returned (.agg (rvV x)) ∧ RvOwn w' w.heap.size x ∧ SvIs w' B r.1 f' p' K ∧ Only (fun b => f b ≠ none ∨ b = B) w w' ∧ (∀ b, f' b ≠ none → f b ≠ none ∨ w.heap.size ≤ b) ∧ ∀ b, f' b ≠ none → ¬ RvB x b
/-- nothing but an error is told -/
theorem RetSv.plain {w w' : World} {B K K' : Nat} {f : Rl} {p : Nat → Nat} {s : Sd} {r : Sd × Sr} {q : Sr} (h : SvIs w B s f p K) (hK : K ≤ K') (hr : r = (s, q)) (h1 : q.data = []) (h2 : q.names = []) (hb : Below w.heap.size w w') : RetSv w B f K' r (.returned (.agg (rvV (rvP q)))) w' := by
  subst hr
  exact ⟨rvP q, f, p, rfl, rfl, rvOwn_p _ _ q h1 h2, (h.new hb).mono hK, only_new hb, fun b hb => .inl hb, fun b _ => rvB_p q b⟩

end Go.Proofs.YthjpighlcalocaaGreatDoor

namespace Go.Proofs.YthjpighlcalocaaGreatDoor
open Go.RowKit Go.Maps
set_option linter.unusedVariables false
set_option linter.unusedSimpArgs false

set_option maxRecDepth 100000 in
theorem bits_all : ∀ n : Fin 32, (bits .and .i64 ((n.val : Nat) : Int) 1 = if bt 1 (n.val : Nat) then 1 else 0) ∧ (bits .and .i64 ((n.val : Nat) : Int) 2 = if bt 2 (n.val : Nat) then 2 else 0) ∧ (bits .and .i64 ((n.val : Nat) : Int) 4 = if bt 4 (n.val : Nat) then 4 else 0) ∧ (bits .and .i64 ((n.val : Nat) : Int) 8 = if bt 8 (n.val : Nat) then 8 else 0) ∧
    (bits .and .i64 ((n.val : Nat) : Int) 16 = if bt 16 (n.val : Nat) then 16 else 0) ∧ (bits .and .i64 ((n.val : Nat) : Int) 3 = if bt 1 (n.val : Nat) then (if bt 2 (n.val : Nat) then 3 else 1) else (if bt 2 (n.val : Nat) then 2 else 0)) := by decide
theorem bits_bt (how : Int) (h0 : 0 ≤ how) (h1 : how ≤ 31) : (bits .and .i64 how 1 = if bt 1 how then 1 else 0) ∧ (bits .and .i64 how 2 = if bt 2 how then 2 else 0) ∧ (bits .and .i64 how 4 = if bt 4 how then 4 else 0) ∧ (bits .and .i64 how 8 = if bt 8 how then 8 else 0) ∧
    (bits .and .i64 how 16 = if bt 16 how then 16 else 0) ∧ (bits .and .i64 how 3 = if bt 1 how then (if bt 2 how then 3 else 1) else (if bt 2 how then 2 else 0)) := by
  obtain ⟨n, rfl⟩ : ∃ n : Nat, how = n := ⟨how.toNat, by omega⟩
  exact bits_all ⟨n, by omega⟩

set_option maxHeartbeats 4000000 in
theorem isHow_any (how : Int) (w : World) (v : Bool) (hv : isHowT how = v) : Calls Tryz.prog 77 #[.int .i64 how] w fun e w' => e = .returned (.bool v) ∧ w = w' := by
  by_cases hin : 0 ≤ how ∧ how ≤ 31
  · obtain ⟨h0, h1⟩ := hin
    obtain ⟨-, b2, b4, b8, b16, b3⟩ := bits_bt how h0 h1
    have hv' : ((bt 1 how || bt 2 how) && ((!bt 8 how || bt 4 how) && (!bt 16 how || bt 2 how))) = v := by
      rw [← hv]; unfold isHowT; rw [decide_eq_true ⟨h0, h1⟩, Bool.true_and]
    have HV := Lib.hid hv'
    clear hv hv'
    generalize bt 1 how = t1 at *
    generalize bt 2 how = t2 at *
    generalize bt 4 how = t4 at *
    generalize bt 8 how = t8 at *
    generalize bt 16 how = t16 at *
    cases t1 <;> cases t2 <;> cases t4 <;> cases t8 <;> cases t16
    all_goals
      simp only [Bool.false_eq_true, if_false, if_true] at b2 b4 b8 b16 b3
      go_enter Tryz.func77, Tryz.ntmps77
      go_wp2_with fail
      go_ret
      exact ⟨by rw [← HV.out]; rfl, rfl⟩
  · obtain rfl : v = false := by rw [← hv]; unfold isHowT; rw [decide_eq_false hin]; rfl
    have h2 : how < 0 ∨ 31 < how := by omega
    clear hv hin
    rcases h2 with h2 | h2
    · go_enter Tryz.func77, Tryz.ntmps77
      go_wp2_with fail
      go_ret
      exact ⟨rfl, rfl⟩
    · have h3 : ¬ how < 0 := by omega
      go_enter Tryz.func77, Tryz.ntmps77
      go_wp2_with fail
      go_ret
      exact ⟨rfl, rfl⟩

end Go.Proofs.YthjpighlcalocaaGreatDoor

namespace Go.Proofs.YthjpighlcalocaaGreatDoor
open Go.RowKit Go.Maps
set_option linter.unusedVariables false
set_option linter.unusedSimpArgs false

section
variable {t : TypeId} {w w' : World} {B tb : Nat} {hs : List Pl}
theorem sv_all (h : Bx t w B (svC tb hs)) (i : Nat) (x : Pl) (hx : hs[i]? = some x) :
    (w.cell? ⟨B, 1 + i * 4, none⟩ = some (.bool x.op) ∧ w.cell? ⟨B, 1 + i * 4 + 1, none⟩ = some (.int .i64 (x.freed : Nat)) ∧ w.cell? ⟨B, 1 + i * 4 + 2, none⟩ = some (.string (tx x.path)) ∧ w.cell? ⟨B, 1 + i * 4 + 3, none⟩ = some (.int .i64 x.how)) ∧
    (w.frozen? ⟨B, 1 + i * 4, none⟩ = false ∧ w.frozen? ⟨B, 1 + i * 4 + 1, none⟩ = false ∧ w.frozen? ⟨B, 1 + i * 4 + 2, none⟩ = false ∧ w.frozen? ⟨B, 1 + i * 4 + 3, none⟩ = false) := by
  refine ⟨⟨?_, ?_, ?_, ?_⟩, h.soft _, h.soft _, h.soft _, h.soft _⟩
  · have := sv_cell h i x hx 0 _ rfl; rwa [Nat.add_zero] at this
  · have := sv_cell h i x hx 1 _ rfl; rwa [← Nat.add_assoc] at this
  · have := sv_cell h i x hx 2 _ rfl; rwa [← Nat.add_assoc] at this
  · have := sv_cell h i x hx 3 _ rfl; rwa [← Nat.add_assoc] at this
theorem sv_put' (h : Bx t w B (svC tb hs)) (i : Nat) (x y : Pl) (hx : hs[i]? = some x) (k : Nat) (v : Value) (hk : k < 4) (hv : plS.cells y = (plS.cells x).set k v) : Bx t (w.setCell ⟨B, 1 + i * 4 + k, none⟩ v) B (svC tb (hs.set i y)) := by
  have := sv_put h i x y hx k v hk hv
  rwa [← Nat.add_assoc] at this
theorem set_again {α : Type} (l : List α) (i : Nat) (x : α) (h : i < l.length) : (l.set i x)[i]? = some x := by simp [h]
end
theorem sv_ls {t : TypeId} {w : World} {B tb : Nat} {hs : List Pl} (h : Bx t w B (svC tb hs)) : Ls plS w (some ⟨B, 1, none⟩) hs :=
  ls_of _ _ _ _ (fun _ => h.lt) fun i x hi k v hv => by
    have := sv_cell h i x hi k v hv
    rwa [← Nat.add_assoc] at this

theorem hnumber_any (w : World) (B tb i : Nat) (hs : List Pl) (hb : Bx 99 w B (svC tb hs)) (hl : hs.length = 8) (hi : i < 8) (x : Pl) (hx : hs[i]? = some x) (hf : x.freed ≤ 1000000) (n : Int) (hn : n = i + 8 * x.freed) :
    Calls Tryz.prog 95 #[.pointer (some ⟨B, 1, none⟩), .int .i64 i] w fun e w' => e = .returned (.int .i64 n) ∧ w = w' := by
  obtain ⟨⟨c0, c1, c2, c3⟩, -⟩ := sv_all hb i x hx
  have hB := hb.lt
  obtain ⟨fr, hfr⟩ : ∃ fr, fr = x.freed := ⟨_, rfl⟩
  rw [← hfr] at c1 hf hn
  have e1 : IntKind.i64.wrap (8 * (fr : Int)) = 8 * (fr : Int) := by rw [IntKind.wrap_i64]; omega
  have e2 : IntKind.i64.wrap ((i : Int) + 8 * (fr : Int)) = n := by rw [IntKind.wrap_i64]; omega
  have hi0 : (0 : Int) ≤ (i : Int) := by omega
  have hi8 : (i : Int) < 8 := by omega
  clear hb hx hfr hn hl c0 c2 c3
  go_enter Tryz.func95, Tryz.ntmps95
  go_wp2_with fail
  go_ret
  exact ⟨rfl, rfl⟩
def plP (B : Nat) : Option Nat → Value
  | none => .pointer none
  | some i => .pointer (some ⟨B, 1 + i * 4, none⟩)
def plE : Option Nat → Int
  | none => 17
  | some _ => 0
set_option maxHeartbeats 2000000 in
theorem hfind_any (w : World) (B tb : Nat) (hs : List Pl) (hb : Bx 99 w B (svC tb hs)) (hl : hs.length = 8) (hf : ∀ x ∈ hs, x.freed ≤ 1000000) (n : Int) (r : Option Nat) (hr : findH hs n = r) :
    Calls Tryz.prog 81 #[.pointer (some ⟨B, 1, none⟩), .int .i64 n] w fun e w' => e = .returned (.tuple #[plP B r, .int .i64 (plE r)]) ∧ w = w' := by
  have HB := Lib.hid hb
  have HL := Lib.hid hl
  have HF := Lib.hid hf
  have HR := Lib.hid hr
  have hB := hb.lt
  clear hb hl hf hr
  go_enter Tryz.func81, Tryz.ntmps81
  go_wp2
  go_loopw [7] (fun i wr => ∃ k : Nat, k ≤ 8 ∧ i = .int .i64 k ∧ (∀ j, j < k → ((plAt hs j).op && decide (numH hs j = n)) = false) ∧ w = wr) (fun i _ => 8 - (intOf i).toNat)
  case atStart => exact ⟨0, Nat.zero_le _, rfl, fun j hj => by omega, rfl⟩
  case round =>
    obtain ⟨k, hk, rfl, hno, rfl⟩ := hrel
    have HNO := Lib.hid hno
    clear hno
    by_cases hlt : k < 8
    · have hk8 : (k : Int) < 8 := by omega
      have hk0 : (0 : Int) ≤ (k : Int) := by omega
      obtain ⟨x, hx⟩ : ∃ x, hs[k]? = some x := ⟨_, List.getElem?_eq_getElem (by rw [HL.out]; exact hlt)⟩
      have hpl : plAt hs k = x := by unfold plAt; rw [List.getD_eq_getElem?_getD, hx]; rfl
      have HNUM : Hid (Calls Tryz.prog 95 #[.pointer (some ⟨B, 1, none⟩), .int .i64 k] w fun e w' => e = .returned (.int .i64 (numH hs k)) ∧ w = w') := Lib.hid (hnumber_any w B tb k hs HB.out HL.out hlt x hx (HF.out x (List.mem_of_getElem? hx)) _ (by unfold numH; rw [hpl]))
      obtain ⟨⟨c0, c1, c2, c3⟩, -⟩ := sv_all HB.out k x hx
      obtain ⟨m, hm⟩ : ∃ m, m = numH hs k := ⟨_, rfl⟩
      have HM := Lib.hid hm
      rw [← hm] at HNUM
      have HPL := Lib.hid hpl
      clear hx hpl hm c1 c2 c3
      rcases hop : x.op with _ | _
      · rw [hop] at c0
        have HST : Hid (∀ j, j < k + 1 → ((plAt hs j).op && decide (numH hs j = n)) = false) := Lib.hid (fun j hj => by
          by_cases e : j = k
          · rw [e, HPL.out, hop]; rfl
          · exact HNO.out j (by omega))
        clear hop
        go_wp2_with fail
        exact ⟨⟨k + 1, by omega, by go_num, HST.out, by first | rfl | trivial⟩, by simp [intOf]; omega⟩
      · rw [hop] at c0
        by_cases hmn : m = n
        · have HFD : Hid (r = some k) := Lib.hid (by
            rw [← HR.out]
            refine find_range hlt ?_ HNO.out
            rw [HPL.out, hop, ← HM.out, decide_eq_true hmn]; rfl)
          subst hmn
          clear hop
          go_wp2_with (go_at_call 95; (with_reducible refine HNUM.out.mono ?_); rintro e w' ⟨rfl, rfl⟩)
          go_ret2
          rw [HFD.out]
          exact ⟨rfl, rfl⟩
        · have HST : Hid (∀ j, j < k + 1 → ((plAt hs j).op && decide (numH hs j = n)) = false) := Lib.hid (fun j hj => by
            by_cases e : j = k
            · rw [e, ← HM.out, decide_eq_false hmn, Bool.and_false]
            · exact HNO.out j (by omega))
          have z1 : (m == n) = false := by simpa using hmn
          have z2 : decide (m = n) = false := by simpa using hmn
          clear hop hmn
          go_wp2_with (go_at_call 95; (with_reducible refine HNUM.out.mono ?_); rintro e w' ⟨rfl, rfl⟩)
          exact ⟨⟨k + 1, by omega, by go_num, HST.out, by first | rfl | trivial⟩, by simp [intOf]; omega⟩
    · obtain rfl : k = 8 := by omega
      have HFD : Hid (r = none) := Lib.hid (by rw [← HR.out]; exact find_range_none HNO.out)
      go_wp2
      go_ret2
      rw [HFD.out]
      exact ⟨rfl, rfl⟩

/-! ### a place that is free -/
set_option maxHeartbeats 2000000 in
theorem free_clos (x : Pl) (w : World) (v : Bool) (hv : v = !x.op) :
    Calls Tryz.prog 93 #[.agg #[.bool x.op, .int .i64 (x.freed : Nat), .string (tx x.path), .int .i64 x.how]] w fun e w' => e = .returned (.bool v) ∧ Below w.heap.size w w' := by
  subst hv
  go_enter Tryz.func93, Tryz.ntmps93
  go_wp2_with fail
  go_ret
  exact ⟨rfl, ba1 _ _⟩
def frR : Option Nat → Int
  | none => -1
  | some i => i
set_option maxHeartbeats 2000000 in
theorem free_index (w : World) (B tb : Nat) (hs : List Pl) (hb : Bx 99 w B (svC tb hs)) (hl : hs.length = 8) (r : Option Nat) (hr : freeH hs = r) :
    Calls Tryz.prog 94 #[.slice (some ⟨B, 1, none⟩) 8 8, .func (.func 93) #[] #[]] w fun e w' => e = .returned (.int .i64 (frR r)) ∧ Below w.heap.size w w' := by
  have HB := Lib.hid hb
  have HL := Lib.hid hl
  have HR := Lib.hid hr
  clear hb hl hr
  go_enter Tryz.func94, Tryz.ntmps94
  go_wp2
  go_loopw [8] (fun i wr => ∃ k : Nat, k ≤ 8 ∧ i = .int .i64 k ∧ (∀ j, j < k → (!(plAt hs j).op) = false) ∧ Below w.heap.size w wr) (fun i _ => 8 - (intOf i).toNat)
  case atStart => exact ⟨0, Nat.zero_le _, rfl, fun j hj => by omega, Below.refl _ _⟩
  case round =>
    obtain ⟨k, hk, rfl, hno, hbw⟩ := hrel
    have HNO := Lib.hid hno
    have HBW := Lib.hid hbw
    clear hno
    by_cases hlt : k < 8
    · have hk8 : (k : Int) < 8 := by omega
      obtain ⟨x, hx⟩ : ∃ x, hs[k]? = some x := ⟨_, List.getElem?_eq_getElem (by rw [HL.out]; exact hlt)⟩
      have hpl : plAt hs k = x := by unfold plAt; rw [List.getD_eq_getElem?_getD, hx]; rfl
      obtain ⟨⟨c0, c1, c2, c3⟩, -⟩ := sv_all (HB.out.below hbw) k x hx
      have hB := (HB.out.below hbw).lt
      have HPL := Lib.hid hpl
      clear hx hpl hbw
      rcases hop : x.op with _ | _
      · have HFD : Hid (r = some k) := Lib.hid (by
          rw [← HR.out]
          refine find_range hlt ?_ HNO.out
          rw [HPL.out, hop]; rfl)
        have HC := Lib.hid (fun w => free_clos x w true (by rw [hop]; rfl))
        clear hop
        go_wp2_with (go_at_call 93; (refine (HC.out _).mono ?_); rintro e w' ⟨rfl, hb1⟩; have HB1 := Lib.hid hb1; clear hb1)
        go_ret
        rw [HFD.out]
        exact ⟨rfl, bthen HBW.out HB1.out⟩
      · have HC := Lib.hid (fun w => free_clos x w false (by rw [hop]; rfl))
        have HST : Hid (∀ j, j < k + 1 → (!(plAt hs j).op) = false) := Lib.hid (fun j hj => by
          by_cases e : j = k
          · rw [e, HPL.out, hop]; rfl
          · exact HNO.out j (by omega))
        clear hop
        go_wp2_with (go_at_call 93; (refine (HC.out _).mono ?_); rintro e w' ⟨rfl, hb1⟩; have HB1 := Lib.hid hb1; clear hb1)
        exact ⟨⟨k + 1, by omega, by go_num, HST.out, bthen HBW.out HB1.out⟩, by simp [intOf]; omega⟩
    · obtain rfl : k = 8 := by omega
      have HFD : Hid (r = none) := Lib.hid (by rw [← HR.out]; exact find_range_none HNO.out)
      go_wp2
      go_ret
      rw [HFD.out]
      exact ⟨rfl, HBW.out⟩
def frT : Option Nat → Value
  | none => .tuple #[.int .i64 0, .int .i64 9]
  | some i => .tuple #[.int .i64 (i : Nat), .int .i64 0]
theorem hfree_any (w : World) (B tb : Nat) (hs : List Pl) (hb : Bx 99 w B (svC tb hs)) (hl : hs.length = 8) (r : Option Nat) (hr : freeH hs = r) :
    Calls Tryz.prog 78 #[.pointer (some ⟨B, 1, none⟩)] w fun e w' => e = .returned (frT r) ∧ Below w.heap.size w w' := by
  have HC := Lib.hid (free_index w B tb hs hb hl r hr)
  have hB := hb.lt
  clear hb hl hr
  rcases r with _ | i
  · go_enter Tryz.func78, Tryz.ntmps78
    go_wp2_with (go_at_call 94; (with_reducible refine HC.out.mono ?_); rintro e w' ⟨rfl, hb1⟩; have HB1 := Lib.hid hb1; clear hb1)
    go_ret2
    exact ⟨rfl, HB1.out⟩
  · have hi : ¬ ((i : Nat) : Int) < 0 := by omega
    go_enter Tryz.func78, Tryz.ntmps78
    go_wp2_with (go_at_call 94; (with_reducible refine HC.out.mono ?_); rintro e w' ⟨rfl, hb1⟩; have HB1 := Lib.hid hb1; clear hb1; unfold frR)
    go_ret2
    exact ⟨rfl, HB1.out⟩

end Go.Proofs.YthjpighlcalocaaGreatDoor

namespace Go.Proofs.YthjpighlcalocaaGreatDoor
open Go.RowKit Go.Maps
set_option linter.unusedVariables false
set_option linter.unusedSimpArgs false

theorem set_set {α : Type} (l : List α) (i : Nat) (x y : α) : (l.set i x).set i y = l.set i y := by simp
set_option maxHeartbeats 4000000 in
theorem htake_any (w : World) (B tb i : Nat) (hs : List Pl) (hb : Bx 99 w B (svC tb hs)) (hl : hs.length = 8) (hi : i < 8) (hf : (plAt hs i).freed ≤ 1000000) (path : Byt) (how : Int) :
    Calls Tryz.prog 80 #[.pointer (some ⟨B, 1, none⟩), .int .i64 i, .string (tx path), .int .i64 how] w fun e w' => e = .returned (.int .i64 (numH hs i)) ∧ Bx 99 w' B (svC tb (hs.set i ⟨true, (plAt hs i).freed, path, how⟩)) ∧ Only (fun k => k = B) w w' := by
  obtain ⟨x, hx⟩ : ∃ x, hs[i]? = some x := ⟨_, List.getElem?_eq_getElem (by omega)⟩
  have hpl : plAt hs i = x := by unfold plAt; rw [List.getD_eq_getElem?_getD, hx]; rfl
  obtain ⟨⟨c0, c1, c2, c3⟩, ⟨f0, f1, f2, f3⟩⟩ := sv_all hb i x hx
  have hB := hb.lt
  obtain ⟨n, hn⟩ : ∃ n, n = numH hs i := ⟨_, rfl⟩
  have hn' : n = i + 8 * x.freed := by rw [hn]; unfold numH; rw [hpl]
  rw [hpl] at hf ⊢
  rw [← hn]
  obtain ⟨w3, hw3⟩ : ∃ w3, w3 = ((w.setCell ⟨B, 1 + i * 4, none⟩ (.bool true)).setCell ⟨B, 1 + i * 4 + 2, none⟩ (.string (tx path))).setCell ⟨B, 1 + i * 4 + 3, none⟩ (.int .i64 how) := ⟨_, rfl⟩
  have HX3 : Hid (Bx 99 w3 B (svC tb (hs.set i ⟨true, x.freed, path, how⟩))) := Lib.hid (by
    rw [hw3]
    have h1 := sv_put hb i x ⟨true, x.freed, x.path, x.how⟩ hx 0 (.bool true) (by omega) rfl
    rw [Nat.add_zero] at h1
    have h2 := sv_put' h1 i ⟨true, x.freed, x.path, x.how⟩ ⟨true, x.freed, path, x.how⟩ (set_again _ _ _ (by omega)) 2 (.string (tx path)) (by omega) rfl
    rw [set_set] at h2
    have h3 := sv_put' h2 i ⟨true, x.freed, path, x.how⟩ ⟨true, x.freed, path, how⟩ (set_again _ _ _ (by omega)) 3 (.int .i64 how) (by omega) rfl
    rwa [set_set] at h3)
  have HO3 : Hid (Only (fun k => k = B) w w3) := Lib.hid (by
    rw [hw3]
    exact (((Only.refl (fun k => k = B) w).setCell (.inl rfl) _).setCell (.inl rfl) _).setCell (.inl rfl) _)
  have HNUM : Hid (Calls Tryz.prog 95 #[.pointer (some ⟨B, 1, none⟩), .int .i64 i] w3 fun e w' => e = .returned (.int .i64 n) ∧ w3 = w') := Lib.hid (hnumber_any w3 B tb i _ HX3.out (by simp [hl]) hi ⟨true, x.freed, path, how⟩ (set_again _ _ _ (by omega)) hf n hn')
  have hi0 : (0 : Int) ≤ (i : Int) := by omega
  have hi8 : (i : Int) < 8 := by omega
  clear hb hx hpl hn hn' hf hl c1
  go_enter Tryz.func80, Tryz.ntmps80
  go_upto_region 3 with fail
  rw [← hw3]
  clear hw3 c0 c2 c3 f0 f1 f2 f3
  go_wp2_with (go_at_call 95; (with_reducible refine HNUM.out.mono ?_); rintro e w' ⟨rfl, rfl⟩)
  go_ret
  exact ⟨rfl, HX3.out, HO3.out⟩

set_option maxHeartbeats 4000000 in
theorem hshut_any (w : World) (B tb : Nat) (hs : List Pl) (hb : Bx 99 w B (svC tb hs)) (hl : hs.length = 8) (hf : ∀ x ∈ hs, x.freed ≤ 1000000) (n : Int) (r : List Pl × Int) (hr : r = shutH hs n) :
    Calls Tryz.prog 60 #[.pointer (some ⟨B, 1, none⟩), .int .i64 n] w fun e w' => e = .returned (.int .i64 r.2) ∧ Bx 99 w' B (svC tb r.1) ∧ Only (fun k => k = B) w w' := by
  obtain ⟨q, hq⟩ : ∃ q, findH hs n = q := ⟨_, rfl⟩
  have HFD := Lib.hid (hfind_any w B tb hs hb hl hf n q hq)
  have HB := Lib.hid hb
  have hB := hb.lt
  rcases q with _ | i
  · have HR : Hid (r = (hs, 17)) := Lib.hid (by rw [hr]; unfold shutH; rw [hq])
    clear hr hq hb hl hf
    go_enter Tryz.func60, Tryz.ntmps60
    go_wp2_with (go_at_call 81; (with_reducible refine HFD.out.mono ?_); rintro e w' ⟨rfl, rfl⟩; unfold plP plE)
    go_ret
    rw [HR.out]
    exact ⟨rfl, HB.out, Only.refl _ _⟩
  · have hi := (findH_some hq).1
    obtain ⟨x, hx⟩ : ∃ x, hs[i]? = some x := ⟨_, List.getElem?_eq_getElem (by omega)⟩
    have hpl : plAt hs i = x := by unfold plAt; rw [List.getD_eq_getElem?_getD, hx]; rfl
    have HR : Hid (r = (hs.set i ⟨false, x.freed + 1, [], 0⟩, 0)) := Lib.hid (by rw [hr]; unfold shutH; rw [hq]; simp only; rw [hpl])
    obtain ⟨⟨c0, c1, c2, c3⟩, ⟨f0, f1, f2, f3⟩⟩ := sv_all hb i x hx
    obtain ⟨fr, hfr⟩ : ∃ fr, fr = x.freed := ⟨_, rfl⟩
    have hfx := hf x (List.mem_of_getElem? hx)
    rw [← hfr] at c1 hfx
    have e1 : IntKind.i64.wrap ((fr : Int) + 1) = ((fr + 1 : Nat) : Int) := by rw [IntKind.wrap_i64]; omega
    have HPUT : Hid (∀ w5, w5 = (((w.setCell ⟨B, 1 + i * 4, none⟩ (.bool false)).setCell ⟨B, 1 + i * 4 + 1, none⟩ (.int .i64 ((fr + 1 : Nat) : Int))).setCell ⟨B, 1 + i * 4 + 2, none⟩ (.string ⟨#[]⟩)).setCell ⟨B, 1 + i * 4 + 3, none⟩ (.int .i64 0) → Bx 99 w5 B (svC tb (hs.set i ⟨false, x.freed + 1, [], 0⟩)) ∧ Only (fun k => k = B) w w5) := Lib.hid (fun w5 hw5 => by
      subst hw5
      refine ⟨?_, ((((Only.refl (fun k => k = B) w).setCell (.inl rfl) _).setCell (.inl rfl) _).setCell (.inl rfl) _).setCell (.inl rfl) _⟩
      have h1 := sv_put hb i x ⟨false, x.freed, x.path, x.how⟩ hx 0 (.bool false) (by omega) rfl
      rw [Nat.add_zero] at h1
      have h2 := sv_put' h1 i _ ⟨false, x.freed + 1, x.path, x.how⟩ (set_again _ _ _ (by omega)) 1 (.int .i64 ((x.freed + 1 : Nat) : Int)) (by omega) rfl
      rw [set_set] at h2
      have h3 := sv_put' h2 i _ ⟨false, x.freed + 1, [], x.how⟩ (set_again _ _ _ (by omega)) 2 (.string ⟨#[]⟩) (by omega) rfl
      rw [set_set] at h3
      have h4 := sv_put' h3 i _ ⟨false, x.freed + 1, [], 0⟩ (set_again _ _ _ (by omega)) 3 (.int .i64 0) (by omega) rfl
      rw [set_set] at h4
      rw [hfr]; exact h4)
    clear hr hq hb hl hf hx hpl hfr
    go_enter Tryz.func60, Tryz.ntmps60
    go_wp2_with (go_at_call 81; (with_reducible refine HFD.out.mono ?_); rintro e w' ⟨rfl, rfl⟩; unfold plP plE)
    go_ret
    rw [HR.out]
    obtain ⟨g1, g2⟩ := HPUT.out _ rfl
    exact ⟨rfl, g1, g2⟩

end Go.Proofs.YthjpighlcalocaaGreatDoor

namespace Go.Proofs.YthjpighlcalocaaGreatDoor
open Go.RowKit Go.Maps
set_option linter.unusedVariables false
set_option linter.unusedSimpArgs false

def sqV (x : Sq) (D : Option Addr) (m d : Nat) : Array Value := #[.int .i64 x.kd, .int .i64 x.mrk, .string (tx x.p), .string (tx x.q), .int .i64 x.how, .int .i64 x.han, .int .i64 x.a, .int .i64 x.c, .slice D m d]

theorem Bx.all7 {t : TypeId} {w : World} {B : Nat} {a0 a1 a2 a3 a4 a5 a6 : Value} (h : Bx t w B #[a0, a1, a2, a3, a4, a5, a6]) :
    B < w.heap.size ∧ (w.cell? ⟨B, 0, none⟩ = some a0 ∧ w.cell? ⟨B, 1, none⟩ = some a1 ∧ w.cell? ⟨B, 2, none⟩ = some a2 ∧ w.cell? ⟨B, 3, none⟩ = some a3 ∧ w.cell? ⟨B, 4, none⟩ = some a4 ∧ w.cell? ⟨B, 5, none⟩ = some a5 ∧ w.cell? ⟨B, 6, none⟩ = some a6) ∧
    (w.frozen? ⟨B, 0, none⟩ = false ∧ w.frozen? ⟨B, 1, none⟩ = false ∧ w.frozen? ⟨B, 2, none⟩ = false ∧ w.frozen? ⟨B, 3, none⟩ = false ∧ w.frozen? ⟨B, 4, none⟩ = false ∧ w.frozen? ⟨B, 5, none⟩ = false ∧ w.frozen? ⟨B, 6, none⟩ = false) :=
  ⟨h.lt, ⟨h.cell 0 _ rfl, h.cell 1 _ rfl, h.cell 2 _ rfl, h.cell 3 _ rfl, h.cell 4 _ rfl, h.cell 5 _ rfl, h.cell 6 _ rfl⟩, ⟨h.soft 0, h.soft 1, h.soft 2, h.soft 3, h.soft 4, h.soft 5, h.soft 6⟩⟩
theorem cs5 {w : World} {b S i : Nat} (h : b ≠ S) (v0 v1 v2 v3 v4 : Value) : (((((w.setCell ⟨S, 0, none⟩ v0).setCell ⟨S, 1, none⟩ v1).setCell ⟨S, 2, none⟩ v2).setCell ⟨S, 3, none⟩ v3).setCell ⟨S, 4, none⟩ v4).cell? ⟨b, i, none⟩ = w.cell? ⟨b, i, none⟩ := by
  have k : ∀ (W : World) j v, (W.setCell ⟨S, j, none⟩ v).cell? ⟨b, i, none⟩ = W.cell? ⟨b, i, none⟩ := fun W j v => World.cell?_of_block (Below.heap_setCell _ _ _ _ h)
  rw [k, k, k, k, k]
set_option maxHeartbeats 8000000 in
theorem svact_any (w : World) (B K : Nat) (s : Sd) (f : Rl) (p : Nat → Nat) (h : SvIs w B s f p K) (hK : K < 1000000) (hln : liveN s.T ≤ 1000000) (path : Byt) (x : Sq) (D : Option Addr) (m d : Nat) (hD : Ls byS w D x.data) (hm : x.data.length = m) (hcl : 0 < m → Clear (fun k => f k ≠ none) D) (hd : ∀ z ∈ x.data, 0 ≤ z ∧ z ≤ 255) (hk : 3 ≤ x.kd ∧ x.kd ≤ 10) :
    Calls Tryz.prog 62 #[.pointer (some ⟨B, 0, none⟩), .string (tx path), .agg (sqV x D m d)] w (RetSv w B f (K + 1) (actS s path x)) := by
  unfold sqV
  obtain ⟨kn, hkn⟩ : ∃ kn : Nat, x.kd = kn := ⟨x.kd.toNat, by omega⟩
  obtain ⟨tb, hbx, htr⟩ := h.tree
  have hB := h.lt
  have hfB := h.off
  obtain ⟨htab, hf0, hB0, h0s⟩ := h.tab
  have HLT := Lib.hid htr.lt
  have HH := Lib.hid h
  have hkn3 : 3 ≤ kn ∧ kn ≤ 10 := by omega
  have hact : actZ.getD kn 0 = actK x.kd := by rw [hkn]; exact actK_tab kn hkn3.1 hkn3.2
  obtain ⟨q5, hq5⟩ : ∃ q, q = w.heap.size := ⟨_, rfl⟩
  obtain ⟨q6, hq6⟩ : ∃ q, q = w.heap.size + 1 := ⟨_, rfl⟩
  obtain ⟨w1, hw1⟩ : ∃ w1, w1 = (w.alloc (.cells #[.int .i64 kn, .int .i64 x.mrk, .string (tx x.p), .string (tx x.q), .int .i64 x.how, .int .i64 x.han, .int .i64 x.a, .int .i64 x.c, .slice D m d] 46)).alloc (.cells zeroR 39) := ⟨_, rfl⟩
  have HB1 : Hid (Below w.heap.size w w1) := Lib.hid (by rw [hw1]; exact ba2 _ _ _)
  have HX5 : Hid (Bx 46 w1 q5 #[.int .i64 kn, .int .i64 x.mrk, .string (tx x.p), .string (tx x.q), .int .i64 x.how, .int .i64 x.han, .int .i64 x.a, .int .i64 x.c, .slice D m d]) := Lib.hid (by rw [hw1, hq5]; exact (bx_new _ _ _).below (ba1 _ _))
  have HX6 : Hid (Bx 39 w1 q6 zeroR) := Lib.hid (by
    rw [hw1, hq6]
    have := bx_new (w.alloc (.cells #[.int .i64 kn, .int .i64 x.mrk, .string (tx x.p), .string (tx x.q), .int .i64 x.how, .int .i64 x.han, .int .i64 x.a, .int .i64 x.c, .slice D m d] 46)) 39 zeroR
    simpa using this)
  have HQ : Hid (w.heap.size ≤ q5 ∧ q5 < q6 ∧ q6 < w1.heap.size) := Lib.hid ⟨by omega, by omega, HX6.out.lt⟩
  have HCALL : Hid (∀ wA, Below w1.heap.size w1 wA → Calls Tryz.prog 21 #[.pointer (some ⟨tb, 0, none⟩), .agg #[.int .i64 (actZ.getD kn 0), .string (tx path), .string (tx x.q), .int .i64 x.a, .int .i64 x.c, .slice D m d]] wA (RetDo wA tb f K (actT s.T (acOf path x)))) := Lib.hid (fun wA hA => by
    rw [hact]
    exact do_any (acOf path x) D m d wA tb s.T f p K ((htr.new HB1.out).new hA) hK hln ((hD.below HB1.out).below hA) hm hcl hd)
  obtain ⟨r, hr⟩ : ∃ r, r = actS s path x := ⟨_, rfl⟩
  have HR : Hid (r = (⟨(actT s.T (acOf path x)).1, s.hs⟩, srOf (actT s.T (acOf path x)).2)) := Lib.hid hr
  rw [← hr]
  have hfin : ∀ (wA w2 w9 : World) (y : Sv) (f' : Rl) (p' : Nat → Nat), Below w1.heap.size w1 wA → y.s = (actT s.T (acOf path x)).2 → SvOwn w2 wA.heap.size y → TreeIs w2 tb (actT s.T (acOf path x)).1 f' p' (K + 1) → Only (fun b => f b ≠ none) wA w2 → (∀ b, f' b ≠ none → f b ≠ none ∨ wA.heap.size ≤ b) → (∀ b, f' b ≠ none → ¬ SvB y b) →
      Only (fun b => w.heap.size ≤ b ∧ b < wA.heap.size) w2 w9 → RetSv w B f (K + 1) r (.returned (.agg (rvV (rvOf y)))) w9 := fun wA w2 w9 y f' p' hA h1 h2 h3 h4 h5 h6 h7 => by
    have z1 := HB1.out.size
    have z2 := hA.size
    have z3 := h4.size
    have hwA : Below w.heap.size w wA := bthen HB1.out hA
    have hf'B : f' B = none := by
      rcases hfb : f' B with _ | q
      · rfl
      · rcases h5 B (by rw [hfb]; simp) with g | g
        · exact absurd hfB g
        · omega
    have hf'0 : f' 0 = none := by
      rcases hfb : f' 0 with _ | q
      · rfl
      · rcases h5 0 (by rw [hfb]; simp) with g | g
        · exact absurd hf0 g
        · omega
    have hnf : ∀ b, (w.heap.size ≤ b ∧ b < wA.heap.size) → f' b = none := fun b hb => by
      rcases hfb : f' b with _ | q
      · rfl
      · rcases h5 b (by rw [hfb]; simp) with g | g
        · have := HLT.out b g; omega
        · omega
    have o29 : Only (fun b => f b ≠ none ∨ b = B) w w9 := ((only_new hwA).trans (T := fun b => f b ≠ none) h4 (fun b hb => .inl (.inl hb))).trans h7 (fun b hb => .inr hb.1)
    rw [HR.out]
    refine ⟨rvOf y, f', p', ?_, rfl, ?_, ⟨⟨tb, ?_, h3.only h7 hnf⟩, hf'B, HH.out.len, fun q hq => ?_, HH.out.tab.1.only o29 (fun g => ?_) h0s, hf'0, hB0, ?_⟩, o29, ?_, ?_⟩
    · show srOf y.s = _; rw [h1]
    · exact ((SvOwn.keep h2 h7 (fun k hk hs => by have := (h2.lt k hs).1; omega)).base (by omega)).rv
    · have hb1 : Bx 99 wA B (svC tb s.hs) := hbx.below hwA
      exact (hb1.only h4 (fun g => g hfB)).only h7 (fun g => by omega)
    · have := HH.out.hs q hq
      exact ⟨by omega, this.2⟩
    · rcases g with g | g
      · exact g hf0
      · exact hB0 g.symm
    · have := o29.size; omega
    · intro b hb
      rcases h5 b hb with g | g
      · exact .inl g
      · exact .inr (by omega)
    · intro b hb hs
      exact h6 b hb hs
  have HFIN := Lib.hid hfin
  have c0 := (HB1.out.cell (p := ⟨B, 0, none⟩) hB).trans (sv_tree hbx)
  have t0 := (HB1.out.cell (p := ⟨0, kn, none⟩) h0s).trans (htab kn (by omega))
  have lB : B < w1.heap.size := Nat.lt_of_lt_of_le hB HB1.out.size
  have l0 : 0 < w1.heap.size := Nat.lt_of_lt_of_le h0s HB1.out.size
  have x0 := HX5.out.cell 0 _ rfl
  have x3 := HX5.out.cell 3 _ rfl
  have x6 := HX5.out.cell 6 _ rfl
  have x7 := HX5.out.cell 7 _ rfl
  have x8 := HX5.out.cell 8 _ rfl
  have l5 := HX5.out.lt
  have i0 : (0 : Int) ≤ (kn : Int) := by omega
  have i1 : (kn : Int) < 11 := by omega
  obtain ⟨av, hav⟩ : ∃ av, av = actZ.getD kn 0 := ⟨_, rfl⟩
  rw [← hav] at t0 HCALL
  rw [hkn]
  clear h hbx htr htab hD hm hcl hd hk hkn hact hr hfin hav
  unfold zeroR at hw1
  go_enter Tryz.func62, Tryz.ntmps62
  go_upto_region 1 with fail
  rw [← hw1, ← hq6, ← hq5]
  clear hw1 hq5 hq6
  have b0 := cell_drew1 c0
  have bt0 := cell_drew1 t0
  have bx0 := cell_drew1 x0
  have bx3 := cell_drew1 x3
  have bx6 := cell_drew1 x6
  have bx7 := cell_drew1 x7
  have bx8 := cell_drew1 x8
  have HA1 : Hid (Below w1.heap.size w1 (w1.alloc (.cells #[.int .i64 0, .int .i64 0, .int .i64 0, .slice none 0 0, .slice none 0 0] 31)).drew) := Lib.hid (ba1 _ _).drew
  have HA2 : Hid (Below w1.heap.size w1 w1.drew) := Lib.hid (Below.refl _ _).drew
  have HZ1 : Hid (Bx 31 (w1.alloc (.cells #[.int .i64 0, .int .i64 0, .int .i64 0, .slice none 0 0, .slice none 0 0] 31)).drew w1.heap.size #[.int .i64 0, .int .i64 0, .int .i64 0, .slice none 0 0, .slice none 0 0]) := Lib.hid (bx_new w1 _ _)
  have HNF : Hid (¬ f w1.heap.size ≠ none) := Lib.hid (fun g => by have := HLT.out _ g; have := HB1.out.size; omega)
  have hkeep : ∀ wA W, Only (fun b => f b ≠ none) wA W → Below w1.heap.size w1 wA → (W.cell? ⟨B, 0, none⟩ = some (.pointer (some ⟨tb, 0, none⟩)) ∧ W.cell? ⟨0, kn, none⟩ = some (.int .i64 av) ∧ W.cell? ⟨q5, 0, none⟩ = some (.int .i64 kn) ∧ W.cell? ⟨q5, 3, none⟩ = some (.string (tx x.q)) ∧ W.cell? ⟨q5, 6, none⟩ = some (.int .i64 x.a) ∧ W.cell? ⟨q5, 7, none⟩ = some (.int .i64 x.c) ∧ W.cell? ⟨q5, 8, none⟩ = some (.slice D m d)) := fun wA W h4 hA => by
    have hq5f : ¬ f q5 ≠ none := fun g => by have := HLT.out _ g; have := HQ.out.1; omega
    have k : ∀ b j v, b < w1.heap.size → ¬ f b ≠ none → w1.cell? ⟨b, j, none⟩ = some v → W.cell? ⟨b, j, none⟩ = some v := fun b j v hb hf hc => (World.cell?_of_block (h4.block b (Nat.lt_of_lt_of_le hb hA.size) hf)).trans ((hA.cell (p := ⟨b, j, none⟩) hb).trans hc)
    exact ⟨k B 0 _ lB (fun g => g hfB) c0, k 0 kn _ l0 (fun g => g hf0) t0, k q5 0 _ l5 hq5f x0, k q5 3 _ l5 hq5f x3, k q5 6 _ l5 hq5f x6, k q5 7 _ l5 hq5f x7, k q5 8 _ l5 hq5f x8⟩
  have KEEP := Lib.hid hkeep
  have hBq : B ≠ w1.heap.size := by omega
  have h0q : 0 ≠ w1.heap.size := by omega
  have h5q : q5 ≠ w1.heap.size := by omega
  clear hkeep
  go_region_held3 (fun W => W.cell? ⟨B, 0, none⟩ = some (.pointer (some ⟨tb, 0, none⟩)) ∧ W.cell? ⟨0, kn, none⟩ = some (.int .i64 av) ∧ W.cell? ⟨q5, 0, none⟩ = some (.int .i64 kn) ∧ W.cell? ⟨q5, 3, none⟩ = some (.string (tx x.q)) ∧ W.cell? ⟨q5, 6, none⟩ = some (.int .i64 x.a) ∧ W.cell? ⟨q5, 7, none⟩ = some (.int .i64 x.c) ∧ W.cell? ⟨q5, 8, none⟩ = some (.slice D m d)) (first | (with_reducible exact ⟨m0, m1, m2, m3, m4, m5, m6⟩) | (with_reducible exact ⟨b0, bt0, bx0, bx3, bx6, bx7, bx8⟩) | (with_reducible exact ⟨(cs5 hBq _ _ _ _ _).trans m0, (cs5 h0q _ _ _ _ _).trans m1, (cs5 h5q _ _ _ _ _).trans m2, (cs5 h5q _ _ _ _ _).trans m3, (cs5 h5q _ _ _ _ _).trans m4, (cs5 h5q _ _ _ _ _).trans m5, (cs5 h5q _ _ _ _ _).trans m6⟩) | go_keep) (first
    | (go_at_call 21; (with_reducible refine (HCALL.out _ HA1.out).mono ?_); rintro e w2 ⟨y, f2, p2, hy1, rfl, hy2, hy3, hy4, hy5, hy6⟩; have HY1 := Lib.hid hy1; have HY2 := Lib.hid hy2; have HY3 := Lib.hid hy3; have HY4 := Lib.hid hy4; have HY5 := Lib.hid hy5; have HY6 := Lib.hid hy6; unfold snV; have hz2 := HZ1.out.only hy4 (fun g => HNF.out g); obtain ⟨d0, e0, e1, e2, e3, e4, g0, g1, g2, g3, g4⟩ := hz2.all5; have HZ2 := Lib.hid hz2; obtain ⟨m0, m1, m2, m3, m4, m5, m6⟩ := KEEP.out _ _ hy4 HA1.out; clear hz2 hy1 hy2 hy3 hy4 hy5 hy6)
    | (go_at_call 21; (with_reducible refine (HCALL.out _ HA2.out).mono ?_); rintro e w2 ⟨y, f2, p2, hy1, rfl, hy2, hy3, hy4, hy5, hy6⟩; have HY1 := Lib.hid hy1; have HY2 := Lib.hid hy2; have HY3 := Lib.hid hy3; have HY4 := Lib.hid hy4; have HY5 := Lib.hid hy5; have HY6 := Lib.hid hy6; unfold snV; obtain ⟨m0, m1, m2, m3, m4, m5, m6⟩ := KEEP.out _ _ hy4 HA2.out; clear hy1 hy2 hy3 hy4 hy5 hy6))
  · obtain ⟨q7, hq7⟩ : ∃ q, q = w2.heap.size := ⟨_, rfl⟩
    obtain ⟨w3, hw3⟩ : ∃ w3, w3 = w2.alloc (.cells #[.int .i64 y.s.code, .int .i64 y.s.kind, .int .i64 y.s.size, .slice y.A y.n y.c, .slice y.N y.m y.d] 31) := ⟨_, rfl⟩
    have HB3 : Hid (Below w2.heap.size w2 w3) := Lib.hid (by rw [hw3]; exact ba1 _ _)
    have HX7 : Hid (Bx 31 w3 q7 #[.int .i64 y.s.code, .int .i64 y.s.kind, .int .i64 y.s.size, .slice y.A y.n y.c, .slice y.N y.m y.d]) := Lib.hid (by rw [hw3, hq7]; exact bx_new _ _ _)
    have HX63 : Hid (Bx 39 w3 q6 zeroR) := Lib.hid (((HX6.out.below HA2.out).only HY4.out (fun g => by have := HLT.out _ g; have := HQ.out; omega)).below HB3.out)
    unfold zeroR at HX63
    rw [← hw3, ← hq7]
    clear hw3 hq7 c0 t0 x0 x3 x6 x7 x8 b0 bt0 bx0 bx3 bx6 bx7 bx8 m0 m1 m2 m3 m4 m5 m6
    obtain ⟨a7, ⟨r0, r1, r2, r3, r4⟩, -⟩ : q7 < w3.heap.size ∧ (w3.cell? ⟨q7, 0, none⟩ = some (.int .i64 y.s.code) ∧ w3.cell? ⟨q7, 1, none⟩ = some (.int .i64 y.s.kind) ∧ w3.cell? ⟨q7, 2, none⟩ = some (.int .i64 y.s.size) ∧ w3.cell? ⟨q7, 3, none⟩ = some (.slice y.A y.n y.c) ∧ w3.cell? ⟨q7, 4, none⟩ = some (.slice y.N y.m y.d)) ∧ True := by
      obtain ⟨g0, g1, g2, g3, g4, g5, -⟩ := HX7.out.all5
      exact ⟨g0, ⟨g1, g2, g3, g4, g5⟩, trivial⟩
    obtain ⟨a6, ⟨d0, d1, d2, d3, d4, d5, d6⟩, ⟨f0, f1, f2', f3, f4, f5, f6⟩⟩ := HX63.out.all7
    go_wp2_with fail
    obtain ⟨w9, hw9⟩ : ∃ w9, w9 = put7 w3 q6 (.int .i64 0) (.int .i64 y.s.code) (.int .i64 0) (.int .i64 y.s.kind) (.int .i64 y.s.size) (.slice y.A y.n y.c) (.slice y.N y.m y.d) := ⟨_, rfl⟩
    have HX9 : Hid (Bx 39 w9 q6 #[.int .i64 0, .int .i64 y.s.code, .int .i64 0, .int .i64 y.s.kind, .int .i64 y.s.size, .slice y.A y.n y.c, .slice y.N y.m y.d]) := Lib.hid (by rw [hw9]; exact HX63.out.put7 _ _ _ _ _ _ _)
    have HN9 : Hid (Only (fun b => b = q6) w3 w9) := Lib.hid (by rw [hw9]; exact only_put7 _ _ _ _ _ _ _ _ _)
    unfold put7 at hw9
    rw [← hw9]
    clear hw9 d0 d1 d2 d3 d4 d5 d6 f0 f1 f2' f3 f4 f5 f6 r0 r1 r2 r3 r4
    obtain ⟨-, ⟨d0, d1, d2, d3, d4, d5, d6⟩, -⟩ := HX9.out.all7
    refine end_ret (v := .agg (rvV (rvOf y))) (by unfold rvV rvOf srOf; simp [results, Tryz.results62, go_sem, d0, d1, d2, d3, d4, d5, d6]; try rfl) ?_
    refine HFIN.out _ w2 w9 y f2 p2 HA2.out HY1.out HY2.out HY3.out HY4.out HY5.out HY6.out ((only_new HB3.out).trans HN9.out (fun b hb => .inl ?_))
    have h1 := HQ.out
    have h2 := HA2.out.size
    rw [hb]; omega
  · obtain ⟨q7, hq7⟩ : ∃ q, q = w1.heap.size := ⟨_, rfl⟩
    obtain ⟨w3, hw3⟩ : ∃ w3, w3 = ((((w2.setCell ⟨w1.heap.size, 0, none⟩ (.int .i64 y.s.code)).setCell ⟨w1.heap.size, 1, none⟩ (.int .i64 y.s.kind)).setCell ⟨w1.heap.size, 2, none⟩ (.int .i64 y.s.size)).setCell ⟨w1.heap.size, 3, none⟩ (.slice y.A y.n y.c)).setCell ⟨w1.heap.size, 4, none⟩ (.slice y.N y.m y.d) := ⟨_, rfl⟩
    have HX7 : Hid (Bx 31 w3 q7 #[.int .i64 y.s.code, .int .i64 y.s.kind, .int .i64 y.s.size, .slice y.A y.n y.c, .slice y.N y.m y.d]) := Lib.hid (by rw [hw3, hq7]; exact HZ2.out.put5 _ _ _ _ _)
    have HQ7 : Hid (q6 < q7 ∧ q7 = w1.heap.size) := Lib.hid ⟨by have := HQ.out; omega, hq7⟩
    have HX63 : Hid (Bx 39 w3 q6 zeroR) := Lib.hid (by
      rw [hw3]
      exact ((HX6.out.below HA1.out).only HY4.out (fun g => by have := HLT.out _ g; have := HQ.out; omega)).other5 (by have := HQ.out; omega) _ _ _ _ _)
    have HN3 : Hid (Only (fun b => b = q7) w2 w3) := Lib.hid (by rw [hw3, hq7]; exact only_store5 (Only.refl (fun b => b = w1.heap.size) w2) (.inl rfl) _ _ _ _ _)
    unfold zeroR at HX63
    rw [← hw3, ← hq7]
    clear hw3 hq7 c0 t0 x0 x3 x6 x7 x8 b0 bt0 bx0 bx3 bx6 bx7 bx8 d0 e0 e1 e2 e3 e4 g0 g1 g2 g3 g4
    obtain ⟨a7, ⟨r0, r1, r2, r3, r4⟩, -⟩ : q7 < w3.heap.size ∧ (w3.cell? ⟨q7, 0, none⟩ = some (.int .i64 y.s.code) ∧ w3.cell? ⟨q7, 1, none⟩ = some (.int .i64 y.s.kind) ∧ w3.cell? ⟨q7, 2, none⟩ = some (.int .i64 y.s.size) ∧ w3.cell? ⟨q7, 3, none⟩ = some (.slice y.A y.n y.c) ∧ w3.cell? ⟨q7, 4, none⟩ = some (.slice y.N y.m y.d)) ∧ True := by
      obtain ⟨g0, g1, g2, g3, g4, g5, -⟩ := HX7.out.all5
      exact ⟨g0, ⟨g1, g2, g3, g4, g5⟩, trivial⟩
    obtain ⟨a6, ⟨d0, d1, d2, d3, d4, d5, d6⟩, ⟨f0, f1, f2', f3, f4, f5, f6⟩⟩ := HX63.out.all7
    go_wp2_with fail
    obtain ⟨w9, hw9⟩ : ∃ w9, w9 = put7 w3 q6 (.int .i64 0) (.int .i64 y.s.code) (.int .i64 0) (.int .i64 y.s.kind) (.int .i64 y.s.size) (.slice y.A y.n y.c) (.slice y.N y.m y.d) := ⟨_, rfl⟩
    have HX9 : Hid (Bx 39 w9 q6 #[.int .i64 0, .int .i64 y.s.code, .int .i64 0, .int .i64 y.s.kind, .int .i64 y.s.size, .slice y.A y.n y.c, .slice y.N y.m y.d]) := Lib.hid (by rw [hw9]; exact HX63.out.put7 _ _ _ _ _ _ _)
    have HN9 : Hid (Only (fun b => b = q6) w3 w9) := Lib.hid (by rw [hw9]; exact only_put7 _ _ _ _ _ _ _ _ _)
    unfold put7 at hw9
    rw [← hw9]
    clear hw9 d0 d1 d2 d3 d4 d5 d6 f0 f1 f2' f3 f4 f5 f6 r0 r1 r2 r3 r4
    obtain ⟨-, ⟨d0, d1, d2, d3, d4, d5, d6⟩, -⟩ := HX9.out.all7
    refine end_ret (v := .agg (rvV (rvOf y))) (by unfold rvV rvOf srOf; simp [results, Tryz.results62, go_sem, d0, d1, d2, d3, d4, d5, d6]; try rfl) ?_
    have h1 := HQ.out
    have h2 : w1.heap.size + 1 ≤ (w1.alloc (.cells #[.int .i64 0, .int .i64 0, .int .i64 0, .slice none 0 0, .slice none 0 0] 31)).drew.heap.size := HZ1.out.lt
    refine HFIN.out _ w2 w9 y f2 p2 HA1.out HY1.out HY2.out HY3.out HY4.out HY5.out HY6.out ((HN3.out.mono (fun b hb => ?_)).trans HN9.out (fun b hb => .inl ?_))
    · rw [hb, HQ7.out.2]; omega
    · rw [hb]; omega

end Go.Proofs.YthjpighlcalocaaGreatDoor

namespace Go.Proofs.YthjpighlcalocaaGreatDoor
open Go.RowKit Go.Maps
set_option linter.unusedVariables false
set_option linter.unusedSimpArgs false

theorem seen_field0 (v0 v1 v2 v3 v4 : Value) (w : World) : (Instr.field 31 (.agg #[v0, v1, v2, v3, v4]) 0).run Tryz.prog w = .ok v0 w := by kernel_rfl
theorem stat_same (T : Wd) (p : Byt) : (actT T (acStat p)).1 = T := by unfold actT acStat; simp
/-- what prepare leaves -/
def RetPr (w : World) (tb : Nat) (f : Rl) (K : Nat) (r : Wd × Int) (e : Ending) (w' : World) : Prop :=
  e = .returned (.int .i64 r.2) ∧ ∃ (f' : Rl) (p' : Nat → Nat), TreeIs w' tb r.1 f' p' K ∧ Only (fun b => f b ≠ none) w w' ∧ ∀ b, f' b ≠ none → f b ≠ none ∨ w.heap.size ≤ b

set_option maxRecDepth 100000 in
set_option maxHeartbeats 8000000 in
theorem prep_any (w : World) (B tb K : Nat) (hs : List Pl) (T : Wd) (f : Rl) (p : Nat → Nat) (hbx : Bx 99 w B (svC tb hs)) (hoff : f B = none) (htr : TreeIs w tb T f p K) (hK : K + 1 < 1000000) (hln : liveN T ≤ 1000000) (path : Byt) (how : Int) (h0 : 0 ≤ how) (h1 : how ≤ 31) :
    Calls Tryz.prog 79 #[.pointer (some ⟨B, 0, none⟩), .string (tx path), .int .i64 how] w (RetPr w tb f (K + 2) (prepT T path how)) := by
  have HDO : Hid (∀ kd wA fA pA KA, TreeIs wA tb T fA pA KA → KA < 1000000 → Calls Tryz.prog 21 #[.pointer (some ⟨tb, 0, none⟩), .agg #[.int .i64 kd, .string (tx path), .string ⟨#[]⟩, .int .i64 0, .int .i64 0, .slice none 0 0]] wA (RetDo wA tb fA KA (actT T ⟨kd, path, [], 0, 0, []⟩))) := Lib.hid (fun kd wA fA pA KA ht hk =>
    do_any ⟨kd, path, [], 0, 0, []⟩ none 0 0 wA tb T fA pA KA ht hk hln (Ls.nil _ _) rfl (fun h => by omega) (fun z hz => by cases hz))
  obtain ⟨-, b2, b4, b8, b16, b3⟩ := bits_bt how h0 h1
  obtain ⟨r, hr⟩ : ∃ r, r = prepT T path how := ⟨_, rfl⟩
  have HR := Lib.hid hr
  rw [← hr]
  obtain ⟨sn, hsn⟩ : ∃ sn, sn = (actT T (acStat path)).2 := ⟨_, rfl⟩
  have HSN : Hid (actT T ⟨6, path, [], 0, 0, []⟩ = (T, sn)) := Lib.hid (by rw [hsn]; exact Prod.ext (stat_same T path) rfl)
  unfold prepT at hr
  simp only [← hsn] at hr
  have HRR := Lib.hid hr
  have HT := Lib.hid htr
  have HBX := Lib.hid hbx
  have c0 := sv_tree hbx
  have lB := hbx.lt
  clear hr hsn hbx htr b2 b3
  have HD1 : Hid (Calls Tryz.prog 21 #[.pointer (some ⟨tb, 0, none⟩), .agg #[.int .i64 6, .string (tx path), .string ⟨#[]⟩, .int .i64 0, .int .i64 0, .slice none 0 0]] w (RetDo w tb f K (T, sn))) := Lib.hid (by rw [← HSN.out]; exact HDO.out 6 w f p K HT.out (by omega))
  have hfld := seen_field0
  go_enter Tryz.func79, Tryz.ntmps79
  go_upto_region 2 with (go_at_call 21; (with_reducible refine HD1.out.mono ?_); rintro e w2 ⟨y, f2, p2, hy1, rfl, hy2, hy3, hy4, hy5, hy6⟩; have HY1 := Lib.hid hy1; have HY3 := Lib.hid hy3; have HY4 := Lib.hid hy4; have HY5 := Lib.hid hy5; unfold snV; clear hy1 hy2 hy3 hy4 hy5 hy6)
  obtain ⟨q7, hq7⟩ : ∃ q, q = w2.heap.size := ⟨_, rfl⟩
  obtain ⟨w3, hw3⟩ : ∃ w3, w3 = w2.alloc (.cells #[.int .i64 y.s.code, .int .i64 y.s.kind, .int .i64 y.s.size, .slice y.A y.n y.c, .slice y.N y.m y.d] 31) := ⟨_, rfl⟩
  have HB3 : Hid (Below w2.heap.size w2 w3) := Lib.hid (by rw [hw3]; exact ba1 _ _)
  have HX7 : Hid (Bx 31 w3 q7 #[.int .i64 y.s.code, .int .i64 y.s.kind, .int .i64 y.s.size, .slice y.A y.n y.c, .slice y.N y.m y.d]) := Lib.hid (by rw [hw3, hq7]; exact bx_new _ _ _)
  have HT3 : Hid (TreeIs w3 tb T f2 p2 (K + 1)) := Lib.hid (HY3.out.new HB3.out)
  have HO3 : Hid (Only (fun b => f b ≠ none) w w3) := Lib.hid (HY4.out.new HB3.out)
  have HBX3 : Hid (Bx 99 w3 B (svC tb hs)) := Lib.hid (HBX.out.only HO3.out (fun g => g hoff))
  rw [← hw3, ← hq7]
  have HSN2 : Hid (y.s = sn) := Lib.hid (by rw [HY1.out])
  obtain ⟨cd, hcd⟩ : ∃ c, c = y.s.code := ⟨_, rfl⟩
  obtain ⟨kd, hkd⟩ : ∃ c, c = y.s.kind := ⟨_, rfl⟩
  have HCD : Hid (sn.code = cd ∧ sn.kind = kd) := Lib.hid (by rw [hcd, hkd, HSN2.out]; exact ⟨rfl, rfl⟩)
  have x0 := HX7.out.cell 0 _ rfl
  have x1 := HX7.out.cell 1 _ rfl
  have l7 := HX7.out.lt
  rw [← hcd] at x0
  rw [← hkd] at x1
  have d0 := sv_tree HBX3.out
  have lB3 := HBX3.out.lt
  clear hw3 hq7 hcd hkd c0
  have stay : ∀ (v : Int), r = (T, v) → RetPr w tb f (K + 2) r (.returned (.int .i64 v)) w3 := fun v hv => by
    rw [hv]
    exact ⟨rfl, f2, p2, HT3.out.mono (by omega), HO3.out, HY5.out⟩
  have STAY := Lib.hid stay
  have go : ∀ (k : Int) (y4 : Sv) (f4 : Rl) (p4 : Nat → Nat) (w4 : World), r = ((actT T ⟨k, path, [], 0, 0, []⟩).1, (actT T ⟨k, path, [], 0, 0, []⟩).2.code) → y4.s = (actT T ⟨k, path, [], 0, 0, []⟩).2 → TreeIs w4 tb (actT T ⟨k, path, [], 0, 0, []⟩).1 f4 p4 (K + 1 + 1) → Only (fun b => f2 b ≠ none) w3 w4 → (∀ b, f4 b ≠ none → f2 b ≠ none ∨ w3.heap.size ≤ b) → RetPr w tb f (K + 2) r (.returned (.int .i64 y4.s.code)) w4 := fun k y4 f4 p4 w4 hr hy h3 h4 h5 => by
    rw [hr, hy]
    have z := HY4.out.size
    have z3 := HO3.out.size
    refine ⟨rfl, f4, p4, h3, HO3.out.trans h4 (fun b hb => HY5.out b hb), fun b hb => ?_⟩
    rcases h5 b hb with g | g
    · exact HY5.out b g
    · exact .inr (by omega)
  have GO := Lib.hid go
  have HD3 := Lib.hid (fun k => HDO.out k w3 f2 p2 (K + 1) HT3.out (by omega))
  clear stay go
  have HRC : Hid (r = if cd = 7 ∧ bt 4 how = true then ((actT T (acMake path)).1, (actT T (acMake path)).2.code) else if cd ≠ 0 then (T, cd) else if bt 8 how = true then (T, 8) else if kd = 1 then (T, 14) else if bt 16 how = true then ((actT T (acCut path)).1, (actT T (acCut path)).2.code) else (T, 0)) := Lib.hid (by rw [HRR.out, HCD.out.1, HCD.out.2])
  generalize bt 4 how = t4 at *
  generalize bt 8 how = t8 at *
  generalize bt 16 how = t16 at *
  by_cases h7 : cd = 7
  · subst h7
    cases t4
    · have HE : Hid (r = (T, 7)) := Lib.hid (by rw [HRC.out, if_neg (by simp), if_pos (by decide)])
      simp only [Bool.false_eq_true, if_false] at b4
      go_wp2_with fail
      go_ret
      exact STAY.out 7 HE.out
    · have HE : Hid (r = ((actT T ⟨2, path, [], 0, 0, []⟩).1, (actT T ⟨2, path, [], 0, 0, []⟩).2.code)) := Lib.hid (by rw [HRC.out, if_pos ⟨rfl, rfl⟩]; rfl)
      simp only [if_true] at b4
      go_wp2_with (go_at_call 21; (with_reducible refine (HD3.out 2).mono ?_); rintro e w4 ⟨y4, f4, p4, hy1, rfl, hy2, hy3, hy4, hy5, hy6⟩; have HZ1 := Lib.hid hy1; have HZ3 := Lib.hid hy3; have HZ4 := Lib.hid hy4; have HZ5 := Lib.hid hy5; unfold snV; clear hy1 hy2 hy3 hy4 hy5 hy6)
      go_ret
      exact GO.out 2 y4 f4 p4 w4 HE.out HZ1.out HZ3.out HZ4.out HZ5.out
  · have z1 : (cd == 7) = false := by simpa using h7
    have z2 : decide (cd = 7) = false := by simpa using h7
    by_cases hz : cd = 0
    · subst hz
      clear z1 z2 h7
      cases t8
      · simp only [Bool.false_eq_true, if_false] at b8
        by_cases h1 : kd = 1
        · subst h1
          have HE : Hid (r = (T, 14)) := Lib.hid (by rw [HRC.out, if_neg (by simp), if_neg (by simp), if_neg (by simp), if_pos rfl])
          go_wp2_with fail
          go_ret
          exact STAY.out 14 HE.out
        · have z1 : (kd == 1) = false := by simpa using h1
          have z2 : decide (kd = 1) = false := by simpa using h1
          cases t16
          · have HE : Hid (r = (T, 0)) := Lib.hid (by rw [HRC.out, if_neg (by simp), if_neg (by simp), if_neg (by simp), if_neg h1, if_neg (by simp)])
            simp only [Bool.false_eq_true, if_false] at b16
            clear h1
            go_wp2_with fail
            go_ret
            exact STAY.out 0 HE.out
          · have HE : Hid (r = ((actT T ⟨5, path, [], 0, 0, []⟩).1, (actT T ⟨5, path, [], 0, 0, []⟩).2.code)) := Lib.hid (by rw [HRC.out, if_neg (by simp), if_neg (by simp), if_neg (by simp), if_neg h1, if_pos rfl]; rfl)
            simp only [if_true] at b16
            clear h1
            go_wp2_with (go_at_call 21; (with_reducible refine (HD3.out 5).mono ?_); rintro e w4 ⟨y4, f4, p4, hy1, rfl, hy2, hy3, hy4, hy5, hy6⟩; have HZ1 := Lib.hid hy1; have HZ3 := Lib.hid hy3; have HZ4 := Lib.hid hy4; have HZ5 := Lib.hid hy5; unfold snV; clear hy1 hy2 hy3 hy4 hy5 hy6)
            go_ret
            exact GO.out 5 y4 f4 p4 w4 HE.out HZ1.out HZ3.out HZ4.out HZ5.out
      · have HE : Hid (r = (T, 8)) := Lib.hid (by rw [HRC.out, if_neg (by simp), if_neg (by simp), if_pos rfl])
        simp only [if_true] at b8
        go_wp2_with fail
        go_ret
        exact STAY.out 8 HE.out
    · have HE : Hid (r = (T, cd)) := Lib.hid (by rw [HRC.out, if_neg (by simp [h7]), if_pos hz])
      have z3 : (cd == 0) = false := by simpa using hz
      have z4 : decide (cd = 0) = false := by simpa using hz
      clear h7 hz
      go_wp2_with fail
      go_ret
      exact STAY.out cd HE.out

theorem SvIs.mk2 {w w2 : World} {B K K' tb : Nat} {s : Sd} {f f2 : Rl} {p p2 : Nat → Nat} {T' : Wd} {hs' : List Pl} (h : SvIs w B s f p K) (ho : Only (fun b => f b ≠ none ∨ b = B) w w2) (hn : ∀ b, f2 b ≠ none → f b ≠ none ∨ w.heap.size ≤ b)
    (hb : Bx 99 w2 B (svC tb hs')) (ht : TreeIs w2 tb T' f2 p2 K') (hl : hs'.length = 8) (hh : ∀ x ∈ hs', x.freed ≤ K' ∧ 0 ≤ x.how ∧ x.how ≤ 31) : SvIs w2 B ⟨T', hs'⟩ f2 p2 K' := by
  have hB := h.lt
  obtain ⟨t1, t2, t3, t4⟩ := h.tab
  have hno : ∀ b, b < w.heap.size → f b = none → f2 b = none := fun b hb hf => by
    rcases e : f2 b with _ | q
    · rfl
    · rcases hn b (by rw [e]; simp) with g | g
      · exact absurd hf g
      · omega
  refine ⟨⟨tb, hb, ht⟩, hno B hB h.off, hl, hh, t1.only ho (fun g => ?_) t4, hno 0 t4 t2, t3, Nat.lt_of_lt_of_le t4 ho.size⟩
  rcases g with g | g
  · exact g t2
  · exact t3 g.symm
/-- what open leaves -/
def RetOp (w : World) (B : Nat) (f : Rl) (K : Nat) (r : Sd × (Int × Int)) (e : Ending) (w' : World) : Prop :=
  e = .returned (.tuple #[.int .i64 r.2.1, .int .i64 r.2.2]) ∧ ∃ (f' : Rl) (p' : Nat → Nat), SvIs w' B r.1 f' p' K ∧ Only (fun b => f b ≠ none ∨ b = B) w w' ∧ ∀ b, f' b ≠ none → f b ≠ none ∨ w.heap.size ≤ b

set_option maxHeartbeats 8000000 in
theorem svopen_any (w : World) (B K : Nat) (s : Sd) (f : Rl) (p : Nat → Nat) (h : SvIs w B s f p K) (hK : K + 1 < 1000000) (hln : liveN s.T ≤ 1000000) (path : Byt) (how : Int) :
    Calls Tryz.prog 59 #[.pointer (some ⟨B, 0, none⟩), .string (tx path), .int .i64 how] w (RetOp w B f (K + 2) (openS s path how)) := by
  obtain ⟨tb, hbx, htr⟩ := h.tree
  have hB := h.lt
  have HH := Lib.hid h
  have HBX := Lib.hid hbx
  have HTR := Lib.hid htr
  obtain ⟨v, hv⟩ : ∃ v, isHowT how = v := ⟨_, rfl⟩
  have HIS := Lib.hid (isHow_any how w v hv)
  obtain ⟨r, hr⟩ : ∃ r, r = openS s path how := ⟨_, rfl⟩
  have HR : Hid (r = if v = false then (s, (0, 4)) else match freeH s.hs with | none => (s, (0, 9)) | some i => if (prepT s.T path how).2 ≠ 0 then (⟨(prepT s.T path how).1, s.hs⟩, (0, (prepT s.T path how).2)) else (⟨(prepT s.T path how).1, s.hs.set i ⟨true, (plAt s.hs i).freed, path, how⟩⟩, (numH s.hs i, 0))) := Lib.hid (by rw [hr, ← hv]; rfl)
  rw [← hr]
  have keep : ∀ (c : Int) (w9 : World), r = (s, (0, c)) → Below w.heap.size w w9 → RetOp w B f (K + 2) r (.returned (.tuple #[.int .i64 0, .int .i64 c])) w9 := fun c w9 h1 h2 => by
    rw [h1]
    exact ⟨rfl, f, p, (HH.out.new h2).mono (by omega), only_new h2, fun b hb => .inl hb⟩
  have KEEP := Lib.hid keep
  clear h hbx htr hr keep
  rcases v with _ | _
  · have HE : Hid (r = (s, (0, 4))) := Lib.hid (by rw [HR.out, if_pos rfl])
    clear hv
    go_enter Tryz.func59, Tryz.ntmps59
    go_wp2_with (go_at_call 77; (with_reducible refine HIS.out.mono ?_); rintro e w' ⟨rfl, rfl⟩)
    go_ret2
    exact KEEP.out 4 w HE.out (Below.refl _ _)
  · obtain ⟨h0, h1⟩ : 0 ≤ how ∧ how ≤ 31 := by
      unfold isHowT at hv
      simp at hv
      exact hv.1
    obtain ⟨q, hq⟩ : ∃ q, freeH s.hs = q := ⟨_, rfl⟩
    have HFR := Lib.hid (hfree_any w B tb s.hs HBX.out HH.out.len q hq)
    rcases q with _ | i
    · have HE : Hid (r = (s, (0, 9))) := Lib.hid (by rw [HR.out, if_neg (by simp), hq])
      clear hv hq
      unfold frT at HFR
      go_enter Tryz.func59, Tryz.ntmps59
      go_wp2_with (first
        | (go_at_call 77; (with_reducible refine HIS.out.mono ?_); rintro e w' ⟨rfl, rfl⟩)
        | (go_at_call 78; (with_reducible refine HFR.out.mono ?_); rintro e w1 ⟨rfl, hb1⟩; have HB1 := Lib.hid hb1; clear hb1))
      go_ret2
      exact KEEP.out 9 w1 HE.out HB1.out
    · obtain ⟨hi8, hop⟩ := freeH_some hq
      obtain ⟨g, hg⟩ : ∃ g, g = prepT s.T path how := ⟨_, rfl⟩
      have HG : Hid (r = if g.2 ≠ 0 then (⟨g.1, s.hs⟩, (0, g.2)) else (⟨g.1, s.hs.set i ⟨true, (plAt s.hs i).freed, path, how⟩⟩, (numH s.hs i, 0))) := Lib.hid (by rw [HR.out, if_neg (by simp), hq, hg])
      have HPR : Hid (∀ w1, Below w.heap.size w w1 → Calls Tryz.prog 79 #[.pointer (some ⟨B, 0, none⟩), .string (tx path), .int .i64 how] w1 (RetPr w1 tb f (K + 2) g)) := Lib.hid (fun w1 hb => by
        rw [hg]
        exact prep_any w1 B tb K s.hs s.T f p (HBX.out.below hb) HH.out.off (HTR.out.new hb) hK hln path how h0 h1)
      have HP8 := Lib.hid (HH.out.place i hi8)
      have HHOW := Lib.hid (And.intro h0 h1)
      unfold frT at HFR
      clear hv hq hg hop h0 h1
      have after : ∀ (w1 w2 : World) (f2 : Rl) (p2 : Nat → Nat), Below w.heap.size w w1 → Only (fun b => f b ≠ none) w1 w2 → (∀ b, f2 b ≠ none → f b ≠ none ∨ w1.heap.size ≤ b) → (Only (fun b => f b ≠ none ∨ b = B) w w2 ∧ (∀ b, f2 b ≠ none → f b ≠ none ∨ w.heap.size ≤ b) ∧ Bx 99 w2 B (svC tb s.hs)) := fun w1 w2 f2 p2 h1 h2 h3 => by
        have z := h1.size
        refine ⟨(only_new h1).trans (T := fun b => f b ≠ none) h2 (fun b hb => .inl (.inl hb)), fun b hb => ?_, (HBX.out.below h1).only h2 (fun g => g HH.out.off)⟩
        rcases h3 b hb with g | g
        · exact .inl g
        · exact .inr (by omega)
      have AFTER := Lib.hid after
      clear after
      obtain ⟨gT, gc⟩ := g
      by_cases hc : gc = 0
      · subst hc
        have HE : Hid (r = (⟨gT, s.hs.set i ⟨true, (plAt s.hs i).freed, path, how⟩⟩, (numH s.hs i, 0))) := Lib.hid (by rw [HG.out, if_neg (by simp)])
        have HTK : Hid (∀ w2, Bx 99 w2 B (svC tb s.hs) → Calls Tryz.prog 80 #[.pointer (some ⟨B, 1, none⟩), .int .i64 i, .string (tx path), .int .i64 how] w2 fun e w' => e = .returned (.int .i64 (numH s.hs i)) ∧ Bx 99 w' B (svC tb (s.hs.set i ⟨true, (plAt s.hs i).freed, path, how⟩)) ∧ Only (fun k => k = B) w2 w') := Lib.hid (fun w2 hb => htake_any w2 B tb i s.hs hb HH.out.len hi8 (by have := HP8.out.2.1; omega) path how)
        go_enter Tryz.func59, Tryz.ntmps59
        go_wp2_with (first
          | (go_at_call 77; (with_reducible refine HIS.out.mono ?_); rintro e w' ⟨rfl, rfl⟩)
          | (go_at_call 78; (with_reducible refine HFR.out.mono ?_); rintro e w1 ⟨rfl, hb1⟩; have HB1 := Lib.hid hb1; clear hb1)
          | (go_at_call 79; (with_reducible refine (HPR.out _ HB1.out).mono ?_); rintro e w2 ⟨rfl, f2, p2, ht2, ho2, hn2⟩; have HA2 := Lib.hid (AFTER.out _ _ f2 p2 HB1.out ho2 hn2); have HT2 := Lib.hid ht2; clear ht2 ho2 hn2)
          | (go_at_call 80; (with_reducible refine (HTK.out _ HA2.out.2.2).mono ?_); rintro e w3 ⟨rfl, hx3, ho3⟩; have HX3 := Lib.hid hx3; have HO3 := Lib.hid ho3; clear hx3 ho3))
        go_ret2
        rw [HE.out]
        obtain ⟨o1, o2, o3⟩ := HA2.out
        have o4 : Only (fun b => f b ≠ none ∨ b = B) w w3 := o1.trans HO3.out (fun b hb => .inl (.inr hb))
        have hf2B : f2 B = none := by
          rcases e : f2 B with _ | q
          · rfl
          · rcases o2 B (by rw [e]; simp) with g | g
            · exact absurd HH.out.off g
            · omega
        refine ⟨rfl, f2, p2, HH.out.mk2 o4 o2 HX3.out (HT2.out.only HO3.out (fun b hb => by rw [hb]; exact hf2B)) (by simp [HH.out.len]) (fun x hx => ?_), o4, o2⟩
        rcases List.mem_or_eq_of_mem_set hx with hx | rfl
        · have := HH.out.hs x hx; exact ⟨by omega, this.2⟩
        · have := HP8.out.2.1; exact ⟨by simp only; omega, HHOW.out⟩
      · have HE : Hid (r = (⟨gT, s.hs⟩, (0, gc))) := Lib.hid (by rw [HG.out, if_pos hc])
        have z1 : (gc == 0) = false := by simpa using hc
        have z2 : decide (gc = 0) = false := by simpa using hc
        clear hc
        go_enter Tryz.func59, Tryz.ntmps59
        go_wp2_with (first
          | (go_at_call 77; (with_reducible refine HIS.out.mono ?_); rintro e w' ⟨rfl, rfl⟩)
          | (go_at_call 78; (with_reducible refine HFR.out.mono ?_); rintro e w1 ⟨rfl, hb1⟩; have HB1 := Lib.hid hb1; clear hb1)
          | (go_at_call 79; (with_reducible refine (HPR.out _ HB1.out).mono ?_); rintro e w2 ⟨rfl, f2, p2, ht2, ho2, hn2⟩; have HA2 := Lib.hid (AFTER.out _ _ f2 p2 HB1.out ho2 hn2); have HT2 := Lib.hid ht2; clear ht2 ho2 hn2))
        go_ret2
        rw [HE.out]
        obtain ⟨o1, o2, o3⟩ := HA2.out
        refine ⟨rfl, f2, p2, HH.out.mk2 o1 o2 o3 HT2.out HH.out.len (fun x hx => ?_), o1, o2⟩
        have := HH.out.hs x hx; exact ⟨by omega, this.2⟩

end Go.Proofs.YthjpighlcalocaaGreatDoor
