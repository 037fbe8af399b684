/-
  Contract of seg.read, first part: the numbers ahead of the Sacks.
-/
import Derived.Test.YtgmpablmkpamaaaChunk
import Derived.Test.YtgmpablmkpamaaaSeg5
import Derived.Test.YtgmpablmkpamaaaMem
import Derived.Laws.NewBlocks
namespace Go.Proofs.Ytgmpablmkpamaaa
open Go.RowKit Go.Shelf
set_option linter.unusedVariables false
set_option linter.unusedSimpArgs false
attribute [local go_sem] Oper.semAt_some

/-- a pair of bytes of a list, read at any later world -/
theorem pair_at (b o n c i : Nat) (zs : List Int) (w : World) (hb : Bs w (some ⟨b, o, none⟩) zs) (hn : zs.length = n) (hi : i + 2 ≤ n) :
    Calls Try.prog 29 #[.slice (some ⟨b, o + i, none⟩) (n - i) c] w fun e w' => e = .returned (.int .i64 (wd zs i)) ∧ Below w.heap.size w w' := by
  obtain ⟨b1, o1, x, e, hc1, x0, x1, hx⟩ := hb.at i (by omega)
  obtain ⟨b2, o2, y, e2, hc2, y0, y1, hy⟩ := hb.at (i + 1) (by omega)
  injection e with e; injection e with e3 e4; subst e3; subst e4
  injection e2 with e2; injection e2 with e5 e6; subst e5; subst e6
  rw [wd, ← hx, ← hy]
  exact pair_any b (o + i) (n - i) c x y w (by omega) x0 x1 y0 y1 hc1 hc2

theorem pair_at2 (b o len c i : Nat) (zs : List Int) (w : World) (hb : Bs w (some ⟨b, o, none⟩) zs) (hl : 2 ≤ len) (hi : i + 2 ≤ zs.length) :
    Calls Try.prog 29 #[.slice (some ⟨b, o + i, none⟩) len c] w fun e w' => e = .returned (.int .i64 (wd zs i)) ∧ Below w.heap.size w w' := by
  obtain ⟨b1, o1, x, e, hc1, x0, x1, hx⟩ := hb.at i (by omega)
  obtain ⟨b2, o2, y, e2, hc2, y0, y1, hy⟩ := hb.at (i + 1) (by omega)
  injection e with e; injection e with e3 e4; subst e3; subst e4
  injection e2 with e2; injection e2 with e5 e6; subst e5; subst e6
  rw [wd, ← hx, ← hy]
  exact pair_any b (o + i) len c x y w hl x0 x1 y0 y1 hc1 hc2

theorem box9_below {w w' : World} {B : Nat} {v0 v1 v2 v3 v4 v5 v6 v7 v8 : Value} (h : Box9 w B v0 v1 v2 v3 v4 v5 v6 v7 v8) (hb : Below w.heap.size w w') : Box9 w' B v0 v1 v2 v3 v4 v5 v6 v7 v8 := (hb.block B (lt_of_block h)).trans h

/-- the segment's box, with the three numbers -/
def Read1 (w1 : World) (s0 s1 s2 : Int) (t : Value) (wc : World) : Prop :=
  ∃ S, t = .pointer (some ⟨S, 0, none⟩) ∧ w1.heap.size ≤ S ∧ Box9 wc S (.int .i64 s0) (.int .i64 s1) (.int .i64 s2) (.bool false) (.bool false) (.bool false) (.bool false) (.slice none 0 0) (.slice none 0 0) ∧ Below w1.heap.size w1 wc

theorem box9_s0 {w : World} {S : Nat} {v0 v1 v2 v3 v4 v5 v6 v7 v8 : Value} (h : Box9 w S v0 v1 v2 v3 v4 v5 v6 v7 v8) (u : Value) : Box9 (w.setCell ⟨S, 0, none⟩ u) S u v1 v2 v3 v4 v5 v6 v7 v8 := cells_setCell h
theorem box9_s1 {w : World} {S : Nat} {v0 v1 v2 v3 v4 v5 v6 v7 v8 : Value} (h : Box9 w S v0 v1 v2 v3 v4 v5 v6 v7 v8) (u : Value) : Box9 (w.setCell ⟨S, 1, none⟩ u) S v0 u v2 v3 v4 v5 v6 v7 v8 := cells_setCell h
theorem box9_s2 {w : World} {S : Nat} {v0 v1 v2 v3 v4 v5 v6 v7 v8 : Value} (h : Box9 w S v0 v1 v2 v3 v4 v5 v6 v7 v8) (u : Value) : Box9 (w.setCell ⟨S, 2, none⟩ u) S v0 v1 u v3 v4 v5 v6 v7 v8 := cells_setCell h
theorem box9_s3 {w : World} {S : Nat} {v0 v1 v2 v3 v4 v5 v6 v7 v8 : Value} (h : Box9 w S v0 v1 v2 v3 v4 v5 v6 v7 v8) (u : Value) : Box9 (w.setCell ⟨S, 3, none⟩ u) S v0 v1 v2 u v4 v5 v6 v7 v8 := cells_setCell h
theorem box9_s4 {w : World} {S : Nat} {v0 v1 v2 v3 v4 v5 v6 v7 v8 : Value} (h : Box9 w S v0 v1 v2 v3 v4 v5 v6 v7 v8) (u : Value) : Box9 (w.setCell ⟨S, 4, none⟩ u) S v0 v1 v2 v3 u v5 v6 v7 v8 := cells_setCell h
theorem box9_s5 {w : World} {S : Nat} {v0 v1 v2 v3 v4 v5 v6 v7 v8 : Value} (h : Box9 w S v0 v1 v2 v3 v4 v5 v6 v7 v8) (u : Value) : Box9 (w.setCell ⟨S, 5, none⟩ u) S v0 v1 v2 v3 v4 u v6 v7 v8 := cells_setCell h
theorem box9_s6 {w : World} {S : Nat} {v0 v1 v2 v3 v4 v5 v6 v7 v8 : Value} (h : Box9 w S v0 v1 v2 v3 v4 v5 v6 v7 v8) (u : Value) : Box9 (w.setCell ⟨S, 6, none⟩ u) S v0 v1 v2 v3 v4 v5 u v7 v8 := cells_setCell h
theorem box9_s7 {w : World} {S : Nat} {v0 v1 v2 v3 v4 v5 v6 v7 v8 : Value} (h : Box9 w S v0 v1 v2 v3 v4 v5 v6 v7 v8) (u : Value) : Box9 (w.setCell ⟨S, 7, none⟩ u) S v0 v1 v2 v3 v4 v5 v6 u v8 := cells_setCell h
theorem box9_s8 {w : World} {S : Nat} {v0 v1 v2 v3 v4 v5 v6 v7 v8 : Value} (h : Box9 w S v0 v1 v2 v3 v4 v5 v6 v7 v8) (u : Value) : Box9 (w.setCell ⟨S, 8, none⟩ u) S v0 v1 v2 v3 v4 v5 v6 v7 u := cells_setCell h
theorem box9_store {w : World} {S : Nat} {a0 a1 a2 a3 a4 a5 a6 a7 a8 : Value} (h : Box9 w S a0 a1 a2 a3 a4 a5 a6 a7 a8) (v0 v1 v2 v3 v4 v5 v6 v7 v8 : Value) :
    Box9 (((((((((w.setCell ⟨S, 0, none⟩ v0).setCell ⟨S, 1, none⟩ v1).setCell ⟨S, 2, none⟩ v2).setCell ⟨S, 3, none⟩ v3).setCell ⟨S, 4, none⟩ v4).setCell ⟨S, 5, none⟩ v5).setCell ⟨S, 6, none⟩ v6).setCell ⟨S, 7, none⟩ v7).setCell ⟨S, 8, none⟩ v8) S v0 v1 v2 v3 v4 v5 v6 v7 v8 :=
  (box9_s8 (box9_s7 (box9_s6 (box9_s5 (box9_s4 (box9_s3 (box9_s2 (box9_s1 (box9_s0 h v0) v1) v2) v3) v4) v5) v6) v7) v8)
theorem below_store {w0 w : World} {B S : Nat} (h : Below B w0 w) (hS : B ≤ S) (v0 v1 v2 v3 v4 v5 v6 v7 v8 : Value) :
    Below B w0 (((((((((w.setCell ⟨S, 0, none⟩ v0).setCell ⟨S, 1, none⟩ v1).setCell ⟨S, 2, none⟩ v2).setCell ⟨S, 3, none⟩ v3).setCell ⟨S, 4, none⟩ v4).setCell ⟨S, 5, none⟩ v5).setCell ⟨S, 6, none⟩ v6).setCell ⟨S, 7, none⟩ v7).setCell ⟨S, 8, none⟩ v8) :=
  ((((((((h.setCell hS _).setCell hS _).setCell hS _).setCell hS _).setCell hS _).setCell hS _).setCell hS _).setCell hS _).setCell hS _

theorem leaves_end {F : Fence} {n : Nat} {P : Program} {fn : Func} {tmps : Array Value} {R : Ending → World → Prop} {w : World} {v : Value} (h : (results fn tmps).run P w = .ok v w) (hR : R (.returned v) w) :
    bodyPostM F n P fn R .ret { tmps := tmps, defers := [] } w := ⟨v, h, hR⟩
/-- a way that ends as it should -/
def onlyN (Q : Exit → Act → World → Prop) : Exit → Act → World → Prop
  | .normal, a, w => Q .normal a w
  | _, _, _ => False
theorem onlyN_le {Q : Exit → Act → World → Prop} : ∀ e a w, onlyN Q e a w → Q e a w
  | .normal, _, _, h => h
  | .exit _, _, _, h => h.elim
  | .goto _, _, _, h => h.elim
  | .ret, _, _, h => h.elim
  | .panic _, _, _, h => h.elim
  | .outgrown, _, _, h => h.elim

def readB (zs : List Int) : Bool := decide (zs.getD 6 0 ≤ 15) && decide (10 + 4 * cnt zs ≤ zs.length)
/-- what is read where there is no more to read -/
def dec0 (zs : List Int) : Sg where
  seq := wd zs 0
  ack := wd zs 2
  win := wd zs 4
  f0 := bit (zs.getD 6 0) 1
  f1 := bit (zs.getD 6 0) 2
  f2 := bit (zs.getD 6 0) 4
  f3 := bit (zs.getD 6 0) 8
  sacks := []
  data := []
/-- a segment whose rows are the call's own -/
def SegOwn (w : World) (base : Nat) (s : Sg) (A : Option Addr) (n c : Nat) (D : Option Addr) (m d : Nat) : Prop := OwnR w base A n c s.sacks ∧ OwnB w base D m d s.data
theorem SegOwn.is {w : World} {base : Nat} {s : Sg} {A : Option Addr} {n c : Nat} {D : Option Addr} {m d : Nat} (h : SegOwn w base s A n c D m d) : SegIs w s A n D m := ⟨h.1.rs, h.1.1, h.2.bs, h.2.2.1⟩
theorem SegOwn.below {w w' : World} {base : Nat} {s : Sg} {A : Option Addr} {n c : Nat} {D : Option Addr} {m d : Nat} (h : SegOwn w base s A n c D m d) (hb : Below w.heap.size w w') : SegOwn w' base s A n c D m d := ⟨h.1.below hb, h.2.below hb⟩
theorem SegOwn.base {w : World} {base base' : Nat} {s : Sg} {A : Option Addr} {n c : Nat} {D : Option Addr} {m d : Nat} (h : SegOwn w base s A n c D m d) (hb : base' ≤ base) : SegOwn w base' s A n c D m d := ⟨h.1.base hb, h.2.base hb⟩
def RetRead (W : World) (zs : List Int) (e : Ending) (w' : World) : Prop :=
  Below W.heap.size W w' ∧ ((readB zs = false ∧ e = .returned (.tuple #[segV (dec0 zs) none 0 0 none 0 0, .bool false])) ∨ (readB zs = true ∧ ∃ A c D m d, e = .returned (.tuple #[segV (dec zs) A (cnt zs) c D m d, .bool true]) ∧ SegOwn w' W.heap.size (dec zs) A (cnt zs) c D m d))

theorem beside_keeps {A B : World} {base : Nat} {Ad : Option Addr} {n c : Nat} {l : List Rg} {v' : Value} (h : OwnR A base Ad n c l) (hs : Beside (.slice Ad n c) v' A B) (hsz : A.heap.size ≤ B.heap.size) : KeepsOthers A B :=
  ⟨hsz, fun k o hk ho => (hs.block k (lt_of_block hk) (fun j hj e => by
    rcases h.2.2 with ⟨hv, _⟩ | ⟨g, cap, cur, hv, _, hh, _⟩
    · rw [hv] at hj; cases hj
    · rw [hv] at hj; injection hj with hj; simp only at hj; subst hj; subst e
      rw [hh] at hk; cases hk; cases ho)).trans hk⟩
theorem below_keeps {A B : World} (h : Below A.heap.size A B) : KeepsOthers A B := ⟨h.size, fun k o hk _ => (h.block k (lt_of_block hk)).trans hk⟩

theorem opIn_appR {n' : Nat} {o : Oper} {a : Act} {K : Act → World → Prop} {Q : Exit → Act → World → Prop} (w : World) (s x : Operand)
    (ho : o.op = .call { callee := .builtin .append, args := #[s, x], argTypes := #[22, 22] })
    (base : Nat) (A : Option Addr) (n c : Nat) (zs : List Rg) (hs : a.eval s = .slice A n c) (hown : OwnR w base A n c zs)
    (B : Option Addr) (m d : Nat) (ys : List Rg) (hx : a.eval x = .slice B m d) (hb : Rs w B ys) (hm : ys.length = m)
    (N : Nat) (hN : n + m = N) (small : N ≤ 8796093022200) (hbase : base ≤ w.heap.size)
    (h : ∀ A' c' w', OwnR w' base A' N c' (zs ++ ys) → Below base w w' → Beside (.slice A n c) (.slice A' N c') w w' → K (a.put o.dst (.slice A' N c')) w') : Oper.wpIn Fence.wide n' Try.prog o a w K Q := by
  obtain ⟨i0, hi, hz0, hz1, hz2⟩ := info_parts rgInfo
  subst hN
  obtain ⟨A', c', w', hrun, h2, h3, h4⟩ := run_app3 (P := Try.prog) w base 22 o.type 50 i0 _ 2 16 Try.underlying22 hi hz0 hz1 hz2 rfl (by decide) A n c _ hown.2 B m d (rcells ys) (by rw [rcells_len, hm]) hb (rcells_one ys) (by simp only [maxLen]; omega) (by omega) hbase
  refine ⟨fun f hf => trivial, ?_⟩
  show Oper.uponIn Fence.wide n' Try.prog o a K Q ((execOp a.eval o).run Try.prog w)
  unfold execOp
  simp only [ho, resolve, invoke, builtin, Sem.run_bind, Sem.run_pure, Result.andThen_ok, List.map_toArray, List.map_cons, List.map_nil, hs, hx, hrun]
  exact h A' c' w' ⟨by rw [List.length_append, hown.1, hm], by rw [rcells_app]; exact h2⟩ h3 h4

theorem ite_wanted {c : Bool} {A B : Prop} (h : c = true) (x : A) : if c = true then A else B := by rw [if_pos h]; exact x

theorem Bs.drop {w : World} {b o : Nat} {zs : List Int} (h : Bs w (some ⟨b, o, none⟩) zs) (k : Nat) : Bs w (some ⟨b, o + k, none⟩) (zs.drop k) := by
  refine ⟨fun z hz => h.1 z (List.mem_of_mem_drop hz), ?_⟩
  rcases h.2 with h0 | ⟨b', o', e, hlt, hc⟩
  · exact .inl (by rw [h0]; simp)
  · injection e with e; injection e with e1 e2
    subst e1; subst e2
    refine .inr ⟨b, o + k, rfl, hlt, fun j hj => ?_⟩
    rw [List.length_drop] at hj
    have := hc (k + j) (by omega)
    rw [← Nat.add_assoc] at this
    rw [this, List.getD_eq_getElem?_getD, List.getD_eq_getElem?_getD, List.getElem?_drop]
theorem ownsRow_put {W : World} {D base : Nat} {e : TypeId} {size : Nat} {v : Value} {n : Nat} {xs : List Value} {u : Option (List Deferred)} (h : W.ownsRow base e size v n xs) (hD : W.heap[D]? = some (.deferred u)) : (W.putObj D (.deferred none)).ownsRow base e size v n xs :=
  h.kept (grownBy_putObj' W D (.deferred none)) (by
    rcases h.2 with ⟨hv, _⟩ | ⟨g, cap, cur, hv, _, hh, _⟩
    · left; rw [hv]; rfl
    · right
      rw [hv]
      intro e
      injection e with e
      simp only at e
      subst e
      rw [hh] at hD; cases hD)
theorem ownsRow_store {w : World} {base : Nat} {e : TypeId} {size : Nat} {v : Value} {n : Nat} {xs : List Value} (h : w.ownsRow base e size v n xs) (S : Nat) (hS : S < base) (v0 v1 v2 v3 v4 v5 v6 v7 v8 : Value) :
    (((((((((w.setCell ⟨S, 0, none⟩ v0).setCell ⟨S, 1, none⟩ v1).setCell ⟨S, 2, none⟩ v2).setCell ⟨S, 3, none⟩ v3).setCell ⟨S, 4, none⟩ v4).setCell ⟨S, 5, none⟩ v5).setCell ⟨S, 6, none⟩ v6).setCell ⟨S, 7, none⟩ v7).setCell ⟨S, 8, none⟩ v8).ownsRow base e size v n xs :=
  ownsRow_setCell_below (ownsRow_setCell_below (ownsRow_setCell_below (ownsRow_setCell_below (ownsRow_setCell_below (ownsRow_setCell_below (ownsRow_setCell_below (ownsRow_setCell_below (ownsRow_setCell_below h (a := ⟨S, 0, none⟩) hS v0) (a := ⟨S, 1, none⟩) hS v1) (a := ⟨S, 2, none⟩) hS v2) (a := ⟨S, 3, none⟩) hS v3) (a := ⟨S, 4, none⟩) hS v4) (a := ⟨S, 5, none⟩) hS v5) (a := ⟨S, 6, none⟩) hS v6) (a := ⟨S, 7, none⟩) hS v7) (a := ⟨S, 8, none⟩) hS v8
theorem heap_store {w : World} {S k : Nat} (hk : k ≠ S) (v0 v1 v2 v3 v4 v5 v6 v7 v8 : Value) :
    (((((((((w.setCell ⟨S, 0, none⟩ v0).setCell ⟨S, 1, none⟩ v1).setCell ⟨S, 2, none⟩ v2).setCell ⟨S, 3, none⟩ v3).setCell ⟨S, 4, none⟩ v4).setCell ⟨S, 5, none⟩ v5).setCell ⟨S, 6, none⟩ v6).setCell ⟨S, 7, none⟩ v7).setCell ⟨S, 8, none⟩ v8).heap[k]? = w.heap[k]? := by
  rw [Below.heap_setCell _ _ _ _ hk, Below.heap_setCell _ _ _ _ hk, Below.heap_setCell _ _ _ _ hk, Below.heap_setCell _ _ _ _ hk, Below.heap_setCell _ _ _ _ hk, Below.heap_setCell _ _ _ _ hk, Below.heap_setCell _ _ _ _ hk, Below.heap_setCell _ _ _ _ hk, Below.heap_setCell _ _ _ _ hk]

/-- the ranges that stand in the chunks -/
def sackOf (zs : List Int) (k : Nat) : Rg := (wd zs (10 + 4 * k), wd zs (10 + 4 * k + 2))
theorem sacksAt_map (zs : List Int) : ∀ n, sacksAt zs 10 n = (List.range n).map (sackOf zs)
  | 0 => rfl
  | n + 1 => by rw [sacksAt, sacksAt_map zs n, List.range_succ, List.map_append]; rfl

/-- the state of the loop over the chunks -/
def ReadI (zs : List Int) (W0 : World) (S : Nat) (a0 a1 a2 a3 a4 a5 a6 : Value) {q : Nat} (pre : List (Fin q)) (W : World) : Prop :=
  ∃ Ao no co, Box9 W S a0 a1 a2 a3 a4 a5 a6 (.slice Ao no co) (.slice none 0 0) ∧ OwnR W W0.heap.size Ao no co (pre.map fun k => sackOf zs k.1) ∧ Below S W0 W
def ReadK (S Bs Bn : Nat) (A B : World) : Prop := Below S A B ∧ B.heap[Bs]? = A.heap[Bs]? ∧ B.heap[Bn]? = A.heap[Bn]?
theorem drewN_heap (w : World) : ∀ n, (w.drewN n).heap = w.heap
  | 0 => rfl
  | n + 1 => by first | exact drewN_heap w.drew n | exact drewN_heap w n
theorem readK_keeping (S Bs Bn : Nat) : Keeping (ReadK S Bs Bn) S Bs Bn :=
  ⟨fun A => ⟨Below.refl _ _, rfl, rfl⟩, fun A B C h k => ⟨h.1.trans k.1, k.2.1.trans h.2.1, k.2.2.trans h.2.2⟩, fun A B h => h.1, fun A B h => World.cell?_of_block (a := ⟨Bs, 0, none⟩) h.2.1, fun A B h => World.cell?_of_block (a := ⟨Bn, 0, none⟩) h.2.2,
    fun A k => ⟨below_drewN (Below.refl _ _) _, by rw [drewN_heap], by rw [drewN_heap]⟩⟩
theorem readI_own (zs : List Int) (W0 : World) (S : Nat) (hS : S < W0.heap.size) (a0 a1 a2 a3 a4 a5 a6 : Value) (q : Nat) : OwnFrom W0.heap.size (ReadI zs W0 S a0 a1 a2 a3 a4 a5 a6 (q := q)) := by
  rintro pre X Y row ⟨Ao, no, co, hb, ho, hbel⟩ hg hr
  refine ⟨Ao, no, co, (hg.block S (lt_of_block hb) (fun e => ?_)).trans hb, ⟨ho.1, ho.2.kept hg ?_⟩, hbel.grown hg (by have := hbel.size; omega) (fun k e => by have := (hr k e).1; omega)⟩
  · have := (hr S e.symm).1; omega
  · rcases ho.2.2 with ⟨hv, _⟩ | ⟨g, cap, cur, hv, hg', hh, _⟩
    · left; rw [hv]; rfl
    · right
      rw [hv]
      intro e
      obtain ⟨_, o, h1, h2⟩ := hr g e.symm
      rw [hh] at h1; cases h1; cases h2

set_option maxRecDepth 100000 in
set_option maxHeartbeats 8000000 in
theorem read_any (b o n c : Nat) (zs : List Int) (w : World) (hb : Bs w (some ⟨b, o, none⟩) zs) (hn : zs.length = n) (h10 : 10 ≤ n) (hc : n ≤ c) (hbig : n ≤ 140737488355328) :
    Calls Try.prog 31 #[.slice (some ⟨b, o, none⟩) n c] w (RetRead w zs) := by
  have HB := Lib.hid hb
  have HN := Lib.hid hn
  obtain ⟨w1, hw1⟩ : ∃ w1, w1 = w.alloc (.cells #[.int .i64 0, .int .i64 0, .int .i64 0, .bool false, .bool false, .bool false, .bool false, .slice none 0 0, .slice none 0 0] 25) := ⟨_, rfl⟩
  have hb1 : Below w.heap.size w w1 := by rw [hw1]; exact ba1 _ _
  have HB1 := Lib.hid hb1
  have HD1 : Hid (Below w1.heap.size w1 w1.drew) := Lib.hid ((Below.refl _ _).drew)
  obtain ⟨s0, hs0⟩ : ∃ s, s = wd zs 0 := ⟨_, rfl⟩
  obtain ⟨s1, hs1⟩ : ∃ s, s = wd zs 2 := ⟨_, rfl⟩
  obtain ⟨s2, hs2⟩ : ∃ s, s = wd zs 4 := ⟨_, rfl⟩
  have HP0 : Hid (∀ w', Below w1.heap.size w1 w' → Calls Try.prog 29 #[.slice (some ⟨b, o, none⟩) n c] w' fun e w'' => e = .returned (.int .i64 s0) ∧ Below w'.heap.size w' w'') := Lib.hid (fun w' h => by
    rw [hs0]; have := pair_at b o n c 0 zs w' ((HB.out.below hb1).below h) HN.out (by omega); simpa using this)
  have HP1 : Hid (∀ w', Below w1.heap.size w1 w' → Calls Try.prog 29 #[.slice (some ⟨b, o + 2, none⟩) (n - 2) (c - 2)] w' fun e w'' => e = .returned (.int .i64 s1) ∧ Below w'.heap.size w' w'') := Lib.hid (fun w' h => by
    rw [hs1]; exact pair_at b o n (c - 2) 2 zs w' ((HB.out.below hb1).below h) HN.out (by omega))
  have HP2 : Hid (∀ w', Below w1.heap.size w1 w' → Calls Try.prog 29 #[.slice (some ⟨b, o + 4, none⟩) (n - 4) (c - 4)] w' fun e w'' => e = .returned (.int .i64 s2) ∧ Below w'.heap.size w' w'') := Lib.hid (fun w' h => by
    rw [hs2]; exact pair_at b o n (c - 4) 4 zs w' ((HB.out.below hb1).below h) HN.out (by omega))
  have q1 : ¬ c = 2 := by omega
  have q2 : ¬ c = 4 := by omega
  have q3 : (2 : Int) ≤ (n : Int) := by omega
  have q4 : (4 : Int) ≤ (n : Int) := by omega
  have HS0 := Lib.hid hs0; have HS1 := Lib.hid hs1; have HS2 := Lib.hid hs2
  clear hb hn hs0 hs1 hs2 hb1
  refine (callsIn_wide (n := 8)).1 ?_
  refine callsIn_of_wp_marks Try.func31 rfl trivial ?_ rfl
  simp only [Try.ntmps31, List.size_toArray, List.length_cons, List.length_nil, Nat.reduceAdd, Nat.reduceSub, Array.replicate_succ, Array.replicate_zero, List.push_toArray, List.append_toArray, List.nil_append, List.cons_append]
  refine wpIn_wide.2 ?_
  go_upto_region 1 with fail
  rw [← hw1]
  have HW1 := Lib.hid hw1
  clear hw1
  go_cut [4] from 7 to 15 (fun t wc => Read1 w1 s0 s1 s2 t wc)
  case first =>
    refine Code.wp_mono onlyN_le ?_
    go_region_law (first
      | (go_simp; go_at_call 29; (with_reducible refine (HP0.out (w1.alloc (.cells #[.int .i64 0, .int .i64 0, .int .i64 0, .bool false, .bool false, .bool false, .bool false, .slice none 0 0, .slice none 0 0] 25)).drew ((ba1 w1 _).drew)).mono ?_); rintro e w2 ⟨rfl, hb⟩; have HB2 : Hid (Below w1.heap.size w1 w2) := Lib.hid (bthen (ba1 w1 _).drew hb); have HX2 : Hid (Box9 w2 w1.heap.size (.int .i64 0) (.int .i64 0) (.int .i64 0) (.bool false) (.bool false) (.bool false) (.bool false) (.slice none 0 0) (.slice none 0 0)) := Lib.hid (box9_below (show Box9 (w1.alloc (.cells #[.int .i64 0, .int .i64 0, .int .i64 0, .bool false, .bool false, .bool false, .bool false, .slice none 0 0, .slice none 0 0] 25)).drew w1.heap.size _ _ _ _ _ _ _ _ _ from World.alloc_heap_new w1 _) hb); clear hb)
      | (go_simp; go_at_call 29; (with_reducible refine (HP0.out w1.drew HD1.out).mono ?_); rintro e w2 ⟨rfl, hb⟩; have HB2 : Hid (Below w1.heap.size w1 w2) := Lib.hid (bthen HD1.out hb); clear hb)
      | (go_simp; go_at_call 29; (with_reducible refine (HP1.out w2 HB2.out).mono ?_); rintro e w3 ⟨rfl, hb⟩; have HB3 : Hid (Below w1.heap.size w1 w3) := Lib.hid (bthen HB2.out hb); have HX3 := Lib.hid (box9_below HX2.out hb); clear hb)
      | (go_simp; go_at_call 29; (with_reducible refine (HP1.out (w2.alloc (.cells #[.int .i64 0, .int .i64 0, .int .i64 0, .bool false, .bool false, .bool false, .bool false, .slice none 0 0, .slice none 0 0] 25)) (HB2.out.alloc HB2.out.size _)).mono ?_); rintro e w3 ⟨rfl, hb⟩; have HB3 : Hid (Below w1.heap.size w1 w3) := Lib.hid (bthen (HB2.out.alloc HB2.out.size _) hb); have HX3 : Hid (Box9 w3 w2.heap.size (.int .i64 0) (.int .i64 0) (.int .i64 0) (.bool false) (.bool false) (.bool false) (.bool false) (.slice none 0 0) (.slice none 0 0)) := Lib.hid (box9_below (World.alloc_heap_new _ _) hb); clear hb)
      | (go_simp; go_at_call 29; (with_reducible refine (HP1.out w2 HB2.out).mono ?_); rintro e w3 ⟨rfl, hb⟩; have HB3 : Hid (Below w1.heap.size w1 w3) := Lib.hid (bthen HB2.out hb); clear hb)
      | (go_simp; go_at_call 29; (with_reducible refine (HP2.out w3 HB3.out).mono ?_); rintro e w4 ⟨rfl, hb⟩; have HB4 : Hid (Below w1.heap.size w1 w4) := Lib.hid (bthen HB3.out hb); have HX4 := Lib.hid (box9_below HX3.out hb); obtain ⟨lS, k0, k1, k2, k3, k4, k5, k6, k7, k8, ks⟩ := HX4.out.cells; have f0 := ks 0; have f1 := ks 1; have f2 := ks 2; have f3 := ks 3; have f4 := ks 4; have f5 := ks 5; have f6 := ks 6; have f7 := ks 7; have f8 := ks 8; clear hb)
      | (go_simp; go_at_call 29; (with_reducible refine (HP2.out (w3.alloc (.cells #[.int .i64 0, .int .i64 0, .int .i64 0, .bool false, .bool false, .bool false, .bool false, .slice none 0 0, .slice none 0 0] 25)) (HB3.out.alloc HB3.out.size _)).mono ?_); rintro e w4 ⟨rfl, hb⟩; have HB4 : Hid (Below w1.heap.size w1 w4) := Lib.hid (bthen (HB3.out.alloc HB3.out.size _) hb); have HX4 : Hid (Box9 w4 w3.heap.size (.int .i64 0) (.int .i64 0) (.int .i64 0) (.bool false) (.bool false) (.bool false) (.bool false) (.slice none 0 0) (.slice none 0 0)) := Lib.hid (box9_below (World.alloc_heap_new _ _) hb); obtain ⟨lS, k0, k1, k2, k3, k4, k5, k6, k7, k8, ks⟩ := HX4.out.cells; have f0 := ks 0; have f1 := ks 1; have f2 := ks 2; have f3 := ks 3; have f4 := ks 4; have f5 := ks 5; have f6 := ks 6; have f7 := ks 7; have f8 := ks 8; clear hb)
      | (go_simp; go_at_call 29; (with_reducible refine (HP2.out w3 HB3.out).mono ?_); rintro e w4 ⟨rfl, hb⟩; have HB4 : Hid (Below w1.heap.size w1 w4) := Lib.hid (bthen HB3.out hb); clear hb))
    all_goals
      unfold onlyN
      go_wp2_with fail
      go_meet
      unfold Read1
      first
        | (have LE := Nat.le_refl w1.heap.size; with_reducible exact ⟨_, rfl, LE, box9_store HX4.out _ _ _ _ _ _ _ _ _, below_store HB4.out LE _ _ _ _ _ _ _ _ _⟩)
        | (have LE := HB2.out.size; with_reducible exact ⟨_, rfl, LE, box9_store HX4.out _ _ _ _ _ _ _ _ _, below_store HB4.out LE _ _ _ _ _ _ _ _ _⟩)
        | (have LE := HB3.out.size; with_reducible exact ⟨_, rfl, LE, box9_store HX4.out _ _ _ _ _ _ _ _ _, below_store HB4.out LE _ _ _ _ _ _ _ _ _⟩)
        | (have LE := HB4.out.size; have HXn : Box9 (w4.alloc (.cells #[.int .i64 s0, .int .i64 s1, .int .i64 s2, .bool false, .bool false, .bool false, .bool false, .slice none 0 0, .slice none 0 0] 25)) w4.heap.size (.int .i64 s0) (.int .i64 s1) (.int .i64 s2) (.bool false) (.bool false) (.bool false) (.bool false) (.slice none 0 0) (.slice none 0 0) := World.alloc_heap_new w4 _; have HBn := HB4.out.alloc LE (.cells #[.int .i64 s0, .int .i64 s1, .int .i64 s2, .bool false, .bool false, .bool false, .bool false, .slice none 0 0, .slice none 0 0] 25); with_reducible exact ⟨_, rfl, LE, HXn, HBn⟩)
  case rest =>
    obtain ⟨S, rfl, hS, hbox, hbel⟩ := hcut
    obtain ⟨b1, o1, x, he, hc6, x0, x1, hx⟩ := ((HB.out.below HB1.out).below hbel).at 6 (by rw [HN.out]; omega)
    injection he with he; injection he with e3 e4; subst e3; subst e4
    have hR0 : Box9 w1 w.heap.size (.int .i64 0) (.int .i64 0) (.int .i64 0) (.bool false) (.bool false) (.bool false) (.bool false) (.slice none 0 0) (.slice none 0 0) := by rw [HW1.out]; exact World.alloc_heap_new w _
    have hRs : w.heap.size < w1.heap.size := lt_of_block hR0
    have hRc : Box9 wc w.heap.size (.int .i64 0) (.int .i64 0) (.int .i64 0) (.bool false) (.bool false) (.bool false) (.bool false) (.slice none 0 0) (.slice none 0 0) := (hbel.block _ hRs).trans hR0
    have HX := Lib.hid hx; have HBOX := Lib.hid hbox; have HBEL := Lib.hid hbel; have HRC := Lib.hid hRc
    have hSl : S < wc.heap.size := lt_of_block hbox
    have hne : S ≠ w.heap.size := by omega
    have hne' : w.heap.size ≠ S := by omega
    clear hbox hbel hRc hR0 hx
    by_cases hx15 : x ≤ 15
    · obtain ⟨b2, o2, y, he, hc7, y0, y1, hy⟩ := ((HB.out.below HB1.out).below HBEL.out).at 7 (by rw [HN.out]; omega)
      injection he with he; injection he with e3 e4; subst e3; subst e4
      have hbl : b < w.heap.size := by
        rcases HB.out.2 with h | ⟨b', o', h, hlt, _⟩
        · have := HN.out; rw [h] at this; simp at this; omega
        · injection h with h; injection h with h1 h2; subst h1; exact hlt
      obtain ⟨q, rfl⟩ : ∃ q : Nat, y = (q : Int) := ⟨y.toNat, by omega⟩
      have HQ : Hid (cnt zs = q) := Lib.hid (by rw [cnt, ← hy]; rfl)
      have hq255 : q ≤ 255 := by omega
      have htell : Hid (Calls Try.prog 44 #[.pointer (some ⟨S, 0, none⟩), .int .u8 x] wc fun e w' => e = .returned (.bool true) ∧ Box9 w' S (.int .i64 s0) (.int .i64 s1) (.int .i64 s2) (.bool (bit x 1)) (.bool (bit x 2)) (.bool (bit x 4)) (.bool (bit x 8)) (.slice none 0 0) (.slice none 0 0) ∧ Below S wc w') := Lib.hid (tell_any S x true _ _ _ _ _ _ _ _ _ _ x0 x1 (by simp [hx15]) HBOX.out)
      obtain ⟨g0, g1, g2, g3, hG⟩ : ∃ g0 g1 g2 g3, g0 = bit x 1 ∧ g1 = bit x 2 ∧ g2 = bit x 4 ∧ g3 = bit x 8 := ⟨_, _, _, _, rfl, rfl, rfl, rfl⟩
      rw [← hG.1, ← hG.2.1, ← hG.2.2.1, ← hG.2.2.2] at htell
      have HG := Lib.hid hG
      clear hG hy
      by_cases hlen : 10 + 4 * q ≤ n
      · have hrb : Hid (readB zs = true) := Lib.hid (by rw [readB, ← HX.out, HQ.out, HN.out]; simp [hx15, hlen])
        obtain ⟨o10, z10, h10'⟩ : ∃ o10, (if c = 10 then some (⟨b, o, none⟩ : Addr) else some ⟨b, o + 10, none⟩) = some ⟨b, o10, none⟩ ∧ (q = 0 ∨ o10 = o + 10) := by
          by_cases h : c = 10
          · exact ⟨o, by rw [if_pos h], .inl (by omega)⟩
          · exact ⟨o + 10, by rw [if_neg h], .inr rfl⟩
        obtain ⟨at_, hat⟩ : ∃ a, a = 10 + 4 * q := ⟨_, rfl⟩
        obtain ⟨oD, zD, hD'⟩ : ∃ oD, (if c = at_ then some (⟨b, o, none⟩ : Addr) else some ⟨b, o + at_, none⟩) = some ⟨b, oD, none⟩ ∧ (n = at_ ∨ oD = o + at_) := by
          by_cases h : c = at_
          · exact ⟨o, by rw [if_pos h], .inl (by omega)⟩
          · exact ⟨o + at_, by rw [if_neg h], .inr rfl⟩
        have zat : (10 : Int) + 4 * (q : Int) = (at_ : Int) := by omega
        have zle : (at_ : Int) ≤ (n : Int) := by omega
        have zle2 : at_ ≤ n := by omega
        have zle3 : at_ ≤ c := by omega
        have zle4 : (at_ : Int) ≤ (c : Int) := by omega
        have zge : (10 : Int) ≤ (at_ : Int) := by omega
        have zge2 : 10 ≤ at_ := by omega
        have HAT := Lib.hid hat; have H10 := Lib.hid h10'; have HDD := Lib.hid hD'
        clear hat h10' hD'
        go_wp2_with (first
          | (go_at_call 44; refine htell.out.mono ?_; rintro e w6 ⟨rfl, hb6, hq6⟩; have hr6 := (hq6.block w.heap.size (by omega)).trans HRC.out; have d7 := (hq6.cell (p := ⟨b, o + 7, none⟩) (by simp only; omega)).trans hc7; have HB6 := Lib.hid hb6; have HR6 := Lib.hid hr6; have HQ6 := Lib.hid hq6; have hz6 := hq6.size; clear hb6 hq6 hr6)
          | (go_at_call 45; refine (callsIn_wide.1 (ck_in 8 _ _ _ _)).mono ?_; rintro e w' ⟨rfl, rfl⟩))
        refine (wpIn_wide (n := 8)).1 ?_
        obtain ⟨W0, hW0⟩ : ∃ W0, W0 = (w6.alloc (.cells #[.slice (some ⟨b, o10, none⟩) (at_ - 10) (c - 10)] 23)).alloc (.cells #[.int .i64 4] 3) := ⟨_, rfl⟩
        have hsz0 : W0.heap.size = w6.heap.size + 2 := by rw [hW0]; simp
        have hB0 : Below w6.heap.size w6 W0 := by rw [hW0]; exact ba2 _ _ _
        have hbs0 : W0.cell? ⟨w6.heap.size, 0, none⟩ = some (.slice (some ⟨b, o10, none⟩) (at_ - 10) (c - 10)) := by rw [hW0]; simp
        have hbn0 : W0.cell? ⟨w6.heap.size + 1, 0, none⟩ = some (.int .i64 4) := by
          have := World.alloc_heap_new (w6.alloc (.cells #[.slice (some ⟨b, o10, none⟩) (at_ - 10) (c - 10)] 23)) (.cells #[.int .i64 4] 3)
          rw [← hW0] at this
          simp only [World.size_alloc] at this
          exact cell_of_one this
        have hbox0 : Box9 W0 S (.int .i64 s0) (.int .i64 s1) (.int .i64 s2) (.bool g0) (.bool g1) (.bool g2) (.bool g3) (.slice none 0 0) (.slice none 0 0) := (hB0.block S (lt_of_block HB6.out)).trans HB6.out
        have hSw : S < w6.heap.size := lt_of_block HB6.out
        rw [← hW0]
        have hb0S : Below S wc W0 := HQ6.out.trans (hB0.mono (by omega))
        have HB0S := Lib.hid hb0S
        have HB00 := Lib.hid hB0
        refine wpIn_rangeFunc_ownH (F := Fence.wide) (n := 8) rfl (by omega) (gf := 47) (lb := #[.pointer (some ⟨w6.heap.size, 0, none⟩), .pointer (some ⟨w6.heap.size + 1, 0, none⟩)]) rfl trivial (enters_of Try.func47 (by kernel_rfl) rfl)
          (ck_stops 7 (by omega) w6.heap.size (w6.heap.size + 1) S (at_ - 10) (c - 10) q b o10 (by have := HAT.out; omega) (by omega) (by omega) (ReadK S w6.heap.size (w6.heap.size + 1)) (readK_keeping _ _ _) W0 (by omega) (by omega) hbs0 hbn0)
          (fun h k => (readK_keeping _ _ _).trans _ _ _ h k)
          (fun W l o o' hl h ho hw => ⟨belowK_b (w := W0) (by omega) W l o o' hl h ho hw, (grownBy_putObj' W l o').block _ (by have := (Array.getElem?_eq_some_iff.1 h).1; omega) (fun e => by cases e; omega), (grownBy_putObj' W l o').block _ (by have := (Array.getElem?_eq_some_iff.1 h).1; omega) (fun e => by cases e; omega)⟩)
          (Below.refl _ _) (fun _ => rfl)
          (ReadI zs W0 S (.int .i64 s0) (.int .i64 s1) (.int .i64 s2) (.bool g0) (.bool g1) (.bool g2) (.bool g3)) (fun _ _ _ => False) (readI_own zs W0 S (by omega) _ _ _ _ _ _ _ q) (fun _ _ _ _ _ hs _ _ => hs)
          ⟨none, 0, 0, hbox0, OwnR.nil _ _, Below.refl _ _⟩
          (fun y a' W => a' = { tmps := #[.slice (some ⟨b, o, none⟩) n c, undef, .pointer (some ⟨w.heap.size, 0, none⟩), .bool false, .pointer (some ⟨S, 0, none⟩), .int .i64 (at_ : Int), .slice (some ⟨b, o10 + 4 * y.1, none⟩) 4 4, u7, u8, u9, u10, u11, u12, u13, u14, u15, .slice (some ⟨b, o, none⟩) n c, .pointer (some ⟨b, o + 6, none⟩), .int .u8 x, .bool true, .bool false, undef, .slice (some ⟨b, o, none⟩) n c, .pointer (some ⟨b, o + 7, none⟩), .int .u8 (q : Int), .int .i64 (q : Int), .int .i64 (4 * (q : Int)), .int .i64 (at_ : Int), .slice (some ⟨b, o, none⟩) n c, .int .i64 (n : Int), .int .i64 (at_ : Int), .bool false, undef, .slice (some ⟨b, o, none⟩) n c, .int .i64 (at_ : Int), .slice (some ⟨b, o10, none⟩) (at_ - 10) (c - 10), .func (.func 47) #[] #[.pointer (some ⟨w6.heap.size, 0, none⟩), .pointer (some ⟨w6.heap.size + 1, 0, none⟩)], .slice (some ⟨b, o10 + 4 * y.1, none⟩) 4 4, undef, undef, undef, undef, undef, undef, undef, undef, undef, undef, undef, undef, undef, undef, undef, undef, undef], defers := [] })
          (fun y a' _ X Y row hs hg hr => hs)
          ?assign ?body ?done ?stop
        case assign =>
          rintro lp pre y W K hI hK
          dsimp only [encC] at hK ⊢
          gi_wp2
          exact hK _ _ (KeepsFrom.refl _ _) ((readK_keeping _ _ _).refl _) hI rfl
        case body =>
          rintro lp pre y a' W hl hrec ⟨Ao, no, co, hb, ho, hbel⟩ rfl hlt
          have hWs := hbel.size
          have hk : y.1 < q := y.2
          have hoe : o10 = o + 10 := by rcases H10.out with h | h; omega; exact h
          have hBw : Below w.heap.size w W := ((HB1.out.trans (HBEL.out.mono (by omega))).trans (HB0S.out.mono (by omega))).trans (hbel.mono (by omega))
          obtain ⟨v1, hv1⟩ : ∃ v, v = wd zs (10 + 4 * y.1) := ⟨_, rfl⟩
          obtain ⟨v2, hv2⟩ : ∃ v, v = wd zs (10 + 4 * y.1 + 2) := ⟨_, rfl⟩
          have hbsW := HB.out.below hBw
          have HPa : Hid (∀ w', Below W.heap.size W w' → Calls Try.prog 29 #[.slice (some ⟨b, o10 + 4 * y.1, none⟩) 4 4] w' fun e w'' => e = .returned (.int .i64 v1) ∧ Below w'.heap.size w' w'') := Lib.hid (fun w' h => by
            rw [hv1, hoe, Nat.add_assoc]; exact pair_at2 b o 4 4 (10 + 4 * y.1) zs w' (hbsW.below h) (by omega) (by have := HN.out; have := HAT.out; omega))
          have HPb : Hid (∀ w', Below W.heap.size W w' → Calls Try.prog 29 #[.slice (some ⟨b, o10 + 4 * y.1 + 2, none⟩) 2 2] w' fun e w'' => e = .returned (.int .i64 v2) ∧ Below w'.heap.size w' w'') := Lib.hid (fun w' h => by
            rw [hv2, hoe, Nat.add_assoc, Nat.add_assoc]; exact pair_at2 b o 2 2 (10 + 4 * y.1 + 2) zs w' (hbsW.below h) (by omega) (by have := HN.out; have := HAT.out; omega))
          have hnoq : no = pre.length := by have := ho.1; simpa using this.symm
          have hno : no ≤ 255 := by omega
          obtain ⟨lS, -, -, -, -, -, -, -, e7, -, -⟩ := hb.cells
          have hsk : Hid ((pre ++ [y]).map (fun k => sackOf zs k.1) = pre.map (fun k => sackOf zs k.1) ++ [(v1, v2)]) := Lib.hid (by rw [List.map_append, hv1, hv2]; rfl)
          have HBX := Lib.hid hb; have HO := Lib.hid ho; have HBL := Lib.hid hbel
          have HD : Hid (Below W.heap.size W W.drew) := Lib.hid ((Below.refl _ _).drew)
          clear hb ho hbel hv1 hv2 hbsW hBw hoe hrec hnoq
          gi_wp2
          refine wpIn_region_any (by kernel_rfl) ?_
          change wpAnyIn _ _ _ _ _ _ _ _ _ (World.drew _)
          refine anyIn_round (by kernel_rfl) _ _ _ _ ?_
          refine wpAnyIn_take (i := 0) (v := ?_) rfl rfl (by kernel_rfl) (by kernel_rfl) (by kernel_rfl) (fun _ _ _ h => h) ⟨Or.inl ⟨by rfl, ?_⟩, fun _ => rfl⟩ ?_
          rotate_left
          · intro w; go_simp; try with_reducible rfl
          refine wpAnyIn_take (i := 2) (v := ?_) rfl rfl (by kernel_rfl) (by kernel_rfl) (by kernel_rfl) (fun _ _ _ h => h) ⟨Or.inl ⟨by rfl, ?_⟩, fun _ => rfl⟩ ?_
          rotate_left
          · intro w; go_simp; try with_reducible rfl
          refine wpAnyIn_take (i := 4) (v := ?_) rfl rfl (by kernel_rfl) (by kernel_rfl) (by kernel_rfl) (fun _ _ _ h => h) ⟨Or.inl ⟨by rfl, ?_⟩, fun _ => rfl⟩ ?_
          rotate_left
          · intro w; go_simp; try with_reducible rfl
          refine wpAnyIn_take (i := 5) (v := ?_) rfl rfl (by kernel_rfl) (by kernel_rfl) (by kernel_rfl) (fun _ _ _ h => h) ⟨Or.inl ⟨by rfl, ?_⟩, fun _ => rfl⟩ ?_
          rotate_left
          · intro w; go_simp; try with_reducible rfl
          refine wpAnyIn_ready (rs := [1, 3]) (by kernel_rfl) (by simp) ?_
          refine AllReadyIn.cons rfl (fun K hK => ?_) ?_
          · go_simp
            refine hK _ _ ?_; clear hK K
            refine wpAnyIn_ready (rs := [3]) (by kernel_rfl) (by simp) ?_
            refine AllReadyIn.cons rfl (fun K hK => ?_) AllReadyIn.nil
            go_simp
            try refine ⟨trivial, ?_⟩
            gi_at_call 29
            refine (callsIn_wide.2 (HPa.out _ HD.out)).mono ?_
            rintro e w7 ⟨rfl, hb7⟩
            have e77 := (hb7.cell (p := ⟨S, 7, none⟩) lS).trans e7
            have H7 : Hid (Below W.heap.size W w7) := Lib.hid (bthen HD.out hb7)
            clear hb7
            try go_simp
            refine hK _ _ ?_; clear hK K
            refine wpAnyIn_ready (rs := [6]) (by kernel_rfl) (by simp) ?_
            refine AllReadyIn.cons rfl (fun K hK => ?_) AllReadyIn.nil
            go_simp
            try refine ⟨trivial, ?_⟩
            gi_at_call 29
            refine (callsIn_wide.2 (HPb.out _ H7.out)).mono ?_
            rintro e w8 ⟨rfl, hb8⟩
            have e78 := (hb8.cell (p := ⟨S, 7, none⟩) (Nat.lt_of_lt_of_le lS H7.out.size)).trans e77
            have H8 : Hid (Below W.heap.size W w8) := Lib.hid (bthen H7.out hb8)
            have lS8 : S < w8.heap.size := Nat.lt_of_lt_of_le lS H8.out.size
            clear hb8
            try go_simp
            refine hK _ _ ?_; clear hK K
            refine wpAnyIn_ready (rs := [7]) (by kernel_rfl) (by simp) ?_
            refine AllReadyIn.cons rfl (fun K hK => ?_) AllReadyIn.nil
            go_simp
            refine hK _ _ ?_; clear hK K
            refine wpAnyIn_ready (rs := [8]) (by kernel_rfl) (by simp) ?_
            refine AllReadyIn.cons rfl (fun K hK => ?_) AllReadyIn.nil
            go_simp
            refine hK _ _ ?_; clear hK K
            refine wpAnyIn_ready (rs := [9]) (by kernel_rfl) (by simp) ?_
            refine AllReadyIn.cons rfl (fun K hK => ?_) AllReadyIn.nil
            refine ite_wanted rfl ?_
            refine opIn_appR (w8.alloc (.cells #[.int .i64 v1, .int .i64 v2] 50)) (.tmp 39) (.tmp 46) rfl W0.heap.size Ao no co (pre.map fun k => sackOf zs k.1) (by simp [Act.eval, Act.put]) ((HO.out.below H8.out).below (ba1 _ _)) (some ⟨w8.heap.size, 0, none⟩) 1 1 [(v1, v2)] (by simp [Act.eval, Act.put]) (rs_new _ _ _ _ rfl _ rfl) rfl (no + 1) rfl (by omega) (by have := H8.out.size; simp; omega) ?_
            intro A9 c9 w9 ho9 hb9 hs9
            have hz9 := hb9.size
            simp at hz9
            have BX9 : Box9 w9 S (.int .i64 s0) (.int .i64 s1) (.int .i64 s2) (.bool g0) (.bool g1) (.bool g2) (.bool g3) (.slice Ao no co) (.slice none 0 0) := (hb9.block S (by omega)).trans (((ba1 w8 (.cells #[.int .i64 v1, .int .i64 v2] 50)).block S lS8).trans ((H8.out.block S lS).trans HBX.out))
            obtain ⟨lS9, -, -, -, -, -, -, -, e79, -, f9⟩ := BX9.cells
            have f79 := f9 7
            refine hK _ _ ?_; clear hK K
            refine wpAnyIn_ready (rs := [10]) (by kernel_rfl) (by simp) ?_
            refine AllReadyIn.cons rfl (fun K hK => ?_) AllReadyIn.nil
            go_simp
            refine hK _ _ ?_; clear hK K
            refine wpAnyIn_ready (rs := [11]) (by kernel_rfl) (by simp) ?_
            refine AllReadyIn.cons rfl (fun K hK => ?_) AllReadyIn.nil
            go_simp
            refine hK _ _ ?_; clear hK K
            refine wpAnyIn_done (by kernel_rfl) ?_ _
            have HB9 : Below W0.heap.size W w9 := (((H8.out.mono (by omega)).alloc (by have := H8.out.size; omega) (.cells #[.int .i64 v1, .int .i64 v2] 50)).trans hb9)
            have HB9S : Below S W w9 := HB9.mono (by omega)
            show KeepsFrom W0.heap.size W _ ∧ ReadK S w6.heap.size (w6.heap.size + 1) W _ ∧ ReadI zs W0 S (.int .i64 s0) (.int .i64 s1) (.int .i64 s2) (.bool g0) (.bool g1) (.bool g2) (.bool g3) (pre ++ [y]) _
            refine ⟨((((below_keeps H8.out).trans (KeepsOthers.alloc w8 (.cells #[.int .i64 v1, .int .i64 v2] 50))).trans (beside_keeps ((HO.out.below H8.out).below (ba1 _ _)) hs9 (by simp; omega))).trans (KeepsOthers.setCell _ _ _)).from _, ⟨HB9S.setCell (Nat.le_refl _) _, ?_, ?_⟩, A9, no + 1, c9, box9_s7 BX9 _, ?_, (HBL.out.trans HB9S).setCell (Nat.le_refl _) _⟩
            · rw [Below.heap_setCell _ _ _ _ (by simp only; omega)]; exact HB9.block _ (by omega)
            · rw [Below.heap_setCell _ _ _ _ (by simp only; omega)]; exact HB9.block _ (by omega)
            · rw [hsk.out]; exact ⟨ho9.1, ownsRow_setCell_below ho9.2 (a := ⟨S, 7, none⟩) (by simp only; omega) _⟩
          · refine AllReadyIn.cons rfl (fun K hK => ?_) AllReadyIn.nil
            go_simp
            try refine ⟨trivial, ?_⟩
            gi_at_call 29
            refine (callsIn_wide.2 (HPa.out _ HD.out)).mono ?_
            rintro e w7 ⟨rfl, hb7⟩
            have e77 := (hb7.cell (p := ⟨S, 7, none⟩) lS).trans e7
            have H7 : Hid (Below W.heap.size W w7) := Lib.hid (bthen HD.out hb7)
            clear hb7
            try go_simp
            refine hK _ _ ?_; clear hK K
            refine wpAnyIn_ready (rs := [1, 6]) (by kernel_rfl) (by simp) ?_
            refine AllReadyIn.cons rfl (fun K hK => ?_) ?_
            · go_simp
              refine hK _ _ ?_; clear hK K
              refine wpAnyIn_ready (rs := [6]) (by kernel_rfl) (by simp) ?_
              refine AllReadyIn.cons rfl (fun K hK => ?_) AllReadyIn.nil
              go_simp
              try refine ⟨trivial, ?_⟩
              gi_at_call 29
              refine (callsIn_wide.2 (HPb.out _ H7.out)).mono ?_
              rintro e w8 ⟨rfl, hb8⟩
              have e78 := (hb8.cell (p := ⟨S, 7, none⟩) (Nat.lt_of_lt_of_le lS H7.out.size)).trans e77
              have H8 : Hid (Below W.heap.size W w8) := Lib.hid (bthen H7.out hb8)
              have lS8 : S < w8.heap.size := Nat.lt_of_lt_of_le lS H8.out.size
              clear hb8
              try go_simp
              refine hK _ _ ?_; clear hK K
              refine wpAnyIn_ready (rs := [7]) (by kernel_rfl) (by simp) ?_
              refine AllReadyIn.cons rfl (fun K hK => ?_) AllReadyIn.nil
              go_simp
              refine hK _ _ ?_; clear hK K
              refine wpAnyIn_ready (rs := [8]) (by kernel_rfl) (by simp) ?_
              refine AllReadyIn.cons rfl (fun K hK => ?_) AllReadyIn.nil
              go_simp
              refine hK _ _ ?_; clear hK K
              refine wpAnyIn_ready (rs := [9]) (by kernel_rfl) (by simp) ?_
              refine AllReadyIn.cons rfl (fun K hK => ?_) AllReadyIn.nil
              refine ite_wanted rfl ?_
              refine opIn_appR (w8.alloc (.cells #[.int .i64 v1, .int .i64 v2] 50)) (.tmp 39) (.tmp 46) rfl W0.heap.size Ao no co (pre.map fun k => sackOf zs k.1) (by simp [Act.eval, Act.put]) ((HO.out.below H8.out).below (ba1 _ _)) (some ⟨w8.heap.size, 0, none⟩) 1 1 [(v1, v2)] (by simp [Act.eval, Act.put]) (rs_new _ _ _ _ rfl _ rfl) rfl (no + 1) rfl (by omega) (by have := H8.out.size; simp; omega) ?_
              intro A9 c9 w9 ho9 hb9 hs9
              have hz9 := hb9.size
              simp at hz9
              have BX9 : Box9 w9 S (.int .i64 s0) (.int .i64 s1) (.int .i64 s2) (.bool g0) (.bool g1) (.bool g2) (.bool g3) (.slice Ao no co) (.slice none 0 0) := (hb9.block S (by omega)).trans (((ba1 w8 (.cells #[.int .i64 v1, .int .i64 v2] 50)).block S lS8).trans ((H8.out.block S lS).trans HBX.out))
              obtain ⟨lS9, -, -, -, -, -, -, -, e79, -, f9⟩ := BX9.cells
              have f79 := f9 7
              refine hK _ _ ?_; clear hK K
              refine wpAnyIn_ready (rs := [10]) (by kernel_rfl) (by simp) ?_
              refine AllReadyIn.cons rfl (fun K hK => ?_) AllReadyIn.nil
              go_simp
              refine hK _ _ ?_; clear hK K
              refine wpAnyIn_ready (rs := [11]) (by kernel_rfl) (by simp) ?_
              refine AllReadyIn.cons rfl (fun K hK => ?_) AllReadyIn.nil
              go_simp
              refine hK _ _ ?_; clear hK K
              refine wpAnyIn_done (by kernel_rfl) ?_ _
              have HB9 : Below W0.heap.size W w9 := (((H8.out.mono (by omega)).alloc (by have := H8.out.size; omega) (.cells #[.int .i64 v1, .int .i64 v2] 50)).trans hb9)
              have HB9S : Below S W w9 := HB9.mono (by omega)
              show KeepsFrom W0.heap.size W _ ∧ ReadK S w6.heap.size (w6.heap.size + 1) W _ ∧ ReadI zs W0 S (.int .i64 s0) (.int .i64 s1) (.int .i64 s2) (.bool g0) (.bool g1) (.bool g2) (.bool g3) (pre ++ [y]) _
              refine ⟨((((below_keeps H8.out).trans (KeepsOthers.alloc w8 (.cells #[.int .i64 v1, .int .i64 v2] 50))).trans (beside_keeps ((HO.out.below H8.out).below (ba1 _ _)) hs9 (by simp; omega))).trans (KeepsOthers.setCell _ _ _)).from _, ⟨HB9S.setCell (Nat.le_refl _) _, ?_, ?_⟩, A9, no + 1, c9, box9_s7 BX9 _, ?_, (HBL.out.trans HB9S).setCell (Nat.le_refl _) _⟩
              · rw [Below.heap_setCell _ _ _ _ (by simp only; omega)]; exact HB9.block _ (by omega)
              · rw [Below.heap_setCell _ _ _ _ (by simp only; omega)]; exact HB9.block _ (by omega)
              · rw [hsk.out]; exact ⟨ho9.1, ownsRow_setCell_below ho9.2 (a := ⟨S, 7, none⟩) (by simp only; omega) _⟩
            · refine AllReadyIn.cons rfl (fun K hK => ?_) AllReadyIn.nil
              go_simp
              try refine ⟨trivial, ?_⟩
              gi_at_call 29
              refine (callsIn_wide.2 (HPb.out _ H7.out)).mono ?_
              rintro e w8 ⟨rfl, hb8⟩
              have e78 := (hb8.cell (p := ⟨S, 7, none⟩) (Nat.lt_of_lt_of_le lS H7.out.size)).trans e77
              have H8 : Hid (Below W.heap.size W w8) := Lib.hid (bthen H7.out hb8)
              have lS8 : S < w8.heap.size := Nat.lt_of_lt_of_le lS H8.out.size
              clear hb8
              try go_simp
              refine hK _ _ ?_; clear hK K
              refine wpAnyIn_take (i := 7) (v := ?_) rfl rfl (by kernel_rfl) (by kernel_rfl) (by kernel_rfl) (fun _ _ _ h => h) ⟨Or.inl ⟨by rfl, ?_⟩, fun _ => rfl⟩ ?_
              rotate_left
              · intro w; go_simp; try with_reducible rfl
              refine wpAnyIn_ready (rs := [1, 8]) (by kernel_rfl) (by simp) ?_
              refine AllReadyIn.cons rfl (fun K hK => ?_) ?_
              · go_simp
                refine hK _ _ ?_; clear hK K
                refine wpAnyIn_ready (rs := [8]) (by kernel_rfl) (by simp) ?_
                refine AllReadyIn.cons rfl (fun K hK => ?_) AllReadyIn.nil
                go_simp
                refine hK _ _ ?_; clear hK K
                refine wpAnyIn_ready (rs := [9]) (by kernel_rfl) (by simp) ?_
                refine AllReadyIn.cons rfl (fun K hK => ?_) AllReadyIn.nil
                refine ite_wanted rfl ?_
                refine opIn_appR (w8.alloc (.cells #[.int .i64 v1, .int .i64 v2] 50)) (.tmp 39) (.tmp 46) rfl W0.heap.size Ao no co (pre.map fun k => sackOf zs k.1) (by simp [Act.eval, Act.put]) ((HO.out.below H8.out).below (ba1 _ _)) (some ⟨w8.heap.size, 0, none⟩) 1 1 [(v1, v2)] (by simp [Act.eval, Act.put]) (rs_new _ _ _ _ rfl _ rfl) rfl (no + 1) rfl (by omega) (by have := H8.out.size; simp; omega) ?_
                intro A9 c9 w9 ho9 hb9 hs9
                have hz9 := hb9.size
                simp at hz9
                have BX9 : Box9 w9 S (.int .i64 s0) (.int .i64 s1) (.int .i64 s2) (.bool g0) (.bool g1) (.bool g2) (.bool g3) (.slice Ao no co) (.slice none 0 0) := (hb9.block S (by omega)).trans (((ba1 w8 (.cells #[.int .i64 v1, .int .i64 v2] 50)).block S lS8).trans ((H8.out.block S lS).trans HBX.out))
                obtain ⟨lS9, -, -, -, -, -, -, -, e79, -, f9⟩ := BX9.cells
                have f79 := f9 7
                refine hK _ _ ?_; clear hK K
                refine wpAnyIn_ready (rs := [10]) (by kernel_rfl) (by simp) ?_
                refine AllReadyIn.cons rfl (fun K hK => ?_) AllReadyIn.nil
                go_simp
                refine hK _ _ ?_; clear hK K
                refine wpAnyIn_ready (rs := [11]) (by kernel_rfl) (by simp) ?_
                refine AllReadyIn.cons rfl (fun K hK => ?_) AllReadyIn.nil
                go_simp
                refine hK _ _ ?_; clear hK K
                refine wpAnyIn_done (by kernel_rfl) ?_ _
                have HB9 : Below W0.heap.size W w9 := (((H8.out.mono (by omega)).alloc (by have := H8.out.size; omega) (.cells #[.int .i64 v1, .int .i64 v2] 50)).trans hb9)
                have HB9S : Below S W w9 := HB9.mono (by omega)
                show KeepsFrom W0.heap.size W _ ∧ ReadK S w6.heap.size (w6.heap.size + 1) W _ ∧ ReadI zs W0 S (.int .i64 s0) (.int .i64 s1) (.int .i64 s2) (.bool g0) (.bool g1) (.bool g2) (.bool g3) (pre ++ [y]) _
                refine ⟨((((below_keeps H8.out).trans (KeepsOthers.alloc w8 (.cells #[.int .i64 v1, .int .i64 v2] 50))).trans (beside_keeps ((HO.out.below H8.out).below (ba1 _ _)) hs9 (by simp; omega))).trans (KeepsOthers.setCell _ _ _)).from _, ⟨HB9S.setCell (Nat.le_refl _) _, ?_, ?_⟩, A9, no + 1, c9, box9_s7 BX9 _, ?_, (HBL.out.trans HB9S).setCell (Nat.le_refl _) _⟩
                · rw [Below.heap_setCell _ _ _ _ (by simp only; omega)]; exact HB9.block _ (by omega)
                · rw [Below.heap_setCell _ _ _ _ (by simp only; omega)]; exact HB9.block _ (by omega)
                · rw [hsk.out]; exact ⟨ho9.1, ownsRow_setCell_below ho9.2 (a := ⟨S, 7, none⟩) (by simp only; omega) _⟩
              · refine AllReadyIn.cons rfl (fun K hK => ?_) AllReadyIn.nil
                go_simp
                refine hK _ _ ?_; clear hK K
                refine wpAnyIn_ready (rs := [1]) (by kernel_rfl) (by simp) ?_
                refine AllReadyIn.cons rfl (fun K hK => ?_) AllReadyIn.nil
                go_simp
                refine hK _ _ ?_; clear hK K
                refine wpAnyIn_ready (rs := [9]) (by kernel_rfl) (by simp) ?_
                refine AllReadyIn.cons rfl (fun K hK => ?_) AllReadyIn.nil
                refine ite_wanted rfl ?_
                refine opIn_appR (w8.alloc (.cells #[.int .i64 v1, .int .i64 v2] 50)) (.tmp 39) (.tmp 46) rfl W0.heap.size Ao no co (pre.map fun k => sackOf zs k.1) (by simp [Act.eval, Act.put]) ((HO.out.below H8.out).below (ba1 _ _)) (some ⟨w8.heap.size, 0, none⟩) 1 1 [(v1, v2)] (by simp [Act.eval, Act.put]) (rs_new _ _ _ _ rfl _ rfl) rfl (no + 1) rfl (by omega) (by have := H8.out.size; simp; omega) ?_
                intro A9 c9 w9 ho9 hb9 hs9
                have hz9 := hb9.size
                simp at hz9
                have BX9 : Box9 w9 S (.int .i64 s0) (.int .i64 s1) (.int .i64 s2) (.bool g0) (.bool g1) (.bool g2) (.bool g3) (.slice Ao no co) (.slice none 0 0) := (hb9.block S (by omega)).trans (((ba1 w8 (.cells #[.int .i64 v1, .int .i64 v2] 50)).block S lS8).trans ((H8.out.block S lS).trans HBX.out))
                obtain ⟨lS9, -, -, -, -, -, -, -, e79, -, f9⟩ := BX9.cells
                have f79 := f9 7
                refine hK _ _ ?_; clear hK K
                refine wpAnyIn_ready (rs := [10]) (by kernel_rfl) (by simp) ?_
                refine AllReadyIn.cons rfl (fun K hK => ?_) AllReadyIn.nil
                go_simp
                refine hK _ _ ?_; clear hK K
                refine wpAnyIn_ready (rs := [11]) (by kernel_rfl) (by simp) ?_
                refine AllReadyIn.cons rfl (fun K hK => ?_) AllReadyIn.nil
                go_simp
                refine hK _ _ ?_; clear hK K
                refine wpAnyIn_done (by kernel_rfl) ?_ _
                have HB9 : Below W0.heap.size W w9 := (((H8.out.mono (by omega)).alloc (by have := H8.out.size; omega) (.cells #[.int .i64 v1, .int .i64 v2] 50)).trans hb9)
                have HB9S : Below S W w9 := HB9.mono (by omega)
                show KeepsFrom W0.heap.size W _ ∧ ReadK S w6.heap.size (w6.heap.size + 1) W _ ∧ ReadI zs W0 S (.int .i64 s0) (.int .i64 s1) (.int .i64 s2) (.bool g0) (.bool g1) (.bool g2) (.bool g3) (pre ++ [y]) _
                refine ⟨((((below_keeps H8.out).trans (KeepsOthers.alloc w8 (.cells #[.int .i64 v1, .int .i64 v2] 50))).trans (beside_keeps ((HO.out.below H8.out).below (ba1 _ _)) hs9 (by simp; omega))).trans (KeepsOthers.setCell _ _ _)).from _, ⟨HB9S.setCell (Nat.le_refl _) _, ?_, ?_⟩, A9, no + 1, c9, box9_s7 BX9 _, ?_, (HBL.out.trans HB9S).setCell (Nat.le_refl _) _⟩
                · rw [Below.heap_setCell _ _ _ _ (by simp only; omega)]; exact HB9.block _ (by omega)
                · rw [Below.heap_setCell _ _ _ _ (by simp only; omega)]; exact HB9.block _ (by omega)
                · rw [hsk.out]; exact ⟨ho9.1, ownsRow_setCell_below ho9.2 (a := ⟨S, 7, none⟩) (by simp only; omega) _⟩
        case done =>
          rintro D xs W hD hxs ⟨Ao, no, co, hb, ho, hbel⟩ hKd
          have hxs' : xs.map (fun k => sackOf zs k.1) = sacksAt zs 10 q := by
            have : xs.map (·.1) = List.range q := hxs
            rw [sacksAt_map, ← this, List.map_map]; rfl
          rw [hxs'] at ho
          have hnoq : no = q := by have := ho.1; rw [sacksAt_len] at this; exact this.symm
          have hWs := hbel.size
          have hDl : D < W.heap.size := lt_of_block hKd
          have hBw : Below w.heap.size w W := ((HB1.out.trans (HBEL.out.mono (by omega))).trans (HB0S.out.mono (by omega))).trans (hbel.mono (by omega))
          have hbsW := HB.out.below hBw
          obtain ⟨m, hm⟩ : ∃ m, m = n - at_ := ⟨_, rfl⟩
          have hcl : Hid (∀ w', w' = W → Calls Try.prog 43 #[.slice (some ⟨b, oD, none⟩) (n - at_) (c - at_)] w' fun e w'' => ∃ A c', e = .returned (.slice A m c') ∧ OwnB w'' w'.heap.size A m c' (zs.drop at_) ∧ Below w'.heap.size w' w'') := Lib.hid (fun w' h => by
            subst h
            rw [hm]
            refine clone_some b oD (n - at_) (c - at_) (zs.drop at_) _ ?_ (by rw [List.length_drop, HN.out]) (by omega)
            rcases HDD.out with h | h
            · exact ⟨fun z hz => hbsW.1 z (List.mem_of_mem_drop hz), .inl (List.drop_eq_nil_of_le (by rw [HN.out]; omega))⟩
            · rw [h]; exact hbsW.drop at_)
          obtain ⟨lS, k0, k1, k2, k3, k4, k5, k6, k7, k8, ks⟩ := hb.cells
          have HBX := Lib.hid hb; have HO := Lib.hid ho; have HBL := Lib.hid hbel; have HBW := Lib.hid hBw; have HKD := Lib.hid hKd; have HM := Lib.hid hm; have HNQ := Lib.hid hnoq
          have hSR : S ≠ w.heap.size := hne
          have hRW : w.heap.size < W.heap.size := by omega
          have hRw6 : Box9 W w.heap.size (.int .i64 0) (.int .i64 0) (.int .i64 0) (.bool false) (.bool false) (.bool false) (.bool false) (.slice none 0 0) (.slice none 0 0) := (hbel.block w.heap.size (by omega)).trans ((HB00.out.block w.heap.size (by omega)).trans HR6.out)
          have HRW := Lib.hid hRw6
          clear hb ho hbel hKd hxs hxs' hbsW hBw hm k8 hRw6 hnoq
          go_upto_region 11 with (go_at_call 43; refine (hcl.out _ rfl).mono ?_; rintro e w10 ⟨A10, c10, rfl, ho10, hb10⟩; have j8 := (hb10.cell (p := ⟨S, 8, none⟩) lS).trans (HBX.out.cells).2.2.2.2.2.2.2.2.2.1; have f8 := (hb10.frozen (p := ⟨S, 8, none⟩) lS).trans (ks 8); have HO10 := Lib.hid ho10; have HB10 := Lib.hid hb10; have hz10 := hb10.size; clear ho10 hb10)
          obtain ⟨V1, hV1⟩ : ∃ V1, V1 = w10.setCell ⟨S, 8, none⟩ (.slice A10 m c10) := ⟨_, rfl⟩
          have b10 : Box9 w10 S (.int .i64 s0) (.int .i64 s1) (.int .i64 s2) (.bool g0) (.bool g1) (.bool g2) (.bool g3) (.slice Ao no co) (.slice none 0 0) := (HB10.out.block S lS).trans HBX.out
          have bV : Box9 V1 S (.int .i64 s0) (.int .i64 s1) (.int .i64 s2) (.bool g0) (.bool g1) (.bool g2) (.bool g3) (.slice Ao no co) (.slice A10 m c10) := by rw [hV1]; exact box9_s8 b10 _
          have hRV : Box9 V1 w.heap.size (.int .i64 0) (.int .i64 0) (.int .i64 0) (.bool false) (.bool false) (.bool false) (.bool false) (.slice none 0 0) (.slice none 0 0) := by
            unfold Box9
            rw [hV1, Below.heap_setCell _ _ _ _ (by simp only; omega)]
            exact (HB10.out.block w.heap.size hRW).trans HRW.out
          have hoV : OwnR V1 W0.heap.size Ao no co (sacksAt zs 10 q) := by
            rw [hV1]
            exact ⟨HO.out.1, ownsRow_setCell_below (own_below HO.out.2 HB10.out) (a := ⟨S, 8, none⟩) (by simp only; omega) _⟩
          have hdV : OwnB V1 W.heap.size A10 m c10 (zs.drop at_) := by
            rw [hV1]
            exact ⟨HO10.out.1, HO10.out.2.1, ownsRow_setCell_below HO10.out.2.2 (a := ⟨S, 8, none⟩) (by simp only; omega) _⟩
          have hkV : V1.heap[D]? = some (.deferred (some [])) := by
            rw [hV1, Below.heap_setCell _ _ _ _ (by simp only; omega)]
            exact (HB10.out.block D hDl).trans HKD.out
          have hbV : Below w.heap.size w V1 := by
            rw [hV1]
            exact (HBW.out.trans (HB10.out.mono (by omega))).setCell (by simp only; omega) _
          have hzV : W.heap.size ≤ V1.heap.size := by rw [hV1]; simpa using hz10
          obtain ⟨lSV, k0, k1, k2, k3, k4, k5, k6, k7, k8, -⟩ := bV.cells
          obtain ⟨lRV, c0, c1, c2, c3, c4, c5, c6, c7, c8, fr⟩ := hRV.cells
          have z0 := fr 0; have z1 := fr 1; have z2 := fr 2; have z3 := fr 3; have z4 := fr 4; have z5 := fr 5; have z6 := fr 6; have z7 := fr 7; have z8 := fr 8
          rw [← hV1]
          have HRV := Lib.hid hRV; have HOV := Lib.hid hoV; have HDV := Lib.hid hdV; have HKV := Lib.hid hkV; have HBV := Lib.hid hbV
          clear hV1 b10 bV hRV hoV hdV hkV hbV fr j8 f8
          go_wp2
          obtain ⟨wf, hwf⟩ : ∃ wf, wf = (((((((((V1.setCell ⟨w.heap.size, 0, none⟩ (.int .i64 s0)).setCell ⟨w.heap.size, 1, none⟩ (.int .i64 s1)).setCell ⟨w.heap.size, 2, none⟩ (.int .i64 s2)).setCell ⟨w.heap.size, 3, none⟩ (.bool g0)).setCell ⟨w.heap.size, 4, none⟩ (.bool g1)).setCell ⟨w.heap.size, 5, none⟩ (.bool g2)).setCell ⟨w.heap.size, 6, none⟩ (.bool g3)).setCell ⟨w.heap.size, 7, none⟩ (.slice Ao no co)).setCell ⟨w.heap.size, 8, none⟩ (.slice A10 m c10)) := ⟨_, rfl⟩
          have hf : Box9 wf w.heap.size (.int .i64 s0) (.int .i64 s1) (.int .i64 s2) (.bool g0) (.bool g1) (.bool g2) (.bool g3) (.slice Ao no co) (.slice A10 m c10) := by rw [hwf]; exact box9_store HRV.out _ _ _ _ _ _ _ _ _
          have hbf : Below w.heap.size w wf := by rw [hwf]; exact below_store HBV.out (Nat.le_refl _) _ _ _ _ _ _ _ _ _
          have hof : OwnR wf W0.heap.size Ao no co (sacksAt zs 10 q) := by rw [hwf]; exact ⟨HOV.out.1, ownsRow_store HOV.out.2 _ (by omega) _ _ _ _ _ _ _ _ _⟩
          have hdf : OwnB wf W.heap.size A10 m c10 (zs.drop at_) := by rw [hwf]; exact ⟨HDV.out.1, HDV.out.2.1, ownsRow_store HDV.out.2.2 _ (by omega) _ _ _ _ _ _ _ _ _⟩
          have hkf : wf.heap[D]? = some (.deferred (some [])) := by rw [hwf, heap_store (by omega)]; exact HKV.out
          have hDf : Below W0.heap.size wf (wf.putObj D (.deferred none)) := (Below.refl W0.heap.size wf).grown (grownBy_putObj' wf D (.deferred none)) (by rw [hwf]; simp; omega) (fun k e => by cases e; omega)
          have hrf : Box9 (wf.putObj D (.deferred none)) w.heap.size (.int .i64 s0) (.int .i64 s1) (.int .i64 s2) (.bool g0) (.bool g1) (.bool g2) (.bool g3) (.slice Ao no co) (.slice A10 m c10) := (hDf.block _ (by omega)).trans hf
          obtain ⟨-, r0, r1, r2, r3, r4, r5, r6, r7, r8, -⟩ := hrf.cells
          rw [← hwf]
          refine ⟨by simp, .inl ⟨_, _, rfl, run_takeDeferred hkf, ?_⟩⟩
          refine leaves_end (v := .tuple #[.agg #[.int .i64 s0, .int .i64 s1, .int .i64 s2, .bool g0, .bool g1, .bool g2, .bool g3, .slice Ao no co, .slice A10 m c10], .bool true]) (by simp [results, Try.results31, go_sem, r0, r1, r2, r3, r4, r5, r6, r7, r8]) ?_
          refine ⟨hbf.trans (hDf.mono (by omega)), .inr ⟨hrb.out, Ao, co, A10, m, c10, ?_, ?_⟩⟩
          · rw [HQ.out, ← HNQ.out, HG.out.1, HG.out.2.1, HG.out.2.2.1, HG.out.2.2.2, HX.out, HS0.out, HS1.out, HS2.out]
            rfl
          · refine ⟨⟨?_, ?_⟩, ?_⟩
            · show (sacksAt zs 10 (cnt zs)).length = cnt zs
              exact sacksAt_len _ _ _
            · show World.ownsRow _ _ _ _ _ _ (rcells (sacksAt zs 10 (cnt zs)))
              rw [HQ.out, ← HNQ.out]
              have := own_base (ownsRow_put hof.2 hkf) (show w.heap.size ≤ W0.heap.size by omega)
              rw [HNQ.out] at this ⊢
              exact this
            · show OwnB _ _ _ _ _ (zs.drop (10 + 4 * cnt zs))
              rw [HQ.out, ← HAT.out]
              exact ⟨hdf.1, hdf.2.1, own_base (ownsRow_put hdf.2.2 hkf) (show w.heap.size ≤ W.heap.size by omega)⟩
        case stop =>
          rintro D c pre W _ _ h _
          exact h.elim
      · have hrb : Hid (readB zs = false) := Lib.hid (by rw [readB, HQ.out, HN.out]; simp [hlen])
        have zat : (10 : Int) + 4 * (q : Int) = ((10 + 4 * q : Nat) : Int) := by omega
        have zlt : (n : Int) < ((10 + 4 * q : Nat) : Int) := by omega
        obtain ⟨at_, hat⟩ : ∃ a, a = 10 + 4 * q := ⟨_, rfl⟩
        rw [← hat] at zat zlt
        clear hat
        go_wp2_with (go_at_call 44; refine htell.out.mono ?_; rintro e w6 ⟨rfl, hb6, hq6⟩; obtain ⟨lS, k0, k1, k2, k3, k4, k5, k6, k7, k8, -⟩ := hb6.cells; have hr6 := (hq6.block w.heap.size (by omega)).trans HRC.out; obtain ⟨lR, -, -, -, -, -, -, -, -, -, fr⟩ := Box9.cells hr6; have z0 := fr 0; have z1 := fr 1; have z2 := fr 2; have z3 := fr 3; have z4 := fr 4; have z5 := fr 5; have z6 := fr 6; have z7 := fr 7; have z8 := fr 8; obtain ⟨-, c0, c1, c2, c3, c4, c5, c6, c7, c8, -⟩ := Box9.cells hr6; have d7 := (hq6.cell (p := ⟨b, o + 7, none⟩) (by simp only; omega)).trans hc7; have HR6 := Lib.hid hr6; have HQ6 := Lib.hid hq6; clear hb6 hq6 hr6 fr)
        obtain ⟨wf, hwf⟩ : ∃ wf, wf = (((((((((w6.setCell ⟨w.heap.size, 0, none⟩ (.int .i64 s0)).setCell ⟨w.heap.size, 1, none⟩ (.int .i64 s1)).setCell ⟨w.heap.size, 2, none⟩ (.int .i64 s2)).setCell ⟨w.heap.size, 3, none⟩ (.bool g0)).setCell ⟨w.heap.size, 4, none⟩ (.bool g1)).setCell ⟨w.heap.size, 5, none⟩ (.bool g2)).setCell ⟨w.heap.size, 6, none⟩ (.bool g3)).setCell ⟨w.heap.size, 7, none⟩ (.slice none 0 0)).setCell ⟨w.heap.size, 8, none⟩ (.slice none 0 0)) := ⟨_, rfl⟩
        have hf : Box9 wf w.heap.size (.int .i64 s0) (.int .i64 s1) (.int .i64 s2) (.bool g0) (.bool g1) (.bool g2) (.bool g3) (.slice none 0 0) (.slice none 0 0) := by rw [hwf]; exact box9_store HR6.out _ _ _ _ _ _ _ _ _
        have hbf : Below w.heap.size w wf := by rw [hwf]; exact below_store (((HB1.out.trans (HBEL.out.mono (by omega)))).trans (HQ6.out.mono (by omega))) (Nat.le_refl _) _ _ _ _ _ _ _ _ _
        obtain ⟨-, r0, r1, r2, r3, r4, r5, r6, r7, r8, -⟩ := hf.cells
        rw [← hwf]
        refine leaves_end (v := .tuple #[.agg #[.int .i64 s0, .int .i64 s1, .int .i64 s2, .bool g0, .bool g1, .bool g2, .bool g3, .slice none 0 0, .slice none 0 0], .bool false]) (by simp [results, Try.results31, go_sem, r0, r1, r2, r3, r4, r5, r6, r7, r8]) ?_
        refine ⟨hbf, .inl ⟨hrb.out, ?_⟩⟩
        rw [HG.out.1, HG.out.2.1, HG.out.2.2.1, HG.out.2.2.2, HX.out, HS0.out, HS1.out, HS2.out]
        rfl
    · have hrb : Hid (readB zs = false) := Lib.hid (by rw [readB, ← HX.out]; simp [hx15])
      have htell : Hid (Calls Try.prog 44 #[.pointer (some ⟨S, 0, none⟩), .int .u8 x] wc fun e w' => e = .returned (.bool false) ∧ Box9 w' S (.int .i64 s0) (.int .i64 s1) (.int .i64 s2) (.bool (bit x 1)) (.bool (bit x 2)) (.bool (bit x 4)) (.bool (bit x 8)) (.slice none 0 0) (.slice none 0 0) ∧ Below S wc w') := Lib.hid (tell_any S x false _ _ _ _ _ _ _ _ _ _ x0 x1 (by simp [hx15]) HBOX.out)
      obtain ⟨g0, g1, g2, g3, hG⟩ : ∃ g0 g1 g2 g3, g0 = bit x 1 ∧ g1 = bit x 2 ∧ g2 = bit x 4 ∧ g3 = bit x 8 := ⟨_, _, _, _, rfl, rfl, rfl, rfl⟩
      rw [← hG.1, ← hG.2.1, ← hG.2.2.1, ← hG.2.2.2] at htell
      have HG := Lib.hid hG
      clear hG
      go_wp2_with (go_at_call 44; refine htell.out.mono ?_; rintro e w6 ⟨rfl, hb6, hq6⟩; obtain ⟨lS, k0, k1, k2, k3, k4, k5, k6, k7, k8, -⟩ := hb6.cells; have hr6 := (hq6.block w.heap.size (by omega)).trans HRC.out; obtain ⟨lR, -, -, -, -, -, -, -, -, -, fr⟩ := Box9.cells hr6; have z0 := fr 0; have z1 := fr 1; have z2 := fr 2; have z3 := fr 3; have z4 := fr 4; have z5 := fr 5; have z6 := fr 6; have z7 := fr 7; have z8 := fr 8; obtain ⟨-, c0, c1, c2, c3, c4, c5, c6, c7, c8, -⟩ := Box9.cells hr6; have HR6 := Lib.hid hr6; have HQ6 := Lib.hid hq6; clear hb6 hq6 hr6 fr)
      obtain ⟨wf, hwf⟩ : ∃ wf, wf = (((((((((w6.setCell ⟨w.heap.size, 0, none⟩ (.int .i64 s0)).setCell ⟨w.heap.size, 1, none⟩ (.int .i64 s1)).setCell ⟨w.heap.size, 2, none⟩ (.int .i64 s2)).setCell ⟨w.heap.size, 3, none⟩ (.bool g0)).setCell ⟨w.heap.size, 4, none⟩ (.bool g1)).setCell ⟨w.heap.size, 5, none⟩ (.bool g2)).setCell ⟨w.heap.size, 6, none⟩ (.bool g3)).setCell ⟨w.heap.size, 7, none⟩ (.slice none 0 0)).setCell ⟨w.heap.size, 8, none⟩ (.slice none 0 0)) := ⟨_, rfl⟩
      have hf : Box9 wf w.heap.size (.int .i64 s0) (.int .i64 s1) (.int .i64 s2) (.bool g0) (.bool g1) (.bool g2) (.bool g3) (.slice none 0 0) (.slice none 0 0) := by rw [hwf]; exact box9_store HR6.out _ _ _ _ _ _ _ _ _
      have hbf : Below w.heap.size w wf := by rw [hwf]; exact below_store (((HB1.out.trans (HBEL.out.mono (by omega)))).trans (HQ6.out.mono (by omega))) (Nat.le_refl _) _ _ _ _ _ _ _ _ _
      obtain ⟨-, r0, r1, r2, r3, r4, r5, r6, r7, r8, -⟩ := hf.cells
      rw [← hwf]
      refine leaves_end (v := .tuple #[.agg #[.int .i64 s0, .int .i64 s1, .int .i64 s2, .bool g0, .bool g1, .bool g2, .bool g3, .slice none 0 0, .slice none 0 0], .bool false]) (by simp [results, Try.results31, go_sem, r0, r1, r2, r3, r4, r5, r6, r7, r8]) ?_
      refine ⟨hbf, .inl ⟨hrb.out, ?_⟩⟩
      rw [HG.out.1, HG.out.2.1, HG.out.2.2.1, HG.out.2.2.2, HX.out, HS0.out, HS1.out, HS2.out]
      rfl

end Go.Proofs.Ytgmpablmkpamaaa
