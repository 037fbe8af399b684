/-
  The program's walk, Clean, Follow.
-/
import Derived.Test.YthjpighlcalocaaGreatDoorAppIn
import Derived.Test.YthjpighlcalocaaGreatDoorSlashes
import Derived.Test.YthjpighlcalocaaGreatDoorIsName
namespace Go.Proofs.YthjpighlcalocaaGreatDoor
open Go.RowKit Go.Shelf
set_option linter.unusedVariables false
set_option linter.unusedSimpArgs false
attribute [local go_sem] Oper.semAt_some

theorem leavesR {F : Fence} {n : Nat} {P : Program} {fn : Func} {tmps : Array Value} {R : Ending → World → Prop} {w : World} {v : Value} (h : (results fn tmps).run P w = .ok v w) (hR : R (.returned v) w) :
    bodyPostM F n P fn R .ret { tmps := tmps, defers := [] } w := ⟨v, h, hR⟩
theorem leavesD {n : Nat} {P : Program} {fn : Func} {R : Ending → World → Prop} {tmps : Array Value} {D : Nat} {w : World} {v : Value} (h : w.heap[D]? = some (.deferred (some [])))
    (hr : (results fn tmps).run P (w.putObj D (.deferred none)) = .ok v (w.putObj D (.deferred none))) (hR : R (.returned v) (w.putObj D (.deferred none))) :
    bodyPostM Fence.wide n P fn R .ret { tmps := tmps, defers := [{ target := .collected D, args := #[] }] } w :=
  ⟨by simp, .inl ⟨_, _, rfl, run_takeDeferred h, ⟨v, hr, hR⟩⟩⟩

/-- the blocks that the names' row is none of -/
def Apart6 (q4 q5 Q Bs Bp Bv : Nat) (v : Value) : Prop := Off q4 v ∧ Off q5 v ∧ Off Q v ∧ Off Bs v ∧ Off Bp v ∧ Off Bv v
theorem Apart6.grow {q4 q5 Q Bs Bp Bv : Nat} {v v' : Value} {A B : World} (h : Apart6 q4 q5 Q Bs Bp Bv v) (hb : Beside v v' A B) (h4 : q4 < A.heap.size) (h5 : q5 < A.heap.size) (hQ : Q < A.heap.size) (hs : Bs < A.heap.size) (hp : Bp < A.heap.size) (hv : Bv < A.heap.size) : Apart6 q4 q5 Q Bs Bp Bv v' :=
  ⟨h.1.grow hb h4, h.2.1.grow hb h5, h.2.2.1.grow hb hQ, h.2.2.2.1.grow hb hs, h.2.2.2.2.1.grow hb hp, h.2.2.2.2.2.grow hb hv⟩
theorem Apart6.same {q4 q5 Q Bs Bp Bv : Nat} {v v' : Value} (h : Apart6 q4 q5 Q Bs Bp Bv v) (e : v'.ownBlock = v.ownBlock) : Apart6 q4 q5 Q Bs Bp Bv v' :=
  ⟨fun k hk => h.1 k (e ▸ hk), fun k hk => h.2.1 k (e ▸ hk), fun k hk => h.2.2.1 k (e ▸ hk), fun k hk => h.2.2.2.1 k (e ▸ hk), fun k hk => h.2.2.2.2.1 k (e ▸ hk), fun k hk => h.2.2.2.2.2 k (e ▸ hk)⟩
/-- between two parts -/
def WkI (w : World) (l : List Byt) (q4 q5 Q Bs Bp Bv : Nat) (pre : List Byt) (W : World) : Prop :=
  ∃ (out : List Byt) (A : Option Addr) (q c : Nat), pfold l pre = .ok out ∧ q = out.length ∧ q ≤ 12 ∧ OwnL stS 9 W w.heap.size A q c out ∧ Apart6 q4 q5 Q Bs Bp Bv (.slice A q c) ∧
    Bx 29 W Q #[.slice A q c] ∧ Bx 29 W q4 #[.slice none 0 0] ∧ Bx 24 W q5 #[.int .i64 0] ∧ Below w.heap.size w W ∧ Bs < W.heap.size ∧ Bp < W.heap.size ∧ Bv < W.heap.size
/-- left, with an error -/
def WkX (w : World) (l : List Byt) (q4 q5 : Nat) (c : Code) (pre : List Byt) (W : World) : Prop :=
  c = .ret ∧ ∃ e, pfold l pre = .error e ∧ Bx 29 W q4 #[.slice none 0 0] ∧ Bx 24 W q5 #[.int .i64 e] ∧ Below w.heap.size w W
theorem OwnL.cells {α : Type} {F : Shape α} {e : TypeId} {w : World} {base : Nat} {A : Option Addr} {n c : Nat} {l : List α} (h : OwnL F e w base A n c l) : ∀ g, (Value.slice A n c).ownBlock = some g → ∃ cs t fr, w.heap[g]? = some (.cells cs t fr) := fun g hg => by
  rcases h.2.2 with ⟨hv, _⟩ | ⟨g', cap, cur, hv, _, hh, _⟩
  · rw [hv] at hg; cases hg
  · rw [hv] at hg; injection hg with hg; simp only at hg; subst hg
    exact ⟨_, _, _, hh⟩
theorem OwnL.grownBy {α : Type} {F : Shape α} {e : TypeId} {w w' : World} {base : Nat} {A : Option Addr} {n c : Nat} {l : List α} (h : OwnL F e w base A n c l) {row : Option Nat} (hg : w.grownBy w' row) (hr : ∀ r, row = some r → ∃ o : Obj, w.heap[r]? = some o ∧ o.isCells = false) : OwnL F e w' base A n c l :=
  h.keep fun g hgo => hg.block g (h.lt g hgo).2 fun e' => by
    obtain ⟨o, ho, hc⟩ := hr g e'.symm
    obtain ⟨cs, t, fr, hh⟩ := h.cells g hgo
    rw [hh] at ho; cases ho; cases hc
theorem Bx.grownBy {t : TypeId} {w w' : World} {B : Nat} {cs : Array Value} (h : Bx t w B cs) {row : Option Nat} (hg : w.grownBy w' row) (hr : ∀ r, row = some r → ∃ o : Obj, w.heap[r]? = some o ∧ o.isCells = false) : Bx t w' B cs :=
  (hg.block B h.lt fun e' => by
    obtain ⟨o, ho, hc⟩ := hr B e'.symm
    rw [show w.heap[B]? = _ from h] at ho; cases ho; cases hc).trans h
theorem beside_keepsL {α : Type} {F : Shape α} {e : TypeId} {A B : World} {base : Nat} {Ad : Option Addr} {n c : Nat} {l : List α} {v' : Value} (h : OwnL F e A base Ad n c l) (hs : Beside (.slice Ad n c) v' A B) (hsz : A.heap.size ≤ B.heap.size) : KeepsOthers A B :=
  ⟨hsz, fun k o hk ho => (hs.block k (Array.getElem?_eq_some_iff.1 hk).1 (fun j hj e' => by
    obtain ⟨cs, t, fr, hh⟩ := h.cells j hj
    subst e'
    rw [hh] at hk; cases hk; cases ho)).trans hk⟩
section
variable {w : World} {l : List Byt} {q4 q5 Q Bs Bp Bv : Nat}
theorem wkI_stores (h4 : q4 ≠ Bs) (h5 : q5 ≠ Bs) (hQ : Q ≠ Bs) (hw : w.heap.size ≤ Bs) : Stores Bs (WkI w l q4 q5 Q Bs Bp Bv) := by
  rintro pre A v ⟨out, A1, q, c, h1, h2, h3, ho, ha, b1, b2, b3, hb, s1, s2, s3⟩
  exact ⟨out, A1, q, c, h1, h2, h3, ho.set ha.2.2.2.1 _ _, ha, b1.other hQ _, b2.other h4 _, b3.other h5 _, hb.setCell hw _, by simp; omega, by simp; omega, by simp; omega⟩
theorem wkI_own (N : Nat) (hN : w.heap.size ≤ N) : OwnFrom N (WkI w l q4 q5 Q Bs Bp Bv) := by
  rintro pre X Y row ⟨out, A1, q, c, h1, h2, h3, ho, ha, b1, b2, b3, hb, s1, s2, s3⟩ hg hr
  have hz := hg.size
  exact ⟨out, A1, q, c, h1, h2, h3, ho.grownBy hg (fun r e => (hr r e).2), ha, b1.grownBy hg (fun r e => (hr r e).2), b2.grownBy hg (fun r e => (hr r e).2), b3.grownBy hg (fun r e => (hr r e).2), hb.grown hg hb.size (fun k e => by have := (hr k e).1; omega), by omega, by omega, by omega⟩
theorem wkX_own (N : Nat) (hN : w.heap.size ≤ N) (c : Code) : OwnFrom N (WkX w l q4 q5 c) := by
  rintro pre X Y row ⟨h0, e, h1, b1, b2, hb⟩ hg hr
  exact ⟨h0, e, h1, b1.grownBy hg (fun r e => (hr r e).2), b2.grownBy hg (fun r e => (hr r e).2), hb.grown hg hb.size (fun k e => by have := (hr k e).1; omega)⟩
/-- the names' box is set -/
theorem wkI_put {pre out : List Byt} {A : Option Addr} {q c : Nat} {v : Value} {W : World} (h1 : pfold l pre = .ok out) (h2 : q = out.length) (h3 : q ≤ 12) (ho : OwnL stS 9 W w.heap.size A q c out) (ha : Apart6 q4 q5 Q Bs Bp Bv (.slice A q c))
    (b1 : Bx 29 W Q #[v]) (b2 : Bx 29 W q4 #[.slice none 0 0]) (b3 : Bx 24 W q5 #[.int .i64 0]) (hb : Below w.heap.size w W) (h4 : q4 ≠ Q) (h5 : q5 ≠ Q) (hQ : w.heap.size ≤ Q) (hs : Bs < W.heap.size) (hp : Bp < W.heap.size) (hv : Bv < W.heap.size) :
    WkI w l q4 q5 Q Bs Bp Bv pre (W.setCell ⟨Q, 0, none⟩ (.slice A q c)) :=
  ⟨out, A, q, c, h1, h2, h3, ho.set ha.2.2.1 _ _, ha, b1.set 0 _, b2.other h4 _, b3.other h5 _, hb.setCell hQ _, by simp; omega, by simp; omega, by simp; omega⟩
theorem kp3_set {W : World} {B : Nat} (h1 : B ≠ Bs) (h2 : B ≠ Bp) (h3 : B ≠ Bv) (v : Value) : Kp3 Bs Bp Bv W (W.setCell ⟨B, 0, none⟩ v) :=
  ⟨by simp, Below.heap_setCell _ _ _ _ (fun e => h1 e.symm), Below.heap_setCell _ _ _ _ (fun e => h2 e.symm), Below.heap_setCell _ _ _ _ (fun e => h3 e.symm)⟩
theorem kp3_beside {W W' : World} {v v' : Value} (h : Beside v v' W W') (hz : W.heap.size ≤ W'.heap.size) (ha : Apart6 q4 q5 Q Bs Bp Bv v) (hs : Bs < W.heap.size) (hp : Bp < W.heap.size) (hv : Bv < W.heap.size) : Kp3 Bs Bp Bv W W' :=
  ⟨hz, h.block Bs hs (fun j hj e => ha.2.2.2.1 j hj e.symm), h.block Bp hp (fun j hj e => ha.2.2.2.2.1 j hj e.symm), h.block Bv hv (fun j hj e => ha.2.2.2.2.2 j hj e.symm)⟩
theorem kp3_below {W W' : World} (h : Below W.heap.size W W') (hs : Bs < W.heap.size) (hp : Bp < W.heap.size) (hv : Bv < W.heap.size) : Kp3 Bs Bp Bv W W' :=
  ⟨h.size, h.block Bs hs, h.block Bp hp, h.block Bv hv⟩
theorem wkX_put {pre : List Byt} {e : Int} {W : World} (h1 : pfold l pre = .error e) (b2 : Bx 29 W q4 #[.slice none 0 0]) (b3 : Bx 24 W q5 #[.int .i64 0]) (hb : Below w.heap.size w W) (h4 : w.heap.size ≤ q4) (h5 : w.heap.size ≤ q5) (h45 : q4 ≠ q5) :
    WkX w l q4 q5 .ret pre ((W.setCell ⟨q4, 0, none⟩ (.slice none 0 0)).setCell ⟨q5, 0, none⟩ (.int .i64 e)) :=
  ⟨rfl, e, h1, (b2.set 0 _).other h45 _, (b3.other (fun h => h45 h.symm) _).set 0 _, (hb.setCell h4 _).setCell h5 _⟩
theorem below_keeps {A B : World} (h : Below A.heap.size A B) : KeepsOthers A B := ⟨h.size, fun k o hk _ => (h.block k (Array.getElem?_eq_some_iff.1 hk).1).trans hk⟩
theorem pfold_snoc {pre out : List Byt} {x : Byt} (h : pfold l pre = .ok out) : pfold l (pre ++ [x]) = pstep out x := by rw [pfold_ok h, pfold_one]
end

set_option maxRecDepth 100000 in
set_option maxHeartbeats 4000000 in
theorem walk_any (A : Option Addr) (n c : Nat) (l : List Byt) (p : Byt) (w : World) (hb : Ls stS w A l) (hn : l.length = n) (hm : n ≤ 12) :
    Calls Tryz.prog 83 #[.slice A n c, .string (tx p)] w (RetN w (pfrom l p)) := by
  have hsz := tx_size p
  obtain ⟨m, hm'⟩ : ∃ m, m = p.length := ⟨_, rfl⟩
  rw [← hm'] at hsz
  refine (callsIn_wide (n := 12)).1 ?_
  refine callsIn_of_wp_marks Tryz.func83 rfl trivial ?_ rfl
  simp only [Tryz.ntmps83, List.size_toArray, List.length_cons, List.length_nil, Nat.reduceAdd, Nat.reduceSub, Array.replicate_succ, Array.replicate_zero, List.push_toArray, List.append_toArray, List.nil_append, List.cons_append]
  refine wpIn_wide.2 ?_
  by_cases h : 200 < m
  · have hi : (200 : Int) < (m : Int) := by omega
    rw [pfrom_long (by rw [← hm']; exact h)]
    clear hb hn hm'
    go_wp2_with fail
    obtain ⟨w2, hw2⟩ : ∃ w2, w2 = (w.alloc (.cells #[.slice none 0 0] 29)).alloc (.cells #[.int .i64 1] 24) := ⟨_, rfl⟩
    have g0 : Bx 29 w2 w.heap.size #[.slice none 0 0] := by rw [hw2]; exact (bx_new w _ _).below (ba1 _ _)
    have g1 : Bx 24 w2 (w.heap.size + 1) #[.int .i64 1] := by rw [hw2]; have := bx_new (w.alloc (.cells #[.slice none 0 0] 29)) 24 #[.int .i64 1]; simpa using this
    have hb2 : Below w.heap.size w w2 := by rw [hw2]; exact ba2 _ _ _
    rw [← hw2]
    clear hw2
    have z0 := g0.cell 0 _ rfl
    have z1 := g1.cell 0 _ rfl
    refine leavesR (v := .tuple #[.slice none 0 0, .int .i64 1]) (by simp [results, Tryz.results83, go_sem, z0, z1]) (RetN.err rfl hb2)
  · have hi : ¬ (200 : Int) < (m : Int) := by omega
    rw [pfrom_short (by rw [← hm']; exact h)]
    have HA := Lib.hid hb
    have HN := Lib.hid hn
    have HM := Lib.hid hm'
    clear hb hn hm'
    go_upto_region 3 with fail
    obtain ⟨q4, hq4⟩ : ∃ q, q = w.heap.size := ⟨_, rfl⟩
    obtain ⟨q5, hq5⟩ : ∃ q, q = w.heap.size + 1 := ⟨_, rfl⟩
    obtain ⟨w1, hw1⟩ : ∃ w1, w1 = (w.alloc (.cells #[.slice none 0 0] 29)).alloc (.cells #[.int .i64 0] 24) := ⟨_, rfl⟩
    have R4 : Hid (Bx 29 w1 q4 #[.slice none 0 0]) := Lib.hid (by rw [hw1, hq4]; exact (bx_new w _ _).below (ba1 _ _))
    have R5 : Hid (Bx 24 w1 q5 #[.int .i64 0]) := Lib.hid (by rw [hw1, hq5]; have := bx_new (w.alloc (.cells #[.slice none 0 0] 29)) 24 #[.int .i64 0]; simpa using this)
    have HB1 : Hid (Below w.heap.size w w1) := Lib.hid (by rw [hw1]; exact ba2 _ _ _)
    have HQ : Hid (w.heap.size = q4 ∧ q5 = q4 + 1 ∧ w1.heap.size = q4 + 2) := Lib.hid ⟨hq4.symm, by rw [hq4, hq5], by rw [hw1, hq4]; simp⟩
    rw [← hw1, ← hq5, ← hq4]
    clear hw1 hq4 hq5
    have HC := Lib.hid (cloneT_any A n c l w1 (HA.out.below HB1.out) HN.out (by omega))
    go_wp2_with (first
      | (go_at_call 96; refine HC.out.mono ?_; rintro e w2 ⟨A2, c2, rfl, ho2, hb2⟩; have HO2 := Lib.hid ho2; have HB2 := Lib.hid hb2; clear ho2 hb2)
      | (go_at_call 97; refine (ss_in p _).mono ?_; rintro e w3 ⟨Bs, Bp, Bv, hsp, hsv, ⟨hzs, hzp, hzv⟩, rfl, x1, x2, x3, hb3⟩; have X1 := Lib.hid x1; have X2 := Lib.hid x2; have X3 := Lib.hid x3; have HB3 := Lib.hid hb3; clear x1 x2 x3 hb3))
    obtain ⟨Q, hQ⟩ : ∃ Q, Q = w2.heap.size := ⟨_, rfl⟩
    obtain ⟨w2', hw2⟩ : ∃ w2', w2' = w2.alloc (.cells #[.slice A2 n c2] 29) := ⟨_, rfl⟩
    have hz2 : w2'.heap.size = Q + 1 := by rw [hw2, hQ]; simp
    have g2 : Bx 29 w2' Q #[.slice A2 n c2] := by rw [hw2, hQ]; exact bx_new _ _ _
    have hb22 : Below w2.heap.size w2 w2' := by rw [hw2]; exact ba1 _ _
    have ho2 : OwnL stS 9 w2' w.heap.size A2 n c2 l := (HO2.out.below hb22).base HB1.out.size
    have hlt2 : ∀ k, (Value.slice A2 n c2).ownBlock = some k → q4 + 2 ≤ k ∧ k < Q := fun k hk => by
      have := HO2.out.lt k hk
      have := HQ.out
      omega
    rw [← hw2] at HB3 hzs hzp hzv
    rw [← hQ]
    clear hw2
    obtain ⟨e4, e5, e1⟩ := HQ.out
    have hQ4 : q4 + 2 ≤ Q := by have := HB2.out.size; omega
    have i0 : WkI w l q4 q5 Q Bs Bp Bv [] w3 := by
      refine ⟨l, A2, n, c2, rfl, HN.out.symm, hm, ho2.below HB3.out, ⟨fun k hk e => ?_, fun k hk e => ?_, fun k hk e => ?_, fun k hk e => ?_, fun k hk e => ?_, fun k hk e => ?_⟩, g2.below HB3.out, ((R4.out.below HB2.out).below hb22).below HB3.out, ((R5.out.below HB2.out).below hb22).below HB3.out, ?_⟩
      · have := hlt2 k hk; omega
      · have := hlt2 k hk; omega
      · have := hlt2 k hk; omega
      · have := hlt2 k hk; omega
      · have := hlt2 k hk; omega
      · have := hlt2 k hk; omega
      · exact ⟨bthen (bthen (bthen HB1.out HB2.out) hb22) HB3.out, X1.out.lt, X2.out.lt, X3.out.lt⟩
    have I0 := Lib.hid i0
    have ns := X1.out.lt
    have np := X2.out.lt
    have nv := X3.out.lt
    have f1 : q4 < Q := by omega
    have f2 : q5 < Q := by omega
    have f3 : Q < Bs := by omega
    have f4 : Q < Bp := by omega
    have f5 : Q < Bv := by omega
    have f6 : w.heap.size ≤ q4 := by omega
    have f7 : w.heap.size ≤ q5 := by omega
    have f8 : q4 < q5 := by omega
    clear HB3 hlt2 ho2 hb22 g2 HB2 HO2 i0 HC hQ e4 e5 e1 hz2 hzs hzp hzv hQ4
    refine (wpIn_wide (n := 12)).1 ?_
    refine rangeStore (F := Fence.wide) (n := 12) rfl (by omega) (gf := 122) (lb := #[.pointer (some ⟨Bp, 0, none⟩), .pointer (some ⟨Bs, 0, none⟩), .pointer (some ⟨Bv, 0, none⟩)]) rfl trivial (enters_of Tryz.func122 (by kernel_rfl) rfl)
      (ss_stops 11 (by omega) Bs Bp Bv hsp hsv p (by rw [← HM.out]; omega) w3 X1.out X2.out X3.out) ns
      (fun h k => h.trans k)
      (fun W l' o o' hl h ho hw => ⟨by simp, (grownBy_putObj' W l' o').block Bs (by have := (Array.getElem?_eq_some_iff.1 h).1; omega) (fun e => by cases e; omega), (grownBy_putObj' W l' o').block Bp (by have := (Array.getElem?_eq_some_iff.1 h).1; omega) (fun e => by cases e; omega), (grownBy_putObj' W l' o').block Bv (by have := (Array.getElem?_eq_some_iff.1 h).1; omega) (fun e => by cases e; omega)⟩)
      (Below.refl _ _) (fun _ => rfl)
      (WkI w l q4 q5 Q Bs Bp Bv) (WkX w l q4 q5) (wkI_stores (by omega) (by omega) (by omega) (by omega)) (wkI_own _ (by omega)) (wkX_own _ (by omega)) I0.out
      (fun x => { tmps := #[.slice A n c, .string (tx p), undef, undef, .pointer (some ⟨q4, 0, none⟩), .pointer (some ⟨q5, 0, none⟩), .pointer (some ⟨Q, 0, none⟩), .string (tx x), .string (tx p), .int .i64 (m : Int), .bool false, .slice A n c, .slice A2 n c2, .string (tx p), .func (.func 122) #[] #[.pointer (some ⟨Bp, 0, none⟩), .pointer (some ⟨Bs, 0, none⟩), .pointer (some ⟨Bv, 0, none⟩)], .string (tx x), undef, undef, undef, undef, undef, undef, undef, undef, undef, undef, undef, undef, undef, undef, undef, undef, undef, undef, undef, undef, undef, undef, undef, undef, undef, undef, undef, undef, undef], defers := [] })
      ?assign ?body ?done ?stop
    case assign =>
      intro lp x W K hK
      dsimp only [encT]
      gi_wp2
      exact hK
    case body =>
      rintro lp pre x W ⟨out, A3, q, c3, h1, h2, h3, ho, ha, b1, b2, b3, hb, s1, s2, s3⟩ hlen
      have HS : Hid (pfold l (pre ++ [x]) = pstep out x) := Lib.hid (pfold_snoc h1)
      have H1 := Lib.hid h1; have H2 := Lib.hid h2; have HO := Lib.hid ho; have HAP := Lib.hid ha; have HBQ := Lib.hid b1; have HB4 := Lib.hid b2; have HB5 := Lib.hid b3; have HBW := Lib.hid hb
      have cQ := b1.cell 0 _ rfl
      have fQ := b1.soft 0
      have fq4 := b2.soft 0
      have fq5 := b3.soft 0
      have c4 := b2.cell 0 _ rfl
      have c5 := b3.cell 0 _ rfl
      have hT := tx_toList x
      clear h1 h2 ho ha b1 b2 b3 hb
      have KF0 : Hid (KeepsFrom w3.heap.size W W) := Lib.hid ((KeepsOthers.refl W).from _)
      have hsame : pstep out x = .ok out → ownPostG w3.heap.size (Kp3 Bs Bp Bv) (WkI w l q4 q5 Q Bs Bp Bv) (WkX w l q4 q5) (pre ++ [x]) W .normal { tmps := #[], defers := [] } W := fun hs =>
        ⟨KF0.out, Kp3.refl _ _ _ _, out, A3, q, c3, by rw [HS.out, hs], H2.out, h3, HO.out, HAP.out, HBQ.out, HB4.out, HB5.out, HBW.out, s1, s2, s3⟩
      have HSAME := Lib.hid hsame
      clear hsame
      by_cases hup : x = [46, 46]
      · subst hup
        have hmx : max (0 : Int) ((q : Int) - 1) = ((q - 1 : Nat) : Int) := by omega
        have hcap := HO.out.cap
        have hcp : ((q - 1 : Nat) : Int) ≤ (c3 : Int) := by omega
        have HR : Hid (WkI w l q4 q5 Q Bs Bp Bv (pre ++ [[46, 46]]) (W.setCell ⟨Q, 0, none⟩ (.slice A3 (q - 1) c3))) := Lib.hid (wkI_put (out := out.dropLast) (by rw [HS.out, pstep_up]) (by rw [List.length_dropLast, ← H2.out]) (by omega)
          (by have := HO.out.cut (q - 1) (by omega); rw [List.dropLast_eq_take, ← H2.out]; exact this) (HAP.out.same (by rcases A3 with _ | a <;> rfl)) HBQ.out HB4.out HB5.out HBW.out (by omega) (by omega) (by omega) s1 s2 s3)
        gi_wp2_with fail
        exact ⟨(KeepsOthers.setCell _ _ _).from _, kp3_set (by omega) (by omega) (by omega) _, HR.out⟩
      · by_cases he : x = []
        · subst he
          have HR := Lib.hid (HSAME.out (pstep_empty _))
          gi_wp2_with fail
          exact HR.out
        · by_cases hd : x = [46]
          · subst hd
            have HR := Lib.hid (HSAME.out (pstep_dot _))
            gi_wp2_with fail
            exact HR.out
          · have e1 : (x == [46, 46]) = false := by simpa using hup
            have e2 : x.isEmpty = false := by simpa using he
            have e3 : (x == [46]) = false := by simpa using hd
            have HC := Lib.hid (isName_any x W)
            rcases hv : nameB x with _ | _
            · rw [hv] at HC
              have HE : Hid (pfold l (pre ++ [x]) = .error 4) := Lib.hid (by rw [HS.out, pstep_odd hup he hd hv])
              clear hv hup he hd hlen
              gi_wp2_with (refine ⟨trivial, ?_⟩; gi_at_call 98; refine (CallsIn.inRound lp (callsIn_wide.2 HC.out)).mono ?_; rintro e W1 ⟨rfl, hb1⟩; have HX1 := Lib.hid hb1; have c41 := (HB4.out.below hb1).cell 0 _ rfl; have f41 := (HB4.out.below hb1).soft 0; have c51 := (HB5.out.below hb1).cell 0 _ rfl; have f51 := (HB5.out.below hb1).soft 0; clear hb1 c4 fq4 c5 fq5 cQ fQ)
              exact ⟨(((below_keeps HX1.out).trans (KeepsOthers.setCell _ _ _)).trans (KeepsOthers.setCell _ _ _)).from _, wkX_put HE.out (HB4.out.below HX1.out) (HB5.out.below HX1.out) (bthen HBW.out HX1.out) f6 f7 (by omega)⟩
            · rw [hv] at HC
              by_cases hq9 : 12 ≤ q
              · have hq9i : (12 : Int) ≤ (q : Int) := by omega
                have HE : Hid (pfold l (pre ++ [x]) = .error 9) := Lib.hid (by rw [HS.out, pstep_full hup he hd hv (by rw [← H2.out]; exact hq9)])
                clear hv hup he hd hlen
                gi_wp2_with (refine ⟨trivial, ?_⟩; gi_at_call 98; refine (CallsIn.inRound lp (callsIn_wide.2 HC.out)).mono ?_; rintro e W1 ⟨rfl, hb1⟩; have HX1 := Lib.hid hb1; have c41 := (HB4.out.below hb1).cell 0 _ rfl; have f41 := (HB4.out.below hb1).soft 0; have c51 := (HB5.out.below hb1).cell 0 _ rfl; have f51 := (HB5.out.below hb1).soft 0; have cQ1 := (HBQ.out.below hb1).cell 0 _ rfl; clear hb1 c4 fq4 c5 fq5 cQ fQ)
                exact ⟨(((below_keeps HX1.out).trans (KeepsOthers.setCell _ _ _)).trans (KeepsOthers.setCell _ _ _)).from _, wkX_put HE.out (HB4.out.below HX1.out) (HB5.out.below HX1.out) (bthen HBW.out HX1.out) f6 f7 (by omega)⟩
              · have hq9i : ¬ (12 : Int) ≤ (q : Int) := by omega
                have HE : Hid (pfold l (pre ++ [x]) = .ok (out ++ [x])) := Lib.hid (by rw [HS.out, pstep_name hv (by rw [← H2.out]; omega)])
                clear hv hup he hd hlen
                gi_wp2_with (first
                  | (refine ⟨trivial, ?_⟩; gi_at_call 98; refine (CallsIn.inRound lp (callsIn_wide.2 HC.out)).mono ?_; rintro e W1 ⟨rfl, hb1⟩; have HX1 := Lib.hid hb1; have cQ1 := (HBQ.out.below hb1).cell 0 _ rfl; have fQ1 := (HBQ.out.below hb1).soft 0; clear hb1 c4 fq4 c5 fq5 cQ fQ)
                  | (gi_at_builtin; refine wpListIn_appL (Sh := stS) rfl _ (.tmp 16) (.tmp 18) 29 rfl _ 16 Tryz.underlying29 stInfo rfl w.heap.size A3 q c3 out rfl ((HO.out.below HX1.out).below (ba1 _ _)) (some ⟨W1.heap.size, 0, none⟩) 1 1 [x] rfl (ls_new W1 _ _ _ rfl _ rfl) rfl (q + 1) rfl (by omega) (by omega) (by have := HBW.out.size; have := HX1.out.size; simp; omega) ?_; intro A5 c6 W5 ho5 hb5 hs5; have HO5 := Lib.hid ho5; have HB5x := Lib.hid hb5; have HS5 := Lib.hid hs5; have q5b := ((HBQ.out.below HX1.out).below (ba1 _ (.cells #[.string (tx x)] 9))).beside hs5 HAP.out.2.2.1; have cQ5 := q5b.cell 0 _ rfl; have fQ5 := q5b.soft 0; have HQ5 := Lib.hid q5b; clear ho5 hb5 hs5 q5b cQ1 fQ1))
                have hx1 := HX1.out
                have hzx := hx1.size
                have ha1 := ba1 W1 (.cells #[.string (tx x)] 9)
                have hza := ha1.size
                have hz5 := HB5x.out.size
                have hb41 := ((HB4.out.below hx1).below ha1).beside HS5.out HAP.out.1
                have hb51 := ((HB5.out.below hx1).below ha1).beside HS5.out HAP.out.2.1
                have l4 := ((HB4.out.below hx1).below ha1).lt
                have l5 := ((HB5.out.below hx1).below ha1).lt
                have lQ := ((HBQ.out.below hx1).below ha1).lt
                refine ⟨((((below_keeps hx1).trans (below_keeps ha1)).trans (beside_keepsL ((HO.out.below hx1).below ha1) HS5.out hz5)).trans (KeepsOthers.setCell _ _ _)).from _,
                  (((kp3_below hx1 s1 s2 s3).trans (kp3_below ha1 (by omega) (by omega) (by omega))).trans (kp3_beside HS5.out hz5 HAP.out (by omega) (by omega) (by omega))).trans (kp3_set (by omega) (by omega) (by omega) _),
                  wkI_put HE.out (by rw [List.length_append, ← H2.out]; rfl) (by omega) HO5.out (HAP.out.grow HS5.out l4 l5 lQ (by omega) (by omega) (by omega)) HQ5.out hb41 hb51 ((bthen (bthen HBW.out hx1) ha1).trans HB5x.out) (by omega) (by omega) (by omega) (by omega) (by omega) (by omega)⟩
    case done =>
      rintro D xs W hD rfl ⟨out, A3, q, c3, h1, h2, h3, ho, ha, b1, b2, b3, hb, s1, s2, s3⟩ hKd
      rename_i Q0 hgo
      refine hgo _ _ ?_
      have hQr : ∀ a w', bodyPostM Fence.wide 12 Tryz.prog Tryz.f83 (RetN w (pfold l (parts p))) .ret a w' → bodyPostM Fence.wide 12 Tryz.prog Tryz.f83 (RetN w (pfold l (parts p))) .ret a w' := fun _ _ h => h
      obtain ⟨r, hr⟩ : ∃ r, pfold l (parts p) = r := ⟨_, rfl⟩
      rw [hr] at h1 ⊢
      have H1 := Lib.hid h1; have H2 := Lib.hid h2; have HO := Lib.hid ho; have HAP := Lib.hid ha; have HBW := Lib.hid hb
      have HKD := Lib.hid hKd
      have HB4 := Lib.hid b2; have HB5 := Lib.hid b3
      have cQ := b1.cell 0 _ rfl
      have fq4 := b2.soft 0
      have fq5 := b3.soft 0
      have c4 := b2.cell 0 _ rfl
      have c5 := b3.cell 0 _ rfl
      have l4 := b2.lt
      have l5 := b3.lt
      clear hgo h1 h2 ho ha b1 b2 b3 hb hKd hr hQr
      dsimp only
      go_wp2_with fail
      obtain ⟨W2, hW2⟩ : ∃ W2, W2 = (W.setCell ⟨q4, 0, none⟩ (.slice A3 q c3)).setCell ⟨q5, 0, none⟩ (.int .i64 0) := ⟨_, rfl⟩
      rw [← hW2]
      have k4 : Bx 29 W2 q4 #[.slice A3 q c3] := by rw [hW2]; exact (HB4.out.set 0 _).other (by omega) _
      have k5 : Bx 24 W2 q5 #[.int .i64 0] := by rw [hW2]; exact (HB5.out.other (by omega) _).set 0 _
      have hD2 : W2.heap[D]? = some (.deferred (some [])) := by
        rw [hW2, Below.heap_setCell _ _ _ _ (by simp; omega), Below.heap_setCell _ _ _ _ (by simp; omega)]
        exact HKD.out
      have hbw2 : Below w.heap.size w W2 := by rw [hW2]; exact (HBW.out.setCell f6 _).setCell f7 _
      have hbD : Below w.heap.size W2 (W2.putObj D (.deferred none)) := belowK_b (w := w) (Nat.le_refl _) W2 D _ _ (by omega) hD2 rfl rfl
      have o2 : OwnL stS 9 W2 w.heap.size A3 q c3 out := by rw [hW2]; exact (HO.out.set HAP.out.1 _ _).set HAP.out.2.1 _ _
      have o3 : OwnL stS 9 (W2.putObj D (.deferred none)) w.heap.size A3 q c3 out := o2.grownBy (grownBy_putObj' W2 D (.deferred none)) (fun r e => by cases e; exact ⟨_, hD2, rfl⟩)
      have k4' := k4.grownBy (grownBy_putObj' W2 D (.deferred none)) (fun r e => by cases e; exact ⟨_, hD2, rfl⟩)
      have k5' := k5.grownBy (grownBy_putObj' W2 D (.deferred none)) (fun r e => by cases e; exact ⟨_, hD2, rfl⟩)
      have z0 := k4'.cell 0 _ rfl
      have z1 := k5'.cell 0 _ rfl
      refine leavesD (v := .tuple #[.slice A3 q c3, .int .i64 0]) hD2 (by simp [results, Tryz.results83, go_sem, z0, z1]) (RetN.ok H1.out (hbw2.trans hbD) H2.out o3)
    case stop =>
      rintro D cd pre W hD ⟨k, rfl⟩ ⟨rfl, er, h1, b2, b3, hb⟩ hKd
      have he : pfold l (parts p) = .error er := by
        have := pfold_err (qs := (parts p).drop k) h1
        rw [List.take_append_drop] at this
        exact this
      have l4 := b2.lt
      have l5 := b3.lt
      have HE := Lib.hid he; have HB4 := Lib.hid b2; have HB5 := Lib.hid b3; have HBW := Lib.hid hb; have HKD := Lib.hid hKd
      clear h1 he b2 b3 hb hKd
      gi_wp2
      have hbD : Below w.heap.size W (W.putObj D (.deferred none)) := belowK_b (w := w) (Nat.le_refl _) W D _ _ (by omega) HKD.out rfl rfl
      have k4' := HB4.out.grownBy (grownBy_putObj' W D (.deferred none)) (fun r e => by cases e; exact ⟨_, HKD.out, rfl⟩)
      have k5' := HB5.out.grownBy (grownBy_putObj' W D (.deferred none)) (fun r e => by cases e; exact ⟨_, HKD.out, rfl⟩)
      have z0 := k4'.cell 0 _ rfl
      have z1 := k5'.cell 0 _ rfl
      refine leavesD (v := .tuple #[.slice none 0 0, .int .i64 er]) HKD.out (by simp [results, Tryz.results83, go_sem, z0, z1]) (RetN.err HE.out (HBW.out.trans hbD))

end Go.Proofs.YthjpighlcalocaaGreatDoor
