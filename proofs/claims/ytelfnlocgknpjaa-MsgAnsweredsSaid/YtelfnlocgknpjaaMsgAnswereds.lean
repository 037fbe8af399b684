/-
  MsgAnswereds; bytes that come in, whose row is known.
-/
import Derived.Test.YtelfnlocgknpjaaMRefAnd
import Derived.Test.YtelfnlocgknpjaaMSameRLx
import Derived.Test.YtelfnlocgknpjaaRowArg
namespace Go.Proofs.Ytelfnlocgknpjaa
open Go.RowKit Go.WideShapes
set_option linter.unusedVariables false
set_option linter.unusedSimpArgs false

set_option maxRecDepth 100000 in
theorem open_byl {H : Type} {enc : TypeId × Value → H} {W : World} {base : Nat} {v : Value} {d : DataW H} {ps : List MemPlace}
    (hval : Value.okWide Try.prog W .any base 22 v) (h : DataW.Trod enc Try.prog W 0 (fun _ => true) true 22 v d ps) (hs : ∀ z ∈ d.weights Try.prog 22, z ≤ reachBytes) :
    ∃ A n c l, v = .slice A n c ∧ Ls byS W A l ∧ l.length = n ∧ n ≤ c ∧ c ≤ 140737488351232 ∧ (∀ z ∈ l, 0 ≤ z ∧ z ≤ 255) ∧ ∀ q, A = some q → q.block < W.heap.size := by
  obtain ⟨A, n, c, l, rfl, h2, h3, h4, h5, h6⟩ := open_bya hval h hs
  refine ⟨A, n, c, l, rfl, h2, h3, h4, h5, h6, fun q hq => ?_⟩
  subst hq
  simp only [Value.okWide, Try.underlying22, Cell.okWide, Cell.ok] at hval
  obtain ⟨-, -, -, -, row, cells, hsh, -⟩ := hval
  unfold World.shape? at hsh
  rcases hb : W.heap[q.block]? with _ | o
  · rw [hb] at hsh; cases hsh
  · exact (Array.getElem?_eq_some_iff.1 hb).1
theorem answered_small (zs : List Int) : (answeredT zs).2.zs.length ≤ 100 ∧ (answeredT zs).2.ns.length ≤ 40 := by
  unfold answeredT
  split
  · exact ⟨Nat.zero_le _, Nat.zero_le _⟩
  · split
    · exact ⟨Nat.zero_le _, Nat.zero_le _⟩
    · rename_i h
      obtain ⟨hh, h40, -⟩ := fault_zeroR (Classical.byContradiction fun g => h (.inr g))
      exact ⟨(head_zero hh).2.2.2.2.2, h40⟩
set_option maxRecDepth 100000 in
set_option maxHeartbeats 8000000 in
theorem walkMsgAnswereds (A : Option Addr) (n c : Nat) (zs : List Int) (w : World) (hs : Ls byS w A zs) (hn : zs.length = n) (hc : n ≤ c) (hr : c ≤ 140737488351232) (ho : (∀ z ∈ zs, 0 ≤ z ∧ z ≤ 255) ∧ ∀ q, A = some q → q.block < w.heap.size) :
    Calls Try.prog 6 #[.slice A n c] w fun e w' => e = .returned (.bool true) ∧ Below w.heap.size w w' := by
  obtain ⟨ho, hA⟩ := ho
  have HSM := Lib.hid (answered_small zs)
  obtain ⟨k, hk⟩ : ∃ k, k = (answeredT zs).1 := ⟨_, rfl⟩
  obtain ⟨r, hr'⟩ : ∃ r, r = (answeredT zs).2 := ⟨_, rfl⟩
  have HAN : Hid (∀ ww, Below w.heap.size w ww → Calls Try.prog 18 #[.slice A n c] ww fun e w' => Below ww.heap.size ww w' ∧ ∃ x : Rpv, e = .returned (.tuple #[.agg #[.int .i64 x.mrk, .int .i64 x.code, .int .i64 x.han, .int .i64 x.kd, .int .i64 x.sz, .slice x.D x.m x.d, .slice x.N x.n x.c], .int .i64 k]) ∧ x.In w' ∧ x.rp = r) := Lib.hid (fun ww h => (answered_any A n c zs ww (hs.below h) hn hc (by omega) ho (fun q hq => Nat.lt_of_lt_of_le (hA q hq) h.size)).mono fun e w' h => by
    obtain ⟨h1, x, h2, h3, h4⟩ := h
    exact ⟨h1, x, by rw [hk]; exact h2, h3, by rw [hr']; exact h4⟩)
  have HRF : Hid (∀ ww, Below w.heap.size w ww → Calls Try.prog 19 #[.slice A n c] ww fun e w' => Below ww.heap.size ww w' ∧ ∃ x : Rpv, e = .returned (.tuple #[.agg #[.int .i64 x.mrk, .int .i64 x.code, .int .i64 x.han, .int .i64 x.kd, .int .i64 x.sz, .slice x.D x.m x.d, .slice x.N x.n x.c], .int .i64 k]) ∧ x.In w' ∧ x.rp = r) := Lib.hid (fun ww h => (refAnd_any A n c zs ww (hs.below h) hn hc (by omega) ho (fun q hq => Nat.lt_of_lt_of_le (hA q hq) h.size)).mono fun e w' h => by
    obtain ⟨h1, x, h2, h3, h4⟩ := h
    exact ⟨h1, x, by rw [hk]; exact h2, h3, by rw [hr']; exact h4⟩)
  rw [← hr'] at HSM
  clear hs hn hc hr ho hA hk hr'
  go_enter Try.func6, Try.ntmps6
  go_upto_region 2 with (go_at_call 18; (with_reducible refine (HAN.out w (Below.refl _ _)).mono ?_); rintro e w1 ⟨hb1, x, rfl, hx1, hx2⟩; have HB1 := Lib.hid hb1; have HX1 := Lib.hid hx1; have HX2 := Lib.hid hx2; clear hb1 hx1 hx2)
  obtain ⟨w2, hw2⟩ : ∃ w2, w2 = w1.alloc (.cells #[.int .i64 x.mrk, .int .i64 x.code, .int .i64 x.han, .int .i64 x.kd, .int .i64 x.sz, .slice x.D x.m x.d, .slice x.N x.n x.c] 36) := ⟨_, rfl⟩
  obtain ⟨X, hX⟩ : ∃ X, X = w1.heap.size := ⟨_, rfl⟩
  have HB12 : Hid (Below w1.heap.size w1 w2) := Lib.hid (by rw [hw2]; exact ba1 _ _)
  have HBX : Hid (Bx 36 w2 X #[.int .i64 x.mrk, .int .i64 x.code, .int .i64 x.han, .int .i64 x.kd, .int .i64 x.sz, .slice x.D x.m x.d, .slice x.N x.n x.c]) := Lib.hid (by rw [hw2, hX]; exact bx_new _ _ _)
  have HB2 : Hid (Below w.heap.size w w2) := Lib.hid (bthen HB1.out HB12.out)
  rw [← hw2, ← hX]
  clear hw2 hX
  go_upto_region 3 with (go_at_call 19; (with_reducible refine (HRF.out w2 HB2.out).mono ?_); rintro e w3 ⟨hb3, y, rfl, hy1, hy2⟩; have HB3 := Lib.hid hb3; have HY1 := Lib.hid hy1; have HY2 := Lib.hid hy2; clear hb3 hy1 hy2)
  obtain ⟨w4, hw4⟩ : ∃ w4, w4 = w3.alloc (.cells #[.int .i64 y.mrk, .int .i64 y.code, .int .i64 y.han, .int .i64 y.kd, .int .i64 y.sz, .slice y.D y.m y.d, .slice y.N y.n y.c] 36) := ⟨_, rfl⟩
  obtain ⟨Y, hY⟩ : ∃ Y, Y = w3.heap.size := ⟨_, rfl⟩
  have HB34 : Hid (Below w3.heap.size w3 w4) := Lib.hid (by rw [hw4]; exact ba1 _ _)
  have HBY : Hid (Bx 36 w4 Y #[.int .i64 y.mrk, .int .i64 y.code, .int .i64 y.han, .int .i64 y.kd, .int .i64 y.sz, .slice y.D y.m y.d, .slice y.N y.n y.c]) := Lib.hid (by rw [hw4, hY]; exact bx_new _ _ _)
  rw [← hw4, ← hY]
  clear hw4 hY
  have HBX4 := Lib.hid ((HBX.out.below HB3.out).below HB34.out)
  have HXI : Hid (x.In w4) := Lib.hid (((HX1.out.below HB12.out).below HB3.out).below HB34.out)
  have HYI : Hid (y.In w4) := Lib.hid (HY1.out.below HB34.out)
  have HBW4 : Hid (Below w.heap.size w w4) := Lib.hid (bthen HB2.out (bthen HB3.out HB34.out))
  obtain ⟨lX, a0, a1, a2, a3, a4, a5, a6, -⟩ := HBX4.out.cells7
  obtain ⟨lY, b0, b1, b2, b3, b4, b5, b6, -⟩ := HBY.out.cells7
  have HSR : Hid (Calls Try.prog 20 #[.agg #[.int .i64 x.mrk, .int .i64 x.code, .int .i64 x.han, .int .i64 x.kd, .int .i64 x.sz, .slice x.D x.m x.d, .slice x.N x.n x.c], .agg #[.int .i64 y.mrk, .int .i64 y.code, .int .i64 y.han, .int .i64 y.kd, .int .i64 y.sz, .slice y.D y.m y.d, .slice y.N y.n y.c]] w4 fun e w' => e = .returned (.bool true) ∧ Below w4.heap.size w4 w') := Lib.hid (by
    have hr := HX2.out.trans HY2.out.symm
    have hs := HSM.out
    rw [← HX2.out] at hs
    have hx := HXI.out
    have hy := HYI.out
    obtain ⟨xm, xc, xh, xk, xs, xD, xn, xd, xz, xN, xl, xcc, xns⟩ := x
    obtain ⟨ym, yc, yh, yk, ys, yD, yn, yd, yz, yN, yl, ycc, yns⟩ := y
    unfold Rpv.rp at hr hs
    injection hr with e1 e2 e3 e4 e5 e6 e7
    simp only at e1 e2 e3 e4 e5 e6 e7 hs
    subst e1; subst e2; subst e3; subst e4; subst e5; subst e6; subst e7
    obtain ⟨⟨p1, p2⟩, p3, p4⟩ := hx
    obtain ⟨⟨q1, q2⟩, q3, q4⟩ := hy
    simp only at p1 p2 p3 p4 q1 q2 q3 q4
    subst p2; subst p4; subst q2; subst q4
    exact rep_at_packthreadlaw _ _ _ _ _ _ _ _ _ _ _ _ _ _ _ _ _ w4 p1 q1 rfl (Nat.le_trans hs.1 (by decide)) p3 q3 rfl (Nat.le_trans hs.2 (by decide)))
  go_wp2_with (go_at_call 20; (with_reducible refine HSR.out.mono ?_); rintro e w5 ⟨rfl, hb5⟩; have HB5 := Lib.hid hb5; clear hb5)
  go_ret
  exact ⟨by simp, bthen HBW4.out HB5.out⟩

end Go.Proofs.Ytelfnlocgknpjaa
