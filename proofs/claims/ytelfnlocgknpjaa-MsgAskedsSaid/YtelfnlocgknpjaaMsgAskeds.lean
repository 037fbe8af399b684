/-
  MsgAskeds; bytes that come in, whose row is known; two requests that are the same.
-/
import Derived.Test.YtelfnlocgknpjaaMAskedRef
import Derived.Test.YtelfnlocgknpjaaSameLaw
import Derived.Test.YtelfnlocgknpjaaRowArg
namespace Go.Proofs.Ytelfnlocgknpjaa
open Go.RowKit Go.WideShapes
set_option linter.unusedVariables false
set_option linter.unusedSimpArgs false

set_option maxRecDepth 100000 in
set_option maxHeartbeats 8000000 in
theorem reqL_at (kd mk how han a c : Int) (p q : Byt) (D E : Option Addr) (n d d' : Nat) (zs : List Int) (w : World) (hD : Ls byS w D zs) (hE : Ls byS w E zs) (hn : zs.length = n) (h47 : n ≤ 140737488355328) :
    Calls Try.prog 15 #[.agg #[.int .i64 kd, .int .i64 mk, .string (tx p), .string (tx q), .int .i64 how, .int .i64 han, .int .i64 a, .int .i64 c, .slice D n d], .agg #[.int .i64 kd, .int .i64 mk, .string (tx p), .string (tx q), .int .i64 how, .int .i64 han, .int .i64 a, .int .i64 c, .slice E n d']] w fun e w' => e = .returned (.bool true) ∧ Below w.heap.size w w' := by
  obtain ⟨wx, hwx⟩ : ∃ wx, wx = (w.alloc (.cells #[.int .i64 kd, .int .i64 mk, .string (tx p), .string (tx q), .int .i64 how, .int .i64 han, .int .i64 a, .int .i64 c, .slice D n d] 24)).alloc (.cells #[.int .i64 kd, .int .i64 mk, .string (tx p), .string (tx q), .int .i64 how, .int .i64 han, .int .i64 a, .int .i64 c, .slice E n d'] 24) := ⟨_, rfl⟩
  obtain ⟨P, hP⟩ : ∃ P, P = w.heap.size := ⟨_, rfl⟩
  obtain ⟨Q, hQ⟩ : ∃ Q, Q = w.heap.size + 1 := ⟨_, rfl⟩
  have HBX : Hid (Below w.heap.size w wx) := Lib.hid (by rw [hwx]; exact ba2 _ _ _)
  have hp : Bx 24 wx P #[.int .i64 kd, .int .i64 mk, .string (tx p), .string (tx q), .int .i64 how, .int .i64 han, .int .i64 a, .int .i64 c, .slice D n d] := by rw [hwx, hP]; exact (bx_new w _ _).below (ba1 _ _)
  have hq : Bx 24 wx Q #[.int .i64 kd, .int .i64 mk, .string (tx p), .string (tx q), .int .i64 how, .int .i64 han, .int .i64 a, .int .i64 c, .slice E n d'] := by
    have := bx_new (w.alloc (.cells #[.int .i64 kd, .int .i64 mk, .string (tx p), .string (tx q), .int .i64 how, .int .i64 han, .int .i64 a, .int .i64 c, .slice D n d] 24)) 24 #[.int .i64 kd, .int .i64 mk, .string (tx p), .string (tx q), .int .i64 how, .int .i64 han, .int .i64 a, .int .i64 c, .slice E n d']
    rw [World.size_alloc] at this
    rw [hwx, hQ]; exact this
  obtain ⟨lp, p0, p1, p2, p3, p4, p5, p6, p7, p8, -⟩ := hp.cells9
  obtain ⟨lq, q0, q1, q2, q3, q4, q5, q6, q7, q8, -⟩ := hq.cells9
  have HSM : Hid (Calls Try.prog 12 #[.slice D n d, .slice E n d'] wx fun e w' => e = .returned (.bool true) ∧ Below wx.heap.size wx w') := Lib.hid (same_law D n d E d' zs wx (hD.below HBX.out) (hE.below HBX.out) hn h47)
  have HPV := Lib.hid hP
  have HQV := Lib.hid hQ
  clear hD hE hn hp hq
  go_enter Try.func15, Try.ntmps15
  go_upto_region 1 with fail
  rw [← hwx, ← hQ, ← hP]
  clear hwx hP hQ
  go_wp2_with (go_at_call 12; (with_reducible refine HSM.out.mono ?_); rintro e w3 ⟨rfl, hb3⟩; have HB3 := Lib.hid hb3; clear hb3)
  go_ret
  exact ⟨rfl, bthen HBX.out HB3.out⟩

set_option maxRecDepth 100000 in
theorem open_byl {H : Type} {enc : TypeId × Value → H} {W : World} {base : Nat} {v : Value} {d : DataW H} {ps : List MemPlace}
    (hval : Value.okWide Try.prog W .any base 22 v) (h : DataW.Trod enc Try.prog W 0 (fun _ => true) true 22 v d ps) (hs : ∀ z ∈ d.weights Try.prog 22, z ≤ reachBytes) :
    ∃ A n c l, v = .slice A n c ∧ Ls byS W A l ∧ l.length = n ∧ n ≤ c ∧ c ≤ 140737488351232 ∧ (∀ z ∈ l, 0 ≤ z ∧ z ≤ 255) ∧ ∀ q, A = some q → q.block < W.heap.size := by
  obtain ⟨A, n, c, l, rfl, h2, h3, h4, h5, h6⟩ := open_bya hval h hs
  refine ⟨A, n, c, l, rfl, h2, h3, h4, h5, h6, fun q hq => ?_⟩
  subst hq
  simp only [Value.okWide, Try.underlying22, Cell.okWide, Cell.ok] at hval
  obtain ⟨-, -, -, -, row, cells, hsh, -⟩ := hval
  unfold World.shape? at hsh
  rcases hb : W.heap[q.block]? with _ | o
  · rw [hb] at hsh; cases hsh
  · exact (Array.getElem?_eq_some_iff.1 hb).1
theorem zs_small {x : Rqv} {kd : Int} (h : faultC x.G kd = 0) : x.zs.length ≤ 100 := by
  unfold faultC at h
  split at h
  · rename_i hk
    split at h
    · cases h
    · rename_i hmore
      have hall := chk0 h (fun z hz => by obtain ⟨p, -, rfl⟩ := List.mem_map.1 hz; exact ckC_val _ _)
      obtain ⟨kd', mrk, p, q, how, han, a, c, D, m, d, zs⟩ := x
      simp only at hall hmore ⊢
      have h10 : kd = 1 ∨ kd = 2 ∨ kd = 3 ∨ kd = 4 ∨ kd = 5 ∨ kd = 6 ∨ kd = 7 ∨ kd = 8 ∨ kd = 9 ∨ kd = 10 := by omega
      rcases h10 with rfl | rfl | rfl | rfl | rfl | rfl | rfl | rfl | rfl | rfl
      all_goals
        simp [moreC, named, partsOf, namedBy, at_, Rqv.G, PC.nz, Pt.adr, ckC] at hall hmore
        first
          | omega
          | simp [hmore]
  · cases h
theorem asked_small {zs : List Int} {x : Rqv} (h : ∀ o, o < 9 → (askedT zs).2 o = x.G o) : x.zs.length ≤ 100 := by
  have h0 : ∀ g : Nat → PC, g = g0 0 → (∀ o, o < 9 → g o = x.G o) → x.zs.length ≤ 100 := fun g e hg => by
    have := hg 8 (by omega)
    rw [e] at this
    have e8 : PC.d [] = PC.d x.zs := this
    injection e8 with e8
    rw [← e8]; exact Nat.zero_le _
  unfold askedT at h
  split at h
  · exact h0 _ rfl h
  · split at h
    · split at h
      · exact h0 _ rfl h
      · split at h
        · exact h0 _ rfl h
        · rename_i hn
          refine zs_small (kd := zs.headD 0) ?_
          rw [← faultC_cong9 h]
          exact Classical.byContradiction fun g => hn (.inr g)
    · exact h0 _ rfl h
set_option maxRecDepth 100000 in
set_option maxHeartbeats 8000000 in
theorem walkMsgAskeds (A : Option Addr) (n c : Nat) (zs : List Int) (w : World) (hs : Ls byS w A zs) (hn : zs.length = n) (hc : n ≤ c) (hr : c ≤ 140737488351232) (ho : (∀ z ∈ zs, 0 ≤ z ∧ z ≤ 255) ∧ ∀ q, A = some q → q.block < w.heap.size) :
    Calls Try.prog 4 #[.slice A n c] w fun e w' => e = .returned (.bool true) ∧ Below w.heap.size w w' := by
  obtain ⟨ho, hA⟩ := ho
  obtain ⟨k, hk⟩ : ∃ k, (askedT zs).1 = k := ⟨_, rfl⟩
  obtain ⟨r, hr'⟩ : ∃ r, r = (askedT zs).2 := ⟨_, rfl⟩
  have HSM : Hid (∀ x : Rqv, (∀ o, o < 9 → r o = x.G o) → x.zs.length ≤ 100) := Lib.hid (fun x h => asked_small (zs := zs) (by rw [← hr']; exact h))
  have HAN : Hid (∀ ww, Below w.heap.size w ww → Calls Try.prog 13 #[.slice A n c] ww fun e w' => Below ww.heap.size ww w' ∧ ∃ x : Rqv, e = .returned (.tuple #[.agg #[.int .i64 x.kd, .int .i64 x.mrk, .string (tx x.p), .string (tx x.q), .int .i64 x.how, .int .i64 x.han, .int .i64 x.a, .int .i64 x.c, .slice x.D x.m x.d], .int .i64 k]) ∧ x.In w' ∧ ∀ o, o < 9 → r o = x.G o) := Lib.hid (fun ww h => by
    rw [hr']
    exact asked_x A n c zs k ww (hs.below h) hn hc (by omega) ho hk)
  have HRF : Hid (∀ ww, Below w.heap.size w ww → Calls Try.prog 14 #[.slice A n c] ww fun e w' => Below ww.heap.size ww w' ∧ ∃ x : Rqv, e = .returned (.tuple #[.agg #[.int .i64 x.kd, .int .i64 x.mrk, .string (tx x.p), .string (tx x.q), .int .i64 x.how, .int .i64 x.han, .int .i64 x.a, .int .i64 x.c, .slice x.D x.m x.d], .int .i64 k]) ∧ x.In w' ∧ ∀ o, o < 9 → r o = x.G o) := Lib.hid (fun ww h => by
    rw [hr', ← hk]
    exact refAkd_any A n c zs ww (hs.below h) hn hc (by omega) ho (fun q hq => Nat.lt_of_lt_of_le (hA q hq) h.size))
  clear hs hn hc hr ho hA hk hr'
  go_enter Try.func4, Try.ntmps4
  go_upto_region 2 with (go_at_call 13; (with_reducible refine (HAN.out w (Below.refl _ _)).mono ?_); rintro e w1 ⟨hb1, x, rfl, hx1, hx2⟩; have HB1 := Lib.hid hb1; have HX1 := Lib.hid hx1; have HX2 := Lib.hid hx2; clear hb1 hx1 hx2)
  obtain ⟨w2, hw2⟩ : ∃ w2, w2 = w1.alloc (.cells #[.int .i64 x.kd, .int .i64 x.mrk, .string (tx x.p), .string (tx x.q), .int .i64 x.how, .int .i64 x.han, .int .i64 x.a, .int .i64 x.c, .slice x.D x.m x.d] 24) := ⟨_, rfl⟩
  obtain ⟨X, hX⟩ : ∃ X, X = w1.heap.size := ⟨_, rfl⟩
  have HB12 : Hid (Below w1.heap.size w1 w2) := Lib.hid (by rw [hw2]; exact ba1 _ _)
  have HBX : Hid (Bx 24 w2 X #[.int .i64 x.kd, .int .i64 x.mrk, .string (tx x.p), .string (tx x.q), .int .i64 x.how, .int .i64 x.han, .int .i64 x.a, .int .i64 x.c, .slice x.D x.m x.d]) := Lib.hid (by rw [hw2, hX]; exact bx_new _ _ _)
  have HB2 : Hid (Below w.heap.size w w2) := Lib.hid (bthen HB1.out HB12.out)
  rw [← hw2, ← hX]
  clear hw2 hX
  go_upto_region 3 with (go_at_call 14; (with_reducible refine (HRF.out w2 HB2.out).mono ?_); rintro e w3 ⟨hb3, y, rfl, hy1, hy2⟩; have HB3 := Lib.hid hb3; have HY1 := Lib.hid hy1; have HY2 := Lib.hid hy2; clear hb3 hy1 hy2)
  obtain ⟨w4, hw4⟩ : ∃ w4, w4 = w3.alloc (.cells #[.int .i64 y.kd, .int .i64 y.mrk, .string (tx y.p), .string (tx y.q), .int .i64 y.how, .int .i64 y.han, .int .i64 y.a, .int .i64 y.c, .slice y.D y.m y.d] 24) := ⟨_, rfl⟩
  obtain ⟨Y, hY⟩ : ∃ Y, Y = w3.heap.size := ⟨_, rfl⟩
  have HB34 : Hid (Below w3.heap.size w3 w4) := Lib.hid (by rw [hw4]; exact ba1 _ _)
  have HBY : Hid (Bx 24 w4 Y #[.int .i64 y.kd, .int .i64 y.mrk, .string (tx y.p), .string (tx y.q), .int .i64 y.how, .int .i64 y.han, .int .i64 y.a, .int .i64 y.c, .slice y.D y.m y.d]) := Lib.hid (by rw [hw4, hY]; exact bx_new _ _ _)
  rw [← hw4, ← hY]
  clear hw4 hY
  have HBX4 := Lib.hid ((HBX.out.below HB3.out).below HB34.out)
  have HXI : Hid (x.In w4) := Lib.hid (((HX1.out.below HB12.out).below HB3.out).below HB34.out)
  have HYI : Hid (y.In w4) := Lib.hid (HY1.out.below HB34.out)
  have HBW4 : Hid (Below w.heap.size w w4) := Lib.hid (bthen HB2.out (bthen HB3.out HB34.out))
  obtain ⟨lX, a0, a1, a2, a3, a4, a5, a6, a7, a8, -⟩ := HBX4.out.cells9
  obtain ⟨lY, b0, b1, b2, b3, b4, b5, b6, b7, b8, -⟩ := HBY.out.cells9
  have HSR : Hid (Calls Try.prog 15 #[.agg #[.int .i64 x.kd, .int .i64 x.mrk, .string (tx x.p), .string (tx x.q), .int .i64 x.how, .int .i64 x.han, .int .i64 x.a, .int .i64 x.c, .slice x.D x.m x.d], .agg #[.int .i64 y.kd, .int .i64 y.mrk, .string (tx y.p), .string (tx y.q), .int .i64 y.how, .int .i64 y.han, .int .i64 y.a, .int .i64 y.c, .slice y.D y.m y.d]] w4 fun e w' => e = .returned (.bool true) ∧ Below w4.heap.size w4 w') := Lib.hid (by
    have hs := HSM.out x HX2.out
    have hr : ∀ o, o < 9 → x.G o = y.G o := fun o ho => (HX2.out o ho).symm.trans (HY2.out o ho)
    have hx := HXI.out
    have hy := HYI.out
    obtain ⟨kd, mrk, p, q, how, han, a, c, D, m, d, zs⟩ := x
    obtain ⟨kd', mrk', p', q', how', han', a', c', D', m', d', zs'⟩ := y
    have e0 := hr 0 (by omega); have e1 := hr 1 (by omega); have e2 := hr 2 (by omega); have e3 := hr 3 (by omega); have e4 := hr 4 (by omega)
    have e5 := hr 5 (by omega); have e6 := hr 6 (by omega); have e7 := hr 7 (by omega); have e8 := hr 8 (by omega)
    simp only [Rqv.G, PC.n.injEq, PC.t.injEq, PC.d.injEq] at e0 e1 e2 e3 e4 e5 e6 e7 e8
    subst e0; subst e1; subst e2; subst e3; subst e4; subst e5; subst e6; subst e7; subst e8
    obtain ⟨hx1, hx2⟩ := hx
    obtain ⟨hy1, hy2⟩ := hy
    simp only at hx1 hx2 hy1 hy2 hs ⊢
    obtain rfl : m' = m := by rw [← hx2, ← hy2]
    exact reqL_at kd mrk how han a c p q D D' m' d d' zs w4 hx1 hy1 hx2 (by rw [← hx2]; exact Nat.le_trans hs (by decide)))
  go_wp2_with (go_at_call 15; (with_reducible refine HSR.out.mono ?_); rintro e w5 ⟨rfl, hb5⟩; have HB5 := Lib.hid hb5; clear hb5)
  go_ret
  exact ⟨by simp, bthen HBW4.out HB5.out⟩

end Go.Proofs.Ytelfnlocgknpjaa
