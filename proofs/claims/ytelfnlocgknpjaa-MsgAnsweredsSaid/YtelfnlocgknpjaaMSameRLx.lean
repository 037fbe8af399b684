/-
  packthreadlaw.sameBytes, sameTexts and sameReply, in one text (a claim holds 60 files).
-/
import Derived.Test.YtelfnlocgknpjaaBy
import Derived.BigQuiet
import Derived.Deep.QuietTactic
import Derived.Test.YtelfnlocgknpjaaText
import Derived.Test.YtelfnlocgknpjaaKit
import Derived.Test.YtelfnlocgknpjaaTool
import Derived.Test.YtelfnlocgknpjaaMAnsMath
namespace Go.Proofs.Ytelfnlocgknpjaa
section
open Go.RowKit
set_option linter.unusedVariables false
set_option linter.unusedSimpArgs false

theorem same_lawq (A : Option Addr) (n c : Nat) (B : Option Addr) (d : Nat) (l : List Int) (w : World) (ha : Ls byS w A l) (hb : Ls byS w B l) (hn : l.length = n) (h47 : n ≤ 140737488355328) :
    Calls Try.prog 12 #[.slice A n c, .slice B n d] w fun e w' => e = .returned (.bool true) ∧ ∃ m, w' = w.drewN m := by
  have HA := Lib.hid ha
  have HB := Lib.hid hb
  have HN := Lib.hid hn
  clear ha hb hn
  go_enter Try.func12, Try.ntmps12
  go_wp2
  go_loopw [5] (fun i wr => ∃ k m : Nat, k ≤ n ∧ i = .int .i64 k ∧ wr = w.drewN m) (fun i _ => n - (intOf i).toNat)
  case atStart => exact ⟨0, 0, Nat.zero_le _, rfl, rfl⟩
  case round =>
    obtain ⟨k, m, hk, rfl, rfl⟩ := hrel
    have hb1 : Below w.heap.size w (w.drewN m) := below_drewN (Below.refl _ _) m
    by_cases hlt : k < n
    · obtain ⟨x, hx⟩ : ∃ x, l[k]? = some x := ⟨_, List.getElem?_eq_getElem (by rw [HN.out]; exact hlt)⟩
      obtain ⟨b, o, rfl, hc1, h1⟩ := HA.out.at k x hx
      obtain ⟨b', o', rfl, hc2, h2⟩ := HB.out.at k x hx
      have g1 := h1 0 (.int .u8 x) rfl
      have g2 := h2 0 (.int .u8 x) rfl
      simp only [byS, Nat.add_zero, Nat.mul_one] at g1 g2
      clear hx h1 h2
      go_wp2
      go_quiet (fail)
      go_wp2
      go_roundw
      case rel => exact ⟨k + 1, _, by omega, by go_num, rfl⟩
      case measure => simp [intOf]; omega
    · go_wp2
      go_ret
      exact ⟨rfl, m, rfl⟩
theorem same_law (A : Option Addr) (n c : Nat) (B : Option Addr) (d : Nat) (l : List Int) (w : World) (ha : Ls byS w A l) (hb : Ls byS w B l) (hn : l.length = n) (h47 : n ≤ 140737488355328) :
    Calls Try.prog 12 #[.slice A n c, .slice B n d] w fun e w' => e = .returned (.bool true) ∧ Below w.heap.size w w' :=
  (same_lawq A n c B d l w ha hb hn h47).mono fun e w' h => ⟨h.1, by obtain ⟨m, hm⟩ := h.2; rw [hm]; exact below_drewN (Below.refl _ _) m⟩
end

section
open Go.RowKit
set_option linter.unusedVariables false
set_option linter.unusedSimpArgs false

set_option maxHeartbeats 1000000 in
theorem texts_law (A : Option Addr) (n c : Nat) (B : Option Addr) (d : Nat) (l : List Byt) (w : World) (ha : Ls stS w A l) (hb : Ls stS w B l) (hn : l.length = n) (hm : n ≤ 1000000) :
    Calls Try.prog 42 #[.slice A n c, .slice B n d] w fun e w' => e = .returned (.bool true) ∧ Below w.heap.size w w' := by
  have HA := Lib.hid ha
  have HB := Lib.hid hb
  have HN := Lib.hid hn
  have hne : ((n : Int) != (n : Int)) = false := by simp
  clear ha hb hn
  go_enter Try.func42, Try.ntmps42
  go_wp2
  go_loopw [5] (fun i wr => ∃ k : Nat, i = .int .i64 (k : Int) ∧ k ≤ n ∧ Below w.heap.size w wr) (fun i _ => n - (intOf i).toNat)
  case atStart => exact ⟨0, rfl, Nat.zero_le _, Below.refl _ _⟩
  case round =>
    obtain ⟨k, rfl, hk, hbw⟩ := hrel
    have HBW := Lib.hid hbw
    by_cases hlt : k < n
    · have hlti : (k : Int) < (n : Int) := by omega
      obtain ⟨b1, o1, rfl, hl1, hc1⟩ := (HA.out.below hbw).text k (by rw [HN.out]; exact hlt)
      obtain ⟨b2, o2, rfl, hl2, hc2⟩ := (HB.out.below hbw).text k (by rw [HN.out]; exact hlt)
      obtain ⟨x, hx⟩ : ∃ x, x = l.getD k [] := ⟨_, rfl⟩
      rw [← hx] at hc1 hc2
      have hT := tx_toList x
      clear hbw hx
      go_wp2_with fail
      go_quiet (fail)
      have HBD : Hid (Below w.heap.size w (wr.drewN nq)) := Lib.hid (below_drewN HBW.out nq)
      obtain ⟨wd, hwd⟩ : ∃ wd, wd = World.drewN wr nq := ⟨_, rfl⟩
      rw [← hwd] at HBD ⊢
      clear hwd
      go_wp2_with fail
      go_roundw
      case rel => exact ⟨k + 1, by simp, by omega, HBD.out⟩
      case measure => simp [intOf]; omega
    · have hlti : ¬ (k : Int) < (n : Int) := by omega
      clear hbw
      go_wp2_with fail
      go_ret
      exact ⟨rfl, HBW.out⟩
end

section
open Go.RowKit
set_option linter.unusedVariables false
set_option linter.unusedSimpArgs false

set_option maxRecDepth 100000 in
set_option maxHeartbeats 8000000 in
theorem rep_at_packthreadlaw (mrk code han kd sz : Int) (D E N M : Option Addr) (m d d' n c c' : Nat) (zs : List Int) (ns : List Byt) (w : World) (hD : Ls byS w D zs) (hE : Ls byS w E zs) (hm : zs.length = m) (h47 : m ≤ 140737488355328) (hN : Ls stS w N ns) (hM : Ls stS w M ns) (hn : ns.length = n) (hn2 : n ≤ 1000000) :
    Calls Try.prog 20 #[.agg #[.int .i64 mrk, .int .i64 code, .int .i64 han, .int .i64 kd, .int .i64 sz, .slice D m d, .slice N n c], .agg #[.int .i64 mrk, .int .i64 code, .int .i64 han, .int .i64 kd, .int .i64 sz, .slice E m d', .slice M n c']] w fun e w' => e = .returned (.bool true) ∧ Below w.heap.size w w' := by
  obtain ⟨wx, hwx⟩ : ∃ wx, wx = (w.alloc (.cells #[.int .i64 mrk, .int .i64 code, .int .i64 han, .int .i64 kd, .int .i64 sz, .slice D m d, .slice N n c] 36)).alloc (.cells #[.int .i64 mrk, .int .i64 code, .int .i64 han, .int .i64 kd, .int .i64 sz, .slice E m d', .slice M n c'] 36) := ⟨_, rfl⟩
  obtain ⟨P, hP⟩ : ∃ P, P = w.heap.size := ⟨_, rfl⟩
  obtain ⟨Q, hQ⟩ : ∃ Q, Q = w.heap.size + 1 := ⟨_, rfl⟩
  have HBX : Hid (Below w.heap.size w wx) := Lib.hid (by rw [hwx]; exact ba2 _ _ _)
  have hp : Bx 36 wx P #[.int .i64 mrk, .int .i64 code, .int .i64 han, .int .i64 kd, .int .i64 sz, .slice D m d, .slice N n c] := by rw [hwx, hP]; exact (bx_new w _ _).below (ba1 _ _)
  have hq : Bx 36 wx Q #[.int .i64 mrk, .int .i64 code, .int .i64 han, .int .i64 kd, .int .i64 sz, .slice E m d', .slice M n c'] := by
    have := bx_new (w.alloc (.cells #[.int .i64 mrk, .int .i64 code, .int .i64 han, .int .i64 kd, .int .i64 sz, .slice D m d, .slice N n c] 36)) 36 #[.int .i64 mrk, .int .i64 code, .int .i64 han, .int .i64 kd, .int .i64 sz, .slice E m d', .slice M n c']
    rw [World.size_alloc] at this
    rw [hwx, hQ]; exact this
  obtain ⟨lp, p0, p1, p2, p3, p4, p5, p6, -⟩ := hp.cells7
  have HP := Lib.hid hp
  have HQ := Lib.hid hq
  obtain ⟨lq, q0, q1, q2, q3, q4, q5, q6, -⟩ := hq.cells7
  have HSM : Hid (Calls Try.prog 12 #[.slice D m d, .slice E m d'] wx fun e w' => e = .returned (.bool true) ∧ Below wx.heap.size wx w') := Lib.hid (same_law D m d E d' zs wx (hD.below HBX.out) (hE.below HBX.out) hm h47)
  have HN := Lib.hid (hN.below HBX.out)
  have HM := Lib.hid (hM.below HBX.out)
  have HNL := Lib.hid hn
  clear hD hE hm hp hq hN hM hn
  go_enter Try.func20, Try.ntmps20
  go_upto_region 1 with fail
  rw [← hwx, ← hQ, ← hP]
  clear hwx hP hQ
  go_wp2_with (first
    | (go_at_call 12; (with_reducible refine HSM.out.mono ?_); rintro e w3 ⟨rfl, hb3⟩; have HB3 := Lib.hid hb3; have HTX : Hid (Calls Try.prog 42 #[.slice N n c, .slice M n c'] w3 fun e w' => e = .returned (.bool true) ∧ Below w3.heap.size w3 w') := Lib.hid (texts_law N n c M c' ns w3 (HN.out.below hb3) (HM.out.below hb3) HNL.out hn2); have p6 := (HP.out.below hb3).cell 6 _ rfl; have q6 := (HQ.out.below hb3).cell 6 _ rfl; have lp := (HP.out.below hb3).lt; have lq := (HQ.out.below hb3).lt; clear hb3)
    | (go_at_call 42; (with_reducible refine HTX.out.mono ?_); rintro e w4 ⟨rfl, hb4⟩; have HB4 := Lib.hid hb4; clear hb4))
  go_ret
  exact ⟨rfl, bthen HBX.out (bthen HB3.out HB4.out)⟩

theorem rep_x_packthreadlaw (x y : Rpv) (w : World) (hx : x.In w) (hy : y.In w) (he : x.rp = y.rp) (h47 : x.m ≤ 140737488355328) (hn : x.n ≤ 1000000) :
    Calls Try.prog 20 #[.agg #[.int .i64 x.mrk, .int .i64 x.code, .int .i64 x.han, .int .i64 x.kd, .int .i64 x.sz, .slice x.D x.m x.d, .slice x.N x.n x.c], .agg #[.int .i64 y.mrk, .int .i64 y.code, .int .i64 y.han, .int .i64 y.kd, .int .i64 y.sz, .slice y.D y.m y.d, .slice y.N y.n y.c]] w fun e w' => e = .returned (.bool true) ∧ Below w.heap.size w w' := by
  obtain ⟨mrk, code, han, kd, sz, D, m, d, zs, N, n, c, ns⟩ := x
  obtain ⟨mrk', code', han', kd', sz', D', m', d', zs', N', n', c', ns'⟩ := y
  simp only [Rpv.rp, Rp.mk.injEq] at he
  obtain ⟨rfl, rfl, rfl, rfl, rfl, rfl, rfl⟩ := he
  obtain ⟨⟨a1, a2⟩, a3, a4⟩ := hx
  obtain ⟨⟨b1, b2⟩, b3, b4⟩ := hy
  simp only at a1 a2 a3 a4 b1 b2 b3 b4 h47 hn ⊢
  obtain rfl : m' = m := by rw [← a2, ← b2]
  obtain rfl : n' = n := by rw [← a4, ← b4]
  exact rep_at_packthreadlaw mrk code han kd sz D D' N N' m' d d' n' c c' zs ns w a1 b1 a2 h47 a3 b3 a4 hn
end

end Go.Proofs.Ytelfnlocgknpjaa
