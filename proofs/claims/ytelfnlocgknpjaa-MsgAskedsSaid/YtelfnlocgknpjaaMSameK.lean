/-
  packthreadkeep.sameRequest of two requests that are the same.
-/
import Derived.Test.YtelfnlocgknpjaaMMath
import Derived.Test.YtelfnlocgknpjaaSameKeep
namespace Go.Proofs.Ytelfnlocgknpjaa
open Go.RowKit
set_option linter.unusedVariables false
set_option linter.unusedSimpArgs false

set_option maxRecDepth 100000 in
set_option maxHeartbeats 8000000 in
theorem reqK_at (kd mk how han a c : Int) (p q : Byt) (D E : Option Addr) (n d d' : Nat) (zs : List Int) (w : World) (hD : Ls byS w D zs) (hE : Ls byS w E zs) (hn : zs.length = n) (h47 : n ≤ 140737488355328) :
    Calls Try.prog 22 #[.agg #[.int .i64 kd, .int .i64 mk, .string (tx p), .string (tx q), .int .i64 how, .int .i64 han, .int .i64 a, .int .i64 c, .slice D n d], .agg #[.int .i64 kd, .int .i64 mk, .string (tx p), .string (tx q), .int .i64 how, .int .i64 han, .int .i64 a, .int .i64 c, .slice E n d']] w fun e w' => e = .returned (.bool true) ∧ Below w.heap.size w w' := by
  obtain ⟨wx, hwx⟩ : ∃ wx, wx = (w.alloc (.cells #[.int .i64 kd, .int .i64 mk, .string (tx p), .string (tx q), .int .i64 how, .int .i64 han, .int .i64 a, .int .i64 c, .slice D n d] 24)).alloc (.cells #[.int .i64 kd, .int .i64 mk, .string (tx p), .string (tx q), .int .i64 how, .int .i64 han, .int .i64 a, .int .i64 c, .slice E n d'] 24) := ⟨_, rfl⟩
  obtain ⟨P, hP⟩ : ∃ P, P = w.heap.size := ⟨_, rfl⟩
  obtain ⟨Q, hQ⟩ : ∃ Q, Q = w.heap.size + 1 := ⟨_, rfl⟩
  have HBX : Hid (Below w.heap.size w wx) := Lib.hid (by rw [hwx]; exact ba2 _ _ _)
  have hp : Bx 24 wx P #[.int .i64 kd, .int .i64 mk, .string (tx p), .string (tx q), .int .i64 how, .int .i64 han, .int .i64 a, .int .i64 c, .slice D n d] := by rw [hwx, hP]; exact (bx_new w _ _).below (ba1 _ _)
  have hq : Bx 24 wx Q #[.int .i64 kd, .int .i64 mk, .string (tx p), .string (tx q), .int .i64 how, .int .i64 han, .int .i64 a, .int .i64 c, .slice E n d'] := by
    have := bx_new (w.alloc (.cells #[.int .i64 kd, .int .i64 mk, .string (tx p), .string (tx q), .int .i64 how, .int .i64 han, .int .i64 a, .int .i64 c, .slice D n d] 24)) 24 #[.int .i64 kd, .int .i64 mk, .string (tx p), .string (tx q), .int .i64 how, .int .i64 han, .int .i64 a, .int .i64 c, .slice E n d']
    rw [World.size_alloc] at this
    rw [hwx, hQ]; exact this
  obtain ⟨lp, p0, p1, p2, p3, p4, p5, p6, p7, p8, -⟩ := hp.cells9
  obtain ⟨lq, q0, q1, q2, q3, q4, q5, q6, q7, q8, -⟩ := hq.cells9
  have HSM : Hid (Calls Try.prog 24 #[.slice D n d, .slice E n d'] wx fun e w' => e = .returned (.bool true) ∧ Below wx.heap.size wx w') := Lib.hid (same_keep D n d E d' zs wx (hD.below HBX.out) (hE.below HBX.out) hn h47)
  have HPV := Lib.hid hP
  have HQV := Lib.hid hQ
  clear hD hE hn hp hq
  go_enter Try.func22, Try.ntmps22
  go_upto_region 1 with fail
  rw [← hwx, ← hQ, ← hP]
  clear hwx hP hQ
  go_wp2_with (go_at_call 24; (with_reducible refine HSM.out.mono ?_); rintro e w3 ⟨rfl, hb3⟩; have HB3 := Lib.hid hb3; clear hb3)
  go_ret
  exact ⟨rfl, bthen HBX.out HB3.out⟩

end Go.Proofs.Ytelfnlocgknpjaa
