/-
  MsgAnswers.
-/
import Derived.Test.YtelfnlocgknpjaaRepArg
import Derived.Test.YtelfnlocgknpjaaMRefAnswer
import Derived.Test.YtelfnlocgknpjaaSameLaw
namespace Go.Proofs.Ytelfnlocgknpjaa
open Go.RowKit
set_option linter.unusedVariables false
set_option linter.unusedSimpArgs false

set_option maxRecDepth 100000 in
set_option maxHeartbeats 8000000 in
theorem walkMsgAnswers (x : Rpv) (w : World) (hq : RpIn w x) :
    Calls Try.prog 5 #[.agg #[.int .i64 x.mrk, .int .i64 x.code, .int .i64 x.han, .int .i64 x.kd, .int .i64 x.sz, .slice x.D x.m x.d, .slice x.N x.n x.c]] w fun e w' => e = .returned (.bool true) ∧ Below w.heap.size w w' := by
  obtain ⟨hin, hm, hn, hoz⟩ := hq
  obtain ⟨w1, hw1⟩ : ∃ w1, w1 = w.alloc (.cells #[.int .i64 x.mrk, .int .i64 x.code, .int .i64 x.han, .int .i64 x.kd, .int .i64 x.sz, .slice x.D x.m x.d, .slice x.N x.n x.c] 36) := ⟨_, rfl⟩
  obtain ⟨B, hB⟩ : ∃ B, B = w.heap.size := ⟨_, rfl⟩
  have HB1 : Hid (Below w.heap.size w w1) := Lib.hid (by rw [hw1]; exact ba1 _ _)
  have HX : Hid (Bx 36 w1 B #[.int .i64 x.mrk, .int .i64 x.code, .int .i64 x.han, .int .i64 x.kd, .int .i64 x.sz, .slice x.D x.m x.d, .slice x.N x.n x.c]) := Lib.hid (by rw [hw1, hB]; exact bx_new _ _ _)
  have HIN1 := Lib.hid (hin.below HB1.out)
  have HOZ := Lib.hid hoz
  obtain ⟨lb, b0, b1, b2, b3, b4, b5, b6, -⟩ := HX.out.cells7
  obtain ⟨v, hv⟩ : ∃ v, v = x.fault := ⟨_, rfl⟩
  have HV := Lib.hid hv
  clear hin hoz hv
  go_enter Try.func5, Try.ntmps5
  go_upto_region 1 with fail
  rw [← hw1, ← hB]
  clear hw1 hB
  by_cases hv0 : v = 0
  · subst hv0
    have HA : Hid (∀ ww, Below w1.heap.size w1 ww → Calls Try.prog 16 #[.agg #[.int .i64 x.mrk, .int .i64 x.code, .int .i64 x.han, .int .i64 x.kd, .int .i64 x.sz, .slice x.D x.m x.d, .slice x.N x.n x.c]] ww fun e w' => Below ww.heap.size ww w' ∧ ∃ A n c, e = .returned (.tuple #[.slice A n c, .int .i64 0]) ∧ OwnL byS 5 w' ww.heap.size A n c x.bytes) := Lib.hid (fun ww h => by
      exact (answer_any x ww (HIN1.out.below h) (by omega)).mono fun e w' h => ⟨h.1, by have h2 := h.2; rw [if_pos HV.out.symm] at h2; exact h2⟩)
    have HR : Hid (∀ ww, Below w1.heap.size w1 ww → Calls Try.prog 17 #[.agg #[.int .i64 x.mrk, .int .i64 x.code, .int .i64 x.han, .int .i64 x.kd, .int .i64 x.sz, .slice x.D x.m x.d, .slice x.N x.n x.c]] ww fun e w' => Below ww.heap.size ww w' ∧ ∃ A n c, e = .returned (.tuple #[.slice A n c, .int .i64 0]) ∧ OwnL byS 5 w' ww.heap.size A n c x.bytes) := Lib.hid (fun ww h =>
      (refAns_any x ww (HIN1.out.below h) (by omega) HOZ.out).mono fun e w' h => ⟨h.1, by have h2 := h.2; rw [if_pos HV.out.symm] at h2; exact h2⟩)
    go_wp2_with (first
      | (go_at_call 16; (with_reducible refine (HA.out w1 (Below.refl _ _)).mono ?_); rintro e w2 ⟨hb2, A2, n2, c2, rfl, ho2⟩; have HB2 := Lib.hid hb2; have HO2 := Lib.hid ho2; have hx2 := HX.out.below hb2; obtain ⟨lb, b0, b1, b2, b3, b4, b5, b6, -⟩ := hx2.cells7; clear hb2 ho2 hx2)
      | (go_at_call 17; (with_reducible refine (HR.out w2 HB2.out).mono ?_); rintro e w3 ⟨hb3, A3, n3, c3, rfl, ho3⟩; have HB3 := Lib.hid hb3; have HO3 := Lib.hid ho3; have HLN := Lib.hid ho3.1; obtain rfl : n3 = n2 := ho3.1.symm.trans HO2.out.1; have HLB : Hid (n3 ≤ 140737488355328) := Lib.hid (by have h1 := HO2.out.1; have h2 := (bytes_len (r := x.rp) (fineR_of (by unfold Rp.fault Rpv.rp; rw [HIN1.out.1.2]; exact HV.out.symm))).2; have h3 : x.rp.bytes = x.bytes := rfl; rw [h3] at h2; omega); clear hb3 ho3)
      | (go_at_call 12; ((with_reducible refine (same_law A2 n3 c2 A3 c3 x.bytes w3 (HO2.out.ls.below HB3.out) HO3.out.ls HLN.out HLB.out).mono ?_); rintro e w4 ⟨rfl, hb4⟩; have HB4 := Lib.hid hb4; clear hb4)))
    go_ret
    exact ⟨rfl, bthen HB1.out (bthen HB2.out (bthen HB3.out HB4.out))⟩
  · have HNZ : Hid (¬ x.fault = 0) := Lib.hid (by rw [← HV.out]; exact hv0)
    have HA : Hid (∀ ww, Below w1.heap.size w1 ww → Calls Try.prog 16 #[.agg #[.int .i64 x.mrk, .int .i64 x.code, .int .i64 x.han, .int .i64 x.kd, .int .i64 x.sz, .slice x.D x.m x.d, .slice x.N x.n x.c]] ww fun e w' => Below ww.heap.size ww w' ∧ e = .returned (.tuple #[.slice none 0 0, .int .i64 v])) := Lib.hid (fun ww h =>
      (answer_any x ww (HIN1.out.below h) (by omega)).mono fun e w' h => ⟨h.1, by have h2 := h.2; rw [if_neg HNZ.out, ← HV.out] at h2; exact h2⟩)
    have HR : Hid (∀ ww, Below w1.heap.size w1 ww → Calls Try.prog 17 #[.agg #[.int .i64 x.mrk, .int .i64 x.code, .int .i64 x.han, .int .i64 x.kd, .int .i64 x.sz, .slice x.D x.m x.d, .slice x.N x.n x.c]] ww fun e w' => Below ww.heap.size ww w' ∧ e = .returned (.tuple #[.slice none 0 0, .int .i64 v])) := Lib.hid (fun ww h =>
      (refAns_any x ww (HIN1.out.below h) (by omega) HOZ.out).mono fun e w' h => ⟨h.1, by have h2 := h.2; rw [if_neg HNZ.out, ← HV.out] at h2; exact h2⟩)
    have HSM : Hid (∀ ww, Calls Try.prog 12 #[.slice none 0 0, .slice none 0 0] ww fun e w' => e = .returned (.bool true) ∧ Below ww.heap.size ww w') := Lib.hid (fun ww => same_law none 0 0 none 0 [] ww (Ls.nil _ _) (Ls.nil _ _) rfl (by omega))
    clear hv0
    go_wp2_with (first
      | (go_at_call 16; (with_reducible refine (HA.out w1 (Below.refl _ _)).mono ?_); rintro e w2 ⟨hb2, rfl⟩; have HB2 := Lib.hid hb2; have hx2 := HX.out.below hb2; obtain ⟨lb, b0, b1, b2, b3, b4, b5, b6, -⟩ := hx2.cells7; clear hb2 hx2)
      | (go_at_call 17; (with_reducible refine (HR.out w2 HB2.out).mono ?_); rintro e w3 ⟨hb3, rfl⟩; have HB3 := Lib.hid hb3; clear hb3)
      | (go_at_call 12; (with_reducible refine (HSM.out w3).mono ?_); rintro e w4 ⟨rfl, hb4⟩; have HB4 := Lib.hid hb4; clear hb4))
    go_ret
    exact ⟨by simp, bthen HB1.out (bthen HB2.out (bthen HB3.out HB4.out))⟩

end Go.Proofs.Ytelfnlocgknpjaa
