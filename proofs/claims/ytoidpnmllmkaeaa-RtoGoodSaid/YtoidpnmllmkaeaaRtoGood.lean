/-
  The walk of RtoGood.
-/
import Derived.Test.YtoidpnmllmkaeaaTimerOf
namespace Go.Proofs.Ytoidpnmllmkaeaa
open Go.RowKit
set_option linter.unusedVariables false
set_option linter.unusedSimpArgs false

/-- behind one more sample: the timer's box is new -/
def NxC (W1 : World) (S V T : Int) (x e : Value) (wc : World) : Prop :=
  ∃ X, x = .pointer (some ⟨X, 0, none⟩) ∧ e = .int .i64 0 ∧ W1.heap.size ≤ X ∧ Box4 wc X S V T 0 ∧ Below W1.heap.size W1 wc

set_option maxRecDepth 100000 in
set_option maxHeartbeats 8000000 in
theorem walkRtoGood (A : Option Addr) (n c : Nat) (zs : List Int) (a : Int) (w : World) (hb : Is w A zs) (hn : zs.length = n) (hc : n ≤ c) (hr : c ≤ 17592186043904) (a0 : -9223372036854775808 ≤ a) (a1 : a ≤ 9223372036854775807) :
    Calls Try.prog 7 #[.slice A n c, .int .i64 a] w fun e w' => e = .returned (.bool true) ∧ Below w.heap.size w w' := by
  have HB := Lib.hid hb
  have HN := Lib.hid hn
  have h47 : n ≤ 17592186043904 := by omega
  clear hb hn
  go_enter Try.func7, Try.ntmps7
  go_wp2_with (go_at_call 19; (refine (timerOf_any A n c zs 60 _ HB.out HN.out h47).mono ?_); rintro e w1 ⟨s, v, t, b, hm, rfl, hb1⟩; have HM := Lib.hid hm; have HB1 := Lib.hid hb1; clear hm hb1)
  obtain ⟨x, hx⟩ : ∃ x, x = a % 1048577 := ⟨_, rfl⟩
  have HX : Hid (0 ≤ x ∧ x ≤ 1048576) := Lib.hid (by omega)
  obtain ⟨S, hS⟩ : ∃ S, S = srtt' s x := ⟨_, rfl⟩
  obtain ⟨V, hV⟩ : ∃ V, V = var' s v x := ⟨_, rfl⟩
  obtain ⟨T, hT⟩ : ∃ T, T = wait' s v x := ⟨_, rfl⟩
  have HM' : Hid (Tm S V T 0) := Lib.hid (by rw [hS, hV, hT]; exact next_tm HM.out HX.out.1 HX.out.2)
  have hg : S / 8 ≤ T ∨ T = 60000 := by rw [hS, hT]; exact wait_good HM.out HX.out.1 HX.out.2
  have HG := Lib.hid hg
  have HZ := Lib.hid hx
  clear hg
  have HS := Lib.hid hS; have HV := Lib.hid hV; have HTT := Lib.hid hT
  clear hS hV hT
  clear hx
  obtain ⟨W1, hW1⟩ : ∃ W1, W1 = w1.alloc (.cells #[.int .i64 s, .int .i64 v, .int .i64 t, .int .i64 b] 23) := ⟨_, rfl⟩
  have HT1 : Hid (Box4 W1 w1.heap.size s v t b) := Lib.hid (by rw [hW1]; exact box4_new w1 _ _ _ _)
  have HB2 : Hid (Below w.heap.size w W1) := Lib.hid (by rw [hW1]; exact HB1.out.alloc HB1.out.size _)
  have HNX : Hid (∀ w', Below W1.heap.size W1 w' → Calls Try.prog 15 #[.agg #[.int .i64 s, .int .i64 v, .int .i64 t, .int .i64 b], .int .i64 x] w' fun e w'' => e = .returned (.tuple #[.agg #[.int .i64 S, .int .i64 V, .int .i64 T, .int .i64 0], .int .i64 0]) ∧ Below w'.heap.size w' w'') := Lib.hid fun w' _ => next_ok s v t b x S V T w' HM.out HX.out HS.out HV.out HTT.out
  have HD1 : Hid (Below W1.heap.size W1 W1.drew) := Lib.hid (Below.refl _ _).drew
  have HD2 : Hid (Below W1.heap.size W1 (W1.alloc (.cells #[.int .i64 0, .int .i64 0, .int .i64 0, .int .i64 0] 23)).drew) := Lib.hid (ba1 _ _).drew
  have HN2 := Lib.hid (box4_new W1 0 0 0 0)
  rw [← hW1]
  obtain ⟨lT, cT0, cT1, cT2, cT3, fT⟩ := (HT1.out).cells; have fT0 := fT 0; have fT1 := fT 1; have fT2 := fT 2; have fT3 := fT 3; clear fT
  clear hW1 HB1
  go_upto_region 2 with fail
  go_cut [7, 8] (fun p e wc => NxC W1 S V T p e wc)
  case first =>
    go_region_law (first
      | (go_simp; go_at_call 20; (with_reducible refine (picked_v a 1048577 x _ HZ a0 a1 (by omega) (by omega)).mono ?_); rintro e w3 ⟨rfl, rfl⟩)
      | (go_simp; go_at_call 15; (with_reducible refine (HNX.out W1.drew HD1.out).mono ?_); rintro e w3 ⟨rfl, hb3⟩; have HB3 : Hid (Below W1.heap.size W1 w3) := Lib.hid (bthen HD1.out hb3); clear hb3)
      | (go_simp; go_at_call 15; (with_reducible refine (HNX.out (W1.alloc (.cells #[.int .i64 0, .int .i64 0, .int .i64 0, .int .i64 0] 23)).drew HD2.out).mono ?_); rintro e w4 ⟨rfl, hb4⟩; have HB4 : Hid (Below W1.heap.size W1 w4) := Lib.hid (bthen HD2.out hb4); have HX4 : Hid (Box4 w4 W1.heap.size 0 0 0 0) := Lib.hid ((hb4.block W1.heap.size (by simp)).trans HN2.out); clear hb4; obtain ⟨lX, cX0, cX1, cX2, cX3, fX⟩ := (HX4.out).cells; have fX0 := fX 0; have fX1 := fX 1; have fX2 := fX 2; have fX3 := fX 3; clear fX))
    all_goals
      go_wp2_with fail
      go_meet
      unfold NxC
      first
        | exact ⟨_, rfl, rfl, HB3.out.size, box4_new w3 _ _ _ _, HB3.out.alloc HB3.out.size _⟩
        | exact ⟨_, rfl, rfl, Nat.le_refl _, HX4.out.store _ _ _ _, below_store4 HB4.out (Nat.le_refl _) _ _ _ _⟩
  case rest =>
    obtain ⟨X, rfl, rfl, hX, hbx, hbc⟩ := hcut
    have HBX := Lib.hid hbx; have HBC := Lib.hid (bthen HB2.out hbc)
    have S0 := HM'.out.s0; have S1 := HM'.out.s1
    have hno : ¬ ((0 : Int) ≤ -1 ∧ (-1 : Int) ≤ 1048576) := by omega
    have HNO := Lib.hid hno
    clear hbx hbc hno cT0 cT1 cT2 cT3 fT0 fT1 fT2 fT3
    obtain ⟨lP, cP0, cP1, cP2, cP3, fP⟩ := (HBX.out).cells; have fP0 := fP 0; have fP1 := fP 1; have fP2 := fP 2; have fP3 := fP 3; clear fP
    have hg := HG.out
    have hk : (S / 8 ≤ T) ∨ (T < S / 8 ∧ T = 60000) := by omega
    clear hg
    rcases hk with k0 | ⟨k0, rfl⟩
    all_goals
      go_wp2_with (first
        | (go_at_call 13; (refine (first_no (-1) _ HNO.out).mono ?_); rintro e w5 ⟨rfl, hb5⟩; have HT5 := Lib.hid (HBX.out.below hb5); have HB5 : Hid (Below w.heap.size w w5) := Lib.hid (bthen HBC.out hb5); clear hb5; obtain ⟨lY, cY0, cY1, cY2, cY3, fY⟩ := (HT5.out).cells; have fY0 := fY 0; have fY1 := fY 1; have fY2 := fY 2; have fY3 := fY 3; clear fY)
        | (go_at_call 11; (refine (may_ok S V _ 0 _ HM'.out).mono ?_); rintro e w6 ⟨rfl, hb6⟩; have HT6 := Lib.hid ((HT5.out.below (ba1 _ _)).below hb6); have HB6 : Hid (Below w.heap.size w w6) := Lib.hid (bthen (HB5.out.alloc HB5.out.size _) hb6); clear hb6; obtain ⟨lQ, cQ0, cQ1, cQ2, cQ3, fQ⟩ := (HT6.out).cells; have fQ0 := fQ 0; have fQ1 := fQ 1; have fQ2 := fQ 2; have fQ3 := fQ 3; clear fQ))
      go_ret
      exact ⟨rfl, HB6.out⟩

end Go.Proofs.Ytoidpnmllmkaeaa
