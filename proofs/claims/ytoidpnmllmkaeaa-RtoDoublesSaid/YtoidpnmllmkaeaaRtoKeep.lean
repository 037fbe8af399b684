/-
  The walks of RtoBetween, RtoMeets, RtoDoubles, RtoGood.
-/
import Derived.Test.YtoidpnmllmkaeaaTimerOf
namespace Go.Proofs.Ytoidpnmllmkaeaa
open Go.RowKit
set_option linter.unusedVariables false
set_option linter.unusedSimpArgs false

set_option maxRecDepth 100000 in
set_option maxHeartbeats 8000000 in
theorem walkRtoBetween (A : Option Addr) (n c : Nat) (zs : List Int) (a : Int) (w : World) (hb : Is w A zs) (hn : zs.length = n) (hc : n ≤ c) (hr : c ≤ 17592186043904) (a0 : -9223372036854775808 ≤ a) (a1 : a ≤ 9223372036854775807) :
    Calls Try.prog 9 #[.slice A n c, .int .i64 a] w fun e w' => e = .returned (.bool true) ∧ Below w.heap.size w w' := by
  have HB := Lib.hid hb
  have HN := Lib.hid hn
  have h47 : n ≤ 17592186043904 := by omega
  clear hb hn
  go_enter Try.func9, Try.ntmps9
  go_wp2_with (go_at_call 19; (refine (timerOf_any A n c zs 60 _ HB.out HN.out h47).mono ?_); rintro e w1 ⟨s, v, t, b, hm, rfl, hb1⟩; have HM := Lib.hid hm; have HB1 := Lib.hid hb1; clear hm hb1)
  obtain ⟨x, hx⟩ : ∃ x, x = a % 1048577 := ⟨_, rfl⟩
  have HX : Hid (0 ≤ x ∧ x ≤ 1048576) := Lib.hid (by omega)
  have s0 := HM.out.s0; have s1 := HM.out.s1
  obtain ⟨S, hS⟩ : ∃ S, S = srtt' s x := ⟨_, rfl⟩
  obtain ⟨V, hV⟩ : ∃ V, V = var' s v x := ⟨_, rfl⟩
  obtain ⟨T, hT⟩ : ∃ T, T = wait' s v x := ⟨_, rfl⟩
  have HM' : Hid (Tm S V T 0) := Lib.hid (by rw [hS, hV, hT]; exact next_tm HM.out HX.out.1 HX.out.2)
  have hbt := between s x
  rw [← hS] at hbt
  have S0 := HM'.out.s0; have S1 := HM'.out.s1
  have HZ := Lib.hid hx
  have HS := Lib.hid hS; have HV := Lib.hid hV; have HTT := Lib.hid hT
  clear hS hV hT
  clear hx
  have HT1 := Lib.hid (box4_new w1 s v t b)
  have hk : (s / 8 < x ∧ s / 8 ≤ S / 8 ∧ S / 8 ≤ x) ∨ (x < s / 8 ∧ x ≤ S / 8 ∧ S / 8 ≤ s / 8) ∨ (x ≤ s / 8 ∧ s / 8 ≤ x ∧ s / 8 ≤ S / 8 ∧ S / 8 ≤ s / 8 ∧ x ≤ S / 8 ∧ S / 8 ≤ x) := by omega
  clear hbt
  rcases hk with ⟨k1, k2, k3⟩ | ⟨k1, k2, k3⟩ | ⟨k1, k2, k3, k4, k5, k6⟩
  all_goals
    go_wp2_with (first
      | (go_at_call 20; (refine (picked_v a 1048577 x _ HZ a0 a1 (by omega) (by omega)).mono ?_); rintro e w3 ⟨rfl, rfl⟩)
      | (go_at_call 15; (refine (next_ok s v t b x S V T _ HM.out HX.out HS.out HV.out HTT.out).mono ?_); rintro e w4 ⟨rfl, hb4⟩; have HT4 := Lib.hid (HT1.out.below hb4); have HB4 : Hid (Below w.heap.size w w4) := Lib.hid (bthen (HB1.out.alloc HB1.out.size _) hb4); clear hb4; obtain ⟨lT, cT0, cT1, cT2, cT3, fT⟩ := (HT4.out).cells; have fT0 := fT 0; have fT1 := fT 1; have fT2 := fT 2; have fT3 := fT 3; clear fT))
    all_goals go_ret
    all_goals exact ⟨rfl, HB4.out.alloc HB4.out.size _⟩

/-- the state of RtoMeets' loop -/
def MeetI (w : World) (x : Int) (B : Nat) (ok i : Value) (wr : World) : Prop :=
  ∃ (k : Nat) (s v t b : Int), k ≤ 300 ∧ i = .int .i64 k ∧ ok = .bool true ∧ Tm s v t b ∧ Near k x s v ∧ (0 < k → t = waitOf s v) ∧ Box4 wr B s v t b ∧ Below w.heap.size w wr
theorem meet_store {w w3 : World} {B k : Nat} {x a0 a1 a2 a3 s v S V T : Int} (hT : Box4 w3 B a0 a1 a2 a3) (hb : Below w.heap.size w w3) (hBw : w.heap.size ≤ B) (hk : k + 1 ≤ 300) (hn : Near k x s v) (hS : S = srtt' s x) (hV : V = var' s v x) (hTT : T = wait' s v x) (hm : Tm S V T 0) :
    MeetI w x B (.bool true) (.int .i64 ((k + 1 : Nat) : Int)) ((((w3.setCell ⟨B, 0, none⟩ (.int .i64 S)).setCell ⟨B, 1, none⟩ (.int .i64 V)).setCell ⟨B, 2, none⟩ (.int .i64 T)).setCell ⟨B, 3, none⟩ (.int .i64 0)) :=
  ⟨k + 1, S, V, T, 0, hk, rfl, rfl, hm, by rw [hS, hV]; exact near_step hn, fun _ => by rw [hTT, hS, hV]; rfl, hT.store _ _ _ _, below_store4 hb hBw _ _ _ _⟩
theorem meet_alloc {w wr : World} {x : Int} {B : Nat} {ok i : Value} (h : MeetI w x B ok i wr) (o : Obj) : MeetI w x B ok i (wr.alloc o) := by
  obtain ⟨k, s, v, t, b, hk, hi, ho, hm, hn, ht, hbt, hbw⟩ := h
  exact ⟨k, s, v, t, b, hk, hi, ho, hm, hn, ht, hbt.below (ba1 _ _), hbw.alloc hbw.size _⟩

set_option maxRecDepth 100000 in
set_option maxHeartbeats 8000000 in
theorem walkRtoMeets (A : Option Addr) (n c : Nat) (zs : List Int) (a : Int) (w : World) (hb : Is w A zs) (hn : zs.length = n) (hc : n ≤ c) (hr : c ≤ 17592186043904) (a0 : -9223372036854775808 ≤ a) (a1 : a ≤ 9223372036854775807) :
    Calls Try.prog 8 #[.slice A n c, .int .i64 a] w fun e w' => e = .returned (.bool true) ∧ Below w.heap.size w w' := by
  have HB := Lib.hid hb
  have HN := Lib.hid hn
  have h47 : n ≤ 17592186043904 := by omega
  clear hb hn
  go_enter Try.func8, Try.ntmps8
  go_wp2_with (go_at_call 19; (refine (timerOf_any A n c zs 30 _ HB.out HN.out h47).mono ?_); rintro e w1 ⟨s, v, t, b, hm, rfl, hb1⟩; have HM := Lib.hid hm; have HB1 := Lib.hid hb1; clear hm hb1)
  obtain ⟨x, hx⟩ : ∃ x, x = a % 1048577 := ⟨_, rfl⟩
  have HX : Hid (0 ≤ x ∧ x ≤ 1048576) := Lib.hid (by omega)
  have HNE := Lib.hid (near_start HM.out HX.out.1 HX.out.2)
  have HZ := Lib.hid hx
  clear hx
  obtain ⟨B, hB⟩ : ∃ B, B = w1.heap.size := ⟨_, rfl⟩
  obtain ⟨w2, hw2⟩ : ∃ w2, w2 = w1.alloc (.cells #[.int .i64 s, .int .i64 v, .int .i64 t, .int .i64 b] 23) := ⟨_, rfl⟩
  have HT2 : Hid (Box4 w2 B s v t b) := Lib.hid (by rw [hw2, hB]; exact box4_new w1 _ _ _ _)
  have HB2 : Hid (Below w.heap.size w w2) := Lib.hid (by rw [hw2]; exact HB1.out.alloc HB1.out.size _)
  have hBw : w.heap.size ≤ B := by rw [hB]; exact HB1.out.size
  rw [← hw2, ← hB]
  clear hw2 hB HB1
  go_wp2_with (go_at_call 20; (refine (picked_v a 1048577 x _ HZ a0 a1 (by omega) (by omega)).mono ?_); rintro e w3 ⟨rfl, rfl⟩)
  go_loopw [6, 8] (fun ok i wr => MeetI w x B ok i wr) (fun _ i _ => 300 - (intOf i).toNat)
  case atStart => exact ⟨0, s, v, t, b, by omega, rfl, rfl, HM.out, HNE.out, fun h => absurd h (by omega), HT2.out, HB2.out⟩
  case round =>
    obtain ⟨k, s, v, t, b, hk, rfl, rfl, hm, hne, ht, hbt, hbw⟩ := hrel
    clear HT2 HB2 HM HNE
    have HM := Lib.hid hm; have HT := Lib.hid hbt; have HW := Lib.hid hbw; have HNE := Lib.hid hne
    clear hm hbt hbw hne
    obtain ⟨lT, cT0, cT1, cT2, cT3, fT⟩ := (HT.out).cells; have fT0 := fT 0; have fT1 := fT 1; have fT2 := fT 2; have fT3 := fT 3; clear fT
    by_cases hlt : k < 300
    · clear ht
      obtain ⟨S, hS⟩ : ∃ S, S = srtt' s x := ⟨_, rfl⟩
      obtain ⟨V, hV⟩ : ∃ V, V = var' s v x := ⟨_, rfl⟩
      obtain ⟨T, hT⟩ : ∃ T, T = wait' s v x := ⟨_, rfl⟩
      have HM' : Hid (Tm S V T 0) := Lib.hid (by rw [hS, hV, hT]; exact next_tm HM.out HX.out.1 HX.out.2)
      have HS := Lib.hid hS; have HV := Lib.hid hV; have HTT := Lib.hid hT
      clear hS hV hT
      go_wp2_with (go_at_call 15; (refine (next_ok s v t b x S V T _ HM.out HX.out HS.out HV.out HTT.out).mono ?_); rintro e w4 ⟨rfl, hb4⟩; have HT4 := Lib.hid (HT.out.below hb4); have HB4 : Hid (Below w.heap.size w w4) := Lib.hid (bthen HW.out hb4); clear hb4; obtain ⟨lX, cX0, cX1, cX2, cX3, fX⟩ := (HT4.out).cells; have fX0 := fX 0; have fX1 := fX 1; have fX2 := fX 2; have fX3 := fX 3; clear fX)
      exact ⟨meet_alloc (meet_store HT4.out HB4.out hBw hlt HNE.out HS.out HV.out HTT.out HM'.out) _, by simp [intOf]; omega⟩
    · obtain rfl : k = 300 := by omega
      obtain ⟨e1, e2⟩ := near_end HNE.out
      have s0 := HM.out.s0; have s1 := HM.out.s1; have v0 := HM.out.v0
      have ht := ht (by omega)
      have HE : Hid (s / 8 = x) := Lib.hid e1
      have hx0 := HX.out.1; have hx1 := HX.out.2
      have e3 : (s / 8 == x) = true := by rw [beq_iff_eq]; exact e1
      rw [show waitOf s v = min (max (x + v) 200) 60000 by unfold waitOf; rw [e1]] at ht
      have hk : (x + v < 200 ∧ t = 200) ∨ (200 ≤ x + v ∧ x + v ≤ 60000 ∧ t = x + v) ∨ (200 ≤ x + v ∧ 60000 < x + v ∧ t = 60000) := by omega
      clear e1 ht hlt
      rcases hk with ⟨k0, rfl⟩ | ⟨k0, k1, rfl⟩ | ⟨k0, k1, rfl⟩
      all_goals
        go_wp2
        all_goals go_ret
        all_goals exact ⟨rfl, HW.out⟩
/-- the state of RtoDoubles' loop: x lies at B, s at C -/
def DoubI (w : World) (S V T : Int) (kk : Nat) (B C : Nat) (i : Value) (wr : World) : Prop :=
  ∃ (k : Nat) (t : Int), k ≤ kk ∧ i = .int .i64 k ∧ Tm S V t k ∧ Box4 wr B S V t k ∧ Box4 wr C S V T 0 ∧ Below w.heap.size w wr
theorem doub_store {w w3 : World} {B C kk k : Nat} {a0 a1 a2 a3 S V T t : Int} (hT : Box4 w3 B a0 a1 a2 a3) (hC : Box4 w3 C S V T 0) (hb : Below w.heap.size w w3) (hBw : w.heap.size ≤ B) (hne : ¬ C = B) (hk : k < kk) (hm : Tm S V t ((k : Int) + 1)) :
    DoubI w S V T kk B C (.int .i64 ((k : Int) + 1)) ((((w3.setCell ⟨B, 0, none⟩ (.int .i64 S)).setCell ⟨B, 1, none⟩ (.int .i64 V)).setCell ⟨B, 2, none⟩ (.int .i64 t)).setCell ⟨B, 3, none⟩ (.int .i64 ((k : Int) + 1))) :=
  ⟨k + 1, t, hk, rfl, hm, hT.store _ _ _ _, four_other hC hne _ _ _ _, below_store4 hb hBw _ _ _ _⟩
theorem doub_alloc {w wr : World} {S V T : Int} {kk B C : Nat} {i : Value} (h : DoubI w S V T kk B C i wr) (o : Obj) : DoubI w S V T kk B C i (wr.alloc o) := by
  obtain ⟨k, t, hk, hi, hm, hbt, hbc, hbw⟩ := h
  exact ⟨k, t, hk, hi, hm, hbt.below (ba1 _ _), hbc.below (ba1 _ _), hbw.alloc hbw.size _⟩

set_option maxRecDepth 100000 in
set_option maxHeartbeats 8000000 in
theorem walkRtoDoubles (A : Option Addr) (n c : Nat) (zs : List Int) (a : Int) (w : World) (hb : Is w A zs) (hn : zs.length = n) (hc : n ≤ c) (hr : c ≤ 17592186043904) (a0 : -9223372036854775808 ≤ a) (a1 : a ≤ 9223372036854775807) :
    Calls Try.prog 10 #[.slice A n c, .int .i64 a] w fun e w' => e = .returned (.bool true) ∧ Below w.heap.size w w' := by
  have HB := Lib.hid hb
  have HN := Lib.hid hn
  have h47 : n ≤ 17592186043904 := by omega
  clear hb hn
  go_enter Try.func10, Try.ntmps10
  go_wp2_with (go_at_call 19; (refine (timerOf_any A n c zs 40 _ HB.out HN.out h47).mono ?_); rintro e w1 ⟨s, v, t, b, hm, rfl, hb1⟩; have HM := Lib.hid hm; have HB1 := Lib.hid hb1; clear hm hb1)
  have HX : Hid ((0 : Int) ≤ 100 ∧ (100 : Int) ≤ 1048576) := Lib.hid (by omega)
  obtain ⟨S, hS⟩ : ∃ S, S = srtt' s 100 := ⟨_, rfl⟩
  obtain ⟨V, hV⟩ : ∃ V, V = var' s v 100 := ⟨_, rfl⟩
  obtain ⟨T, hT⟩ : ∃ T, T = wait' s v 100 := ⟨_, rfl⟩
  have HM' : Hid (Tm S V T 0) := Lib.hid (by rw [hS, hV, hT]; exact next_tm HM.out HX.out.1 HX.out.2)
  have HS := Lib.hid hS; have HV := Lib.hid hV; have HTT := Lib.hid hT
  clear hS hV hT
  have HT1 := Lib.hid (box4_new w1 s v t b)
  go_wp2_with (go_at_call 15; (refine (next_ok s v t b 100 S V T _ HM.out HX.out HS.out HV.out HTT.out).mono ?_); rintro e w2 ⟨rfl, hb2⟩; have HB2 : Hid (Below w.heap.size w w2) := Lib.hid (bthen (HB1.out.alloc HB1.out.size _) hb2); clear hb2)
  obtain ⟨kk, hkk, hk13⟩ := pick_nat a 13 (by omega)
  go_wp2_with (go_at_call 20; (refine (picked_n a 13 kk _ hkk a0 a1 (by omega) (by omega)).mono ?_); rintro e w3 ⟨rfl, rfl⟩)
  obtain ⟨w3, hw3⟩ : ∃ w3, w3 = (w2.alloc (.cells #[.int .i64 S, .int .i64 V, .int .i64 T, .int .i64 0] 23)).alloc (.cells #[.int .i64 S, .int .i64 V, .int .i64 T, .int .i64 0] 23) := ⟨_, rfl⟩
  obtain ⟨C, hC⟩ : ∃ C, C = w2.heap.size := ⟨_, rfl⟩
  have HC3 : Hid (Box4 w3 C S V T 0) := Lib.hid (by rw [hw3, hC]; exact (box4_new w2 S V T 0).below (ba1 _ _))
  have HD3 : Hid (Box4 w3 (C + 1) S V T 0) := Lib.hid (by rw [hw3, hC]; simpa using box4_new (w2.alloc (.cells #[.int .i64 S, .int .i64 V, .int .i64 T, .int .i64 0] 23)) S V T 0)
  have HB3 : Hid (Below w.heap.size w w3) := Lib.hid (by rw [hw3]; exact (HB2.out.alloc HB2.out.size _).alloc (by have := HB2.out.size; simp; omega) _)
  have hCw : w.heap.size ≤ C := by rw [hC]; exact HB2.out.size
  rw [← hw3, ← hC]
  clear hw3 hC HB2 HB1 HT1
  go_loopw [11] (fun i wr => DoubI w S V T kk (C + 1) C i wr) (fun i _ => kk - (intOf i).toNat)
  case atStart => exact ⟨0, T, Nat.zero_le _, rfl, HM'.out, HD3.out, HC3.out, HB3.out⟩
  case round =>
    obtain ⟨k, u, hk, rfl, hm, hbt, hbc, hbw⟩ := hrel
    clear HC3 HD3 HB3
    have HM2 := Lib.hid hm; have HT := Lib.hid hbt; have HC := Lib.hid hbc; have HW := Lib.hid hbw
    clear hbt hbc hbw
    obtain ⟨lT, cT0, cT1, cT2, cT3, fT⟩ := (HT.out).cells; have fT0 := fT 0; have fT1 := fT 1; have fT2 := fT 2; have fT3 := fT 3; clear fT
    obtain ⟨lC, cC0, cC1, cC2, cC3, fC⟩ := (HC.out).cells; have fC0 := fC 0; have fC1 := fC 1; have fC2 := fC 2; have fC3 := fC 3; clear fC
    by_cases hlt : k < kk
    · obtain ⟨U, hU⟩ : ∃ U, U = back' u := ⟨_, rfl⟩
      have HM3 : Hid (Tm S V U ((k : Int) + 1)) := Lib.hid (by rw [hU]; exact back_tm hm (by omega))
      have hu0 := hm.w0; have hu1 := hm.w1
      have HU := Lib.hid hU
      have hk12 : (k : Int) < 12 := by omega
      rcases back_cases hU with ⟨k0, rfl⟩ | ⟨k0, rfl⟩
      all_goals
        clear hm hU
        go_wp2_with (go_at_call 17; (refine (back_ok S V u k _ _ HM2.out hk12 HU.out).mono ?_); rintro e w4 ⟨rfl, hb4⟩; have HT4 := Lib.hid (HT.out.below hb4); have HC4 := Lib.hid (HC.out.below hb4); have HB4 : Hid (Below w.heap.size w w4) := Lib.hid (bthen HW.out hb4); clear hb4; obtain ⟨lX, cX0, cX1, cX2, cX3, fX⟩ := (HT4.out).cells; have fX0 := fX 0; have fX1 := fX 1; have fX2 := fX 2; have fX3 := fX 3; clear fX; obtain ⟨lY, cY0, cY1, cY2, cY3, fY⟩ := (HC4.out).cells; have fY0 := fY 0; have fY1 := fY 1; have fY2 := fY 2; have fY3 := fY 3; clear fY)
        exact ⟨doub_alloc (doub_store HT4.out HC4.out HB4.out (by omega) (by omega) hlt HM3.out) _, by simp [intOf]; omega⟩
    · obtain rfl : k = kk := by omega
      clear hlt hm
      obtain ⟨S2, hS2⟩ : ∃ S2, S2 = srtt' S 100 := ⟨_, rfl⟩
      obtain ⟨V2, hV2⟩ : ∃ V2, V2 = var' S V 100 := ⟨_, rfl⟩
      obtain ⟨T2, hT2⟩ : ∃ T2, T2 = wait' S V 100 := ⟨_, rfl⟩
      have HS2 := Lib.hid hS2; have HV2 := Lib.hid hV2; have HT2 := Lib.hid hT2
      clear hS2 hV2 hT2
      go_wp2_with (first
        | (go_at_call 15; ((with_reducible refine (next_ok S V u k 100 S2 V2 T2 _ HM2.out HX.out HS2.out HV2.out HT2.out).mono ?_)); rintro e w5 ⟨rfl, hb5⟩; have HT5 := Lib.hid (HT.out.below hb5); have HC5 := Lib.hid (HC.out.below hb5); have HB5 : Hid (Below w.heap.size w w5) := Lib.hid (bthen HW.out hb5); clear hb5; obtain ⟨lX, cX0, cX1, cX2, cX3, fX⟩ := (HT5.out).cells; have fX0 := fX 0; have fX1 := fX 1; have fX2 := fX 2; have fX3 := fX 3; clear fX; obtain ⟨lY, cY0, cY1, cY2, cY3, fY⟩ := (HC5.out).cells; have fY0 := fY 0; have fY1 := fY 1; have fY2 := fY 2; have fY3 := fY 3; clear fY)
        | (go_at_call 15; ((with_reducible refine (next_ok S V T 0 100 S2 V2 T2 _ HM'.out HX.out HS2.out HV2.out HT2.out).mono ?_)); rintro e w6 ⟨rfl, hb6⟩; have HT6 := Lib.hid ((HT5.out.below (ba1 _ _)).below hb6); have HA6 := Lib.hid ((box4_new w5 S2 V2 T2 0).below hb6); have HB6 : Hid (Below w.heap.size w w6) := Lib.hid (bthen (HB5.out.alloc HB5.out.size _) hb6); clear hb6; obtain ⟨lP, cP0, cP1, cP2, cP3, fP⟩ := (HT6.out).cells; have fP0 := fP 0; have fP1 := fP 1; have fP2 := fP 2; have fP3 := fP 3; clear fP; obtain ⟨lQ, cQ0, cQ1, cQ2, cQ3, fQ⟩ := (HA6.out).cells; have fQ0 := fQ 0; have fQ1 := fQ 1; have fQ2 := fQ 2; have fQ3 := fQ 3; clear fQ))
      go_ret
      exact ⟨rfl, HB6.out.alloc HB6.out.size _⟩

end Go.Proofs.Ytoidpnmllmkaeaa
