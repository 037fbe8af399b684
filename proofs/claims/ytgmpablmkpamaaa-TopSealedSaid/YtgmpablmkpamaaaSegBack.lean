/-
  The walk of SegBack: a segment comes back from its bytes.
-/
import Derived.Test.YtgmpablmkpamaaaSegSees
namespace Go.Proofs.Ytgmpablmkpamaaa
open Go.RowKit Go.Shelf
set_option linter.unusedVariables false
set_option linter.unusedSimpArgs false

set_option maxRecDepth 100000 in
set_option maxHeartbeats 8000000 in
theorem walkSegBack (a b c flags : Int) (A : Option Addr) (n cc : Nat) (zs : List Int) (Dd : Option Addr) (nd cd : Nat) (ds : List Int) (w : World) (a1 : -9223372036854775808 ≤ a) (a2 : a ≤ 9223372036854775807) (b1 : -9223372036854775808 ≤ b) (b2 : b ≤ 9223372036854775807) (c1 : -9223372036854775808 ≤ c) (c2' : c ≤ 9223372036854775807) (f1' : -9223372036854775808 ≤ flags) (f2' : flags ≤ 9223372036854775807)
    (hz : Is w A zs) (hn : zs.length = n) (hncc : n ≤ cc) (hcc47 : cc ≤ 17592186043904) (hd : Bs w Dd ds) (hnd : ds.length = nd) (hcd : nd ≤ cd) (hcd47 : cd ≤ 140737488351232) :
    Calls Try.prog 5 #[.int .i64 a, .int .i64 b, .int .i64 c, .int .i64 flags, .slice A n cc, .slice Dd nd cd] w fun e w' => e = .returned (.bool true) ∧ Below w.heap.size w w' := by
  have HSG : Hid (Calls Try.prog 15 #[.int .i64 a, .int .i64 b, .int .i64 c, .int .i64 flags, .slice A n cc, .slice Dd nd cd] w (RetSeg flags w)) := Lib.hid (seg_any a b c flags A n cc zs Dd nd cd ds w a1 a2 b1 b2 c1 c2' f1' f2' hz hn (by omega) hd hnd hcd (by omega))
  clear hz hn hncc hcc47 hd hnd hcd hcd47
  go_enter Try.func5, Try.ntmps5
  go_upto_region 2 with (go_at_call 15; refine HSG.out.mono ?_; rintro e w1 ⟨seq, ack, win, f0, f1, f2, f3, l, da, A1, q, k1, D1, m, d1, rfl, ho1, hf1, hfl, hb1⟩; obtain ⟨N, hN⟩ : ∃ N, 10 + 4 * q + m = N := ⟨_, rfl⟩; obtain ⟨X, hX⟩ : ∃ X, X = bytesOf ⟨seq, ack, win, f0, f1, f2, f3, l, da⟩ := ⟨_, rfl⟩; have hq3 := (fault_zero hf1).2.2.2.1; have hm3 := (fault_zero hf1).2.2.2.2.1; have hq4 : q ≤ 3 := (by rw [← ho1.1.1]; exact hq3); have hm4 : m ≤ 64 := (by rw [← ho1.2.2.1]; exact hm3); have hN10 : 10 ≤ N := (by omega); have hN86 : N ≤ 100 := (by omega); have HEN : Hid (∀ w' : World, SegIs w' ⟨seq, ack, win, f0, f1, f2, f3, l, da⟩ A1 q D1 m → Calls Try.prog 9 #[.agg #[.int .i64 seq, .int .i64 ack, .int .i64 win, .bool f0, .bool f1, .bool f2, .bool f3, .slice A1 q k1, .slice D1 m d1]] w' (RetE w' N X)) := Lib.hid (fun w' h => by rw [hX]; exact encode_ok ⟨seq, ack, win, f0, f1, f2, f3, l, da⟩ A1 q k1 D1 m d1 N w' h hf1 hN); have HCX : Hid (codeD X = 0) := Lib.hid (by rw [hX]; exact code_bytes _ hf1 ho1.2.1); have HDX : Hid (dec X = ⟨seq, ack, win, f0, f1, f2, f3, l, da⟩) := Lib.hid (by rw [hX]; exact dec_bytes _ hf1); have HQL : Hid (l.length = q ∧ da.length = m) := Lib.hid ⟨ho1.1.1, ho1.2.2.1⟩; have HB1 := Lib.hid hb1; have HO1 := Lib.hid ho1.is; have HF1 := Lib.hid hf1; have HX := Lib.hid hX; have HN := Lib.hid hN; have HDB := Lib.hid ho1.2.1; have HFL := Lib.hid hfl; clear ho1 hf1 hb1 hN hX hq3 hm3 hfl)
  obtain ⟨V1, hV1⟩ : ∃ V1, V1 = w1.alloc (.cells #[.int .i64 seq, .int .i64 ack, .int .i64 win, .bool f0, .bool f1, .bool f2, .bool f3, .slice A1 q k1, .slice D1 m d1] 25) := ⟨_, rfl⟩
  obtain ⟨S, hS⟩ : ∃ S, S = w1.heap.size := ⟨_, rfl⟩
  have hVS : Box9 V1 S (.int .i64 seq) (.int .i64 ack) (.int .i64 win) (.bool f0) (.bool f1) (.bool f2) (.bool f3) (.slice A1 q k1) (.slice D1 m d1) := by rw [hV1, hS]; exact World.alloc_heap_new w1 _
  have HBV : Hid (Below w.heap.size w V1) := Lib.hid (by rw [hV1]; exact HB1.out.alloc HB1.out.size _)
  have HOV : Hid (SegIs V1 ⟨seq, ack, win, f0, f1, f2, f3, l, da⟩ A1 q D1 m) := Lib.hid (by rw [hV1]; exact HO1.out.below (ba1 _ _))
  obtain ⟨lS, k0, k1', k2, k3, k4, k5, k6, k7, k8, -⟩ := hVS.cells
  rw [← hV1, ← hS]
  have HVS := Lib.hid hVS
  clear hV1 hS hVS
  go_upto_region 4 with (first
    | (go_at_call 9; refine (HEN.out _ HOV.out).mono ?_; rintro e w2 ⟨A2, x2, rfl, ho2, hb2⟩; have HO2 := Lib.hid ho2; have HB2 := Lib.hid (bthen HBV.out hb2); have HV2 := Lib.hid (box9_below HVS.out hb2); have HS2 := Lib.hid (HOV.out.below hb2); clear ho2 hb2)
    | (at_builtin; refine wpList_appB rfl _ (.const (.slice none 0 0)) (.tmp 31) rfl w2.heap.size none 0 0 [] rfl (OwnB.nil _ _) A2 N x2 X rfl HO2.out.bs HO2.out.2.1 N (by omega) (by omega) (Nat.le_refl _) ?_; intro A3 x3 w3 ho3 hb3 _; have hcap3 := ho3.cap; have HO3 := Lib.hid ho3; have HB3 := Lib.hid (bthen HB2.out hb3); have HV3 := Lib.hid (box9_below HV2.out hb3); have HS3 := Lib.hid (HS2.out.below hb3); clear ho3 hb3)
    | (go_at_call 12; refine (decode_good A3 N x3 X seq ack win f0 f1 f2 f3 l da q m _ HO3.out.bs HO3.out.2.1 hcap3 (by omega) HCX.out HDX.out HQL.out.1 HQL.out.2).mono ?_; rintro e w4 ⟨Ad, cd', D, d, rfl, ho4, hb4⟩; have HO4 := Lib.hid ho4.is; have HB4 := Lib.hid (bthen HB3.out hb4); have HV4 := Lib.hid (box9_below HV3.out hb4); have HS4 := Lib.hid (HS3.out.below hb4); clear ho4 hb4))
  obtain ⟨V2, hV2⟩ : ∃ V2, V2 = w4.alloc (.cells #[.int .i64 seq, .int .i64 ack, .int .i64 win, .bool f0, .bool f1, .bool f2, .bool f3, .slice Ad q cd', .slice D m d] 25) := ⟨_, rfl⟩
  obtain ⟨S2, hS2⟩ : ∃ S2, S2 = w4.heap.size := ⟨_, rfl⟩
  have hVB : Box9 V2 S2 (.int .i64 seq) (.int .i64 ack) (.int .i64 win) (.bool f0) (.bool f1) (.bool f2) (.bool f3) (.slice Ad q cd') (.slice D m d) := by rw [hV2, hS2]; exact World.alloc_heap_new w4 _
  have hVS2 : Box9 V2 S (.int .i64 seq) (.int .i64 ack) (.int .i64 win) (.bool f0) (.bool f1) (.bool f2) (.bool f3) (.slice A1 q k1) (.slice D1 m d1) := by rw [hV2]; exact box9_below HV4.out (ba1 _ _)
  have HBV2 : Hid (Below w.heap.size w V2) := Lib.hid (by rw [hV2]; exact HB4.out.alloc HB4.out.size _)
  have HSA : Hid (SegIs V2 ⟨seq, ack, win, f0, f1, f2, f3, l, da⟩ A1 q D1 m) := Lib.hid (by rw [hV2]; exact HS4.out.below (ba1 _ _))
  have HSB : Hid (SegIs V2 ⟨seq, ack, win, f0, f1, f2, f3, l, da⟩ Ad q D m) := Lib.hid (by rw [hV2]; exact HO4.out.below (ba1 _ _))
  obtain ⟨lS', j0, j1, j2, j3, j4, j5, j6, j7, j8, -⟩ := hVS2.cells
  obtain ⟨lS2, i0, i1, i2, i3, i4, i5, i6, i7, i8, -⟩ := hVB.cells
  rw [← hV2, ← hS2]
  have zN : (10 : Int) + 4 * (q : Int) + (m : Int) = (N : Int) := by have := HN.out; omega
  have HSM : Hid (Calls Try.prog 16 #[.agg #[.int .i64 seq, .int .i64 ack, .int .i64 win, .bool f0, .bool f1, .bool f2, .bool f3, .slice A1 q k1, .slice D1 m d1], .agg #[.int .i64 seq, .int .i64 ack, .int .i64 win, .bool f0, .bool f1, .bool f2, .bool f3, .slice Ad q cd', .slice D m d]] V2 fun e w'' => e = .returned (.bool true) ∧ Below V2.heap.size V2 w'') := Lib.hid (seg_keep ⟨seq, ack, win, f0, f1, f2, f3, l, da⟩ A1 q k1 D1 m d1 Ad cd' D d V2 HSA.out HSB.out (by omega) (by omega))
  clear hV2 hS2 hVB hVS2 k0 k1' k2 k3 k4 k5 k6 k7 k8
  go_wp2_with (go_at_call 16; refine HSM.out.mono ?_; rintro e w6 ⟨rfl, hb6⟩; have HB6 := Lib.hid (bthen HBV2.out hb6); clear hb6)
  go_ret
  exact ⟨by simp, HB6.out⟩

end Go.Proofs.Ytgmpablmkpamaaa
