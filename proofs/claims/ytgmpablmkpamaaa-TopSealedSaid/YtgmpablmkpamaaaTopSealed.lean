/-
  The walk of TopSealed: a segment bears its sum; a window that is changed along with it is read as it is then.
-/
import Derived.Test.YtgmpablmkpamaaaSegBack
import Derived.Test.YtgmpablmkpamaaaUpd
namespace Go.Proofs.Ytgmpablmkpamaaa
open Go.RowKit Go.Shelf
set_option linter.unusedVariables false
set_option linter.unusedSimpArgs false

set_option maxRecDepth 100000 in
set_option maxHeartbeats 16000000 in
theorem walkTopSealed (a b c : Int) (Dd : Option Addr) (nd cd : Nat) (ds : List Int) (window : Int) (w : World) (a1 : -9223372036854775808 ≤ a) (a2 : a ≤ 9223372036854775807) (b1 : -9223372036854775808 ≤ b) (b2 : b ≤ 9223372036854775807) (c1 : -9223372036854775808 ≤ c) (c2' : c ≤ 9223372036854775807)
    (hd : Bs w Dd ds) (hnd : ds.length = nd) (hcd : nd ≤ cd) (hcd47 : cd ≤ 140737488351232) (t1 : -9223372036854775808 ≤ window) (t2 : window ≤ 9223372036854775807) :
    Calls Try.prog 8 #[.int .i64 a, .int .i64 b, .int .i64 c, .slice Dd nd cd, .int .i64 window] w fun e w' => e = .returned (.bool true) ∧ Below w.heap.size w w' := by
  have HSG : Hid (Calls Try.prog 15 #[.int .i64 a, .int .i64 b, .int .i64 c, .int .i64 8, .slice none 0 0, .slice Dd nd cd] w (RetSeg 8 w)) := Lib.hid (seg_any a b c 8 none 0 0 [] Dd nd cd ds w a1 a2 b1 b2 c1 c2' (by omega) (by omega) (Is.nil _ _) rfl (by omega) hd hnd hcd (by omega))
  clear hd hnd hcd hcd47
  go_enter Try.func8, Try.ntmps8
  go_upto_region 2 with (go_at_call 15; refine HSG.out.mono ?_; rintro e w1 ⟨seq, ack, win, f0, f1, f2, f3, l, da, A1, q, k1, D1, m, d1, rfl, ho1, hf1, hfl, hb1⟩; obtain ⟨N, hN⟩ : ∃ N, 10 + 4 * q + m = N := ⟨_, rfl⟩; obtain ⟨X, hX⟩ : ∃ X, X = bytesOf ⟨seq, ack, win, f0, f1, f2, f3, l, da⟩ := ⟨_, rfl⟩; have hq3 := (fault_zero hf1).2.2.2.1; have hm3 := (fault_zero hf1).2.2.2.2.1; have hq4 : q ≤ 3 := (by rw [← ho1.1.1]; exact hq3); have hm4 : m ≤ 64 := (by rw [← ho1.2.2.1]; exact hm3); have hN10 : 10 ≤ N := (by omega); have hN86 : N ≤ 100 := (by omega); have HEN : Hid (∀ w' : World, SegIs w' ⟨seq, ack, win, f0, f1, f2, f3, l, da⟩ A1 q D1 m → Calls Try.prog 9 #[.agg #[.int .i64 seq, .int .i64 ack, .int .i64 win, .bool f0, .bool f1, .bool f2, .bool f3, .slice A1 q k1, .slice D1 m d1]] w' (RetE w' N X)) := Lib.hid (fun w' h => by rw [hX]; exact encode_ok ⟨seq, ack, win, f0, f1, f2, f3, l, da⟩ A1 q k1 D1 m d1 N w' h hf1 hN); have HCX : Hid (codeD X = 0) := Lib.hid (by rw [hX]; exact code_bytes _ hf1 ho1.2.1); have HDX : Hid (dec X = ⟨seq, ack, win, f0, f1, f2, f3, l, da⟩) := Lib.hid (by rw [hX]; exact dec_bytes _ hf1); have HQL : Hid (l.length = q ∧ da.length = m) := Lib.hid ⟨ho1.1.1, ho1.2.2.1⟩; have HB1 := Lib.hid hb1; have HO1 := Lib.hid ho1.is; have HF1 := Lib.hid hf1; have HX := Lib.hid hX; have HN := Lib.hid hN; have HDB := Lib.hid ho1.2.1; have HFL := Lib.hid hfl; clear ho1 hf1 hb1 hN hX hq3 hm3 hfl)
  obtain ⟨V1, hV1⟩ : ∃ V1, V1 = w1.alloc (.cells #[.int .i64 seq, .int .i64 ack, .int .i64 win, .bool f0, .bool f1, .bool f2, .bool f3, .slice A1 q k1, .slice D1 m d1] 25) := ⟨_, rfl⟩
  obtain ⟨S, hS⟩ : ∃ S, S = w1.heap.size := ⟨_, rfl⟩
  have hVS : Box9 V1 S (.int .i64 seq) (.int .i64 ack) (.int .i64 win) (.bool f0) (.bool f1) (.bool f2) (.bool f3) (.slice A1 q k1) (.slice D1 m d1) := by rw [hV1, hS]; exact World.alloc_heap_new w1 _
  have HBV : Hid (Below w.heap.size w V1) := Lib.hid (by rw [hV1]; exact HB1.out.alloc HB1.out.size _)
  have HOV : Hid (SegIs V1 ⟨seq, ack, win, f0, f1, f2, f3, l, da⟩ A1 q D1 m) := Lib.hid (by rw [hV1]; exact HO1.out.below (ba1 _ _))
  obtain ⟨lS, k0, k1', k2, k3, k4, k5, k6, k7, k8, -⟩ := hVS.cells
  rw [← hV1, ← hS]
  have HVS := Lib.hid hVS
  clear hV1 hS hVS
  go_upto_region 5 with (go_at_call 9; refine (HEN.out _ HOV.out).mono ?_; rintro e w2 ⟨A2, x2, rfl, ho2, hb2⟩; have HO2 := Lib.hid ho2; have HB2 := Lib.hid (bthen HBV.out hb2); have HV2 := Lib.hid (box9_below HVS.out hb2); have HS2 := Lib.hid (HOV.out.below hb2); clear ho2 hb2)
  have HO2s := HO2.out
  obtain ⟨g, rfl, hg0, hg1⟩ := HO2s.some_ (by omega)
  obtain ⟨v8, h8⟩ : ∃ v, v = X.getD 8 0 := ⟨_, rfl⟩
  obtain ⟨v9, h9⟩ : ∃ v, v = X.getD 9 0 := ⟨_, rfl⟩
  have b8 := getD_bd X HO2s.1 8; have b9 := getD_bd X HO2s.1 9
  have u8 := HO2s.cell 8 (by omega); have u9 := HO2s.cell 9 (by omega)
  rw [← h8] at b8 u8
  rw [← h9] at b9 u9
  have zor := or8 v8 v9 b8.1 (by omega) b9.1 b9.2
  have hs0 : Hid (v8 * 256 + v9 = wd X 8) := Lib.hid (by rw [wd, ← h8, ← h9]; omega)
  obtain ⟨wv, hwv⟩ : ∃ r, Hid (r = window % 65536) := ⟨_, Lib.hid rfl⟩
  have wv0 : 0 ≤ wv := by rw [hwv.out]; omega
  have wv1 : wv ≤ 65535 := by rw [hwv.out]; omega
  have hwin := (fault_zero HF1.out).2.2.1
  simp only at hwin
  obtain ⟨M, hM⟩ : ∃ M, M = mended (v8 * 256 + v9) win wv := ⟨_, rfl⟩
  have hM2 : M = 65535 - fo (65535 - wd X 8 + 65535 - win + wv) := by rw [hM, mended, hs0.out]
  have hsum8 : 0 ≤ wd X 8 ∧ wd X 8 ≤ 65535 := by rw [← hs0.out]; omega
  have hMb : 0 ≤ M ∧ M ≤ 65535 := by
    have := fo_bd (65535 - wd X 8 + 65535 - win + wv) (by omega)
    omega
  have hf3 : f3 = true := by simpa using HFL.out
  have n8 : (8 : Int) < (N : Int) := by omega
  have n9 : (9 : Int) < (N : Int) := by omega
  have n8' : 8 < N := by omega
  have n9' : 9 < N := by omega
  have HUP : Hid (∀ w' : World, Calls Try.prog 20 #[.int .i64 (v8 * 256 + v9), .int .i64 win, .int .i64 wv] w' fun e w'' => e = .returned (.tuple #[.int .i64 M, .int .i64 0]) ∧ Below w'.heap.size w' w'') := Lib.hid (fun w' => by rw [hM]; exact update_ok _ _ _ w' (by omega) (by omega) hwin.1 hwin.2 wv0 wv1)
  obtain ⟨Y, hY⟩ : ∃ Y, Y = bytesOf { seq := seq, ack := ack, win := wv, f0 := f0, f1 := f1, f2 := f2, f3 := f3, sacks := l, data := da } := ⟨_, rfl⟩
  obtain ⟨hYe, hfY⟩ := mended_bytes ⟨seq, ack, win, f0, f1, f2, f3, l, da⟩ wv M HF1.out HDB.out hf3 wv0 wv1 (by rw [← HX.out]; exact hM2)
  have HYE : Hid (((((X.set 4 (wv / 256)).set 5 (wv % 256)).set 8 (M / 256)).set 9 (M % 256)) = Y) := Lib.hid (by rw [hY, HX.out]; exact hYe)
  have HCY : Hid (codeD Y = 0) := Lib.hid (by rw [hY]; exact code_bytes _ hfY HDB.out)
  have HDY : Hid (dec Y = ⟨seq, ack, wv, f0, f1, f2, f3, l, da⟩) := Lib.hid (by rw [hY]; exact dec_bytes _ hfY)
  have zw1 : IntKind.i64.wrap v8 = v8 := wraps_i64 _ (by omega) (by omega)
  have zw2 : IntKind.i64.wrap v9 = v9 := wraps_i64 _ (by omega) (by omega)
  have zw3 : IntKind.i64.wrap (v8 * 256) = v8 * 256 := wraps_i64 _ (by omega) (by omega)
  have zw4 : IntKind.i64.wrap (v8 * 256 + v9) = v8 * 256 + v9 := wraps_i64 _ (by omega) (by omega)
  have hfold : Hid (fo (tot 0 X) = 65535) := Lib.hid (by rw [HX.out]; exact sealed_fo _ HF1.out HDB.out)
  obtain ⟨lS', j0, j1, j2, j3, j4, j5, j6, j7, j8, -⟩ := HV2.out.cells
  have qm1 : wv / 256 % 256 = wv / 256 := by omega
  have qm2 : M / 256 % 256 = M / 256 := by omega
  clear h8 h9 hM hM2 hY hYe hfY HO2s hf3 k0 k1' k2 k3 k4 k5 k6 k7 k8
  by_cases hev : (N : Int) % 2 = 0
  rotate_left
  all_goals
    have hevb : ((N : Int) % 2 == 0) = true ∨ ((N : Int) % 2 == 0) = false := by cases ((N : Int) % 2 == 0) <;> simp
    have HEV := Lib.hid hev
    first
      | (have zev : ((N : Int) % 2 == 0) = true := by rw [beq_iff_eq]; exact hev)
      | (have zev : ((N : Int) % 2 == 0) = false := by rw [beq_eq_false_iff_ne]; exact hev)
    clear hev hevb
    go_upto_region 8 with (first
      | (go_at_call 19; refine (fold_any _ N x2 X _ HO2.out.bs HO2.out.2.1 (by omega)).mono ?_; rw [hfold.out]; rintro e w' ⟨rfl, rfl⟩)
      | (go_at_call 17; (refine (picked_v window 65536 wv _ hwv t1 t2 (by decide) (by decide)).mono ?_); rintro e w' ⟨rfl, rfl⟩))
    go_cut [15, 16] (fun s f wc => s = .int .i64 M ∧ f = .int .i64 0 ∧ Below w2.heap.size w2 wc)
    case first =>
      go_region_law (go_simp; go_at_call 20; (with_reducible refine (HUP.out _).mono ?_); rintro e w3 ⟨rfl, hb3⟩; have HB3 : Hid (Below w2.heap.size w2 w3) := Lib.hid ((Below.refl _ _).drew.trans hb3); clear hb3)
      all_goals
        go_wp2_with fail
        go_meet
        exact ⟨rfl, rfl, HB3.out⟩
    case rest =>
      obtain ⟨rfl, rfl, hb3⟩ := hcut
      have HB3 := Lib.hid (bthen HB2.out hb3)
      have HV3 := Lib.hid (box9_below HV2.out hb3)
      have HS3 := Lib.hid (HS2.out.below hb3)
      have HO3 := Lib.hid (HO2.out.below hb3)
      clear hb3 u8 u9 zor zw1 zw2 zw3 zw4 j0 j1 j2 j3 j4 j5 j6 j7 j8
      go_upto_region 10 with (at_builtin; refine wpList_appB rfl _ (.const (.slice none 0 0)) (.tmp 65) rfl wc.heap.size none 0 0 [] rfl (OwnB.nil _ _) (some ⟨g, 0, none⟩) N x2 X rfl HO3.out.bs HO3.out.2.1 N (by omega) (by omega) (Nat.le_refl _) ?_; intro A4 x4 w4 ho4 hb4 _; have hcap4 := ho4.cap; have HO4 := Lib.hid ho4; have HB4 := Lib.hid (bthen HB3.out hb4); have HV4 := Lib.hid (box9_below HV3.out hb4); have HS4 := Lib.hid (HS3.out.below hb4); have HBB4 := Lib.hid hb4; clear ho4 hb4)
      obtain ⟨h, hh, hh0, hh1⟩ := HO4.out.some_ (by omega)
      subst hh
      have c4 := HO4.out.cell 4 (by omega); have c5 := HO4.out.cell 5 (by omega); have c8 := HO4.out.cell 8 (by omega); have c9 := HO4.out.cell 9 (by omega)
      have e4 := HO4.out.soft 4; have e5 := HO4.out.soft 5; have e8 := HO4.out.soft 8; have e9 := HO4.out.soft 9
      obtain ⟨p1, p2⟩ := HO4.out.put 4 (wv / 256) (by omega)
      obtain ⟨p3, p4⟩ := p1.put 5 (wv % 256) (by omega)
      obtain ⟨p5, p6⟩ := p3.put 8 (M / 256) (by omega)
      obtain ⟨p7, p8⟩ := p5.put 9 (M % 256) (by omega)
      have PP := Lib.hid p7
      have PB := Lib.hid (((p2.trans p4).trans p6).trans p8)
      clear p1 p2 p3 p4 p5 p6 p7 p8
      go_upto_region 14 with fail
      obtain ⟨w5, hw5⟩ : ∃ w5, w5 = ((((w4.setCell ⟨h, 4, none⟩ (.int .u8 (wv / 256))).setCell ⟨h, 5, none⟩ (.int .u8 (wv % 256))).setCell ⟨h, 8, none⟩ (.int .u8 (M / 256))).setCell ⟨h, 9, none⟩ (.int .u8 (M % 256))) := ⟨_, rfl⟩
      have HO5 : Hid (OwnB w5 wc.heap.size (some ⟨h, 0, none⟩) N x4 Y) := Lib.hid (by rw [hw5, ← HYE.out]; exact PP.out)
      have hbb5 : Below wc.heap.size w4 w5 := by rw [hw5]; exact PB.out
      have hbc5 : Below wc.heap.size wc w5 := HBB4.out.trans hbb5
      have HB5 := Lib.hid (bthen HB3.out hbc5)
      have HV5 := Lib.hid (box9_below HV3.out hbc5)
      have HS5 := Lib.hid (HS3.out.below hbc5)
      rw [← hw5]
      clear hw5 hbb5 hbc5 c4 c5 c8 c9 e4 e5 e8 e9
      go_upto_region 15 with (go_at_call 12; refine (decode_good (some ⟨h, 0, none⟩) N x4 Y seq ack wv f0 f1 f2 f3 l da q m _ HO5.out.bs HO5.out.2.1 hcap4 (by omega) HCY.out HDY.out HQL.out.1 HQL.out.2).mono ?_; rintro e w6 ⟨Ad, cd', D, d, rfl, ho6, hb6⟩; have HO6 := Lib.hid ho6.is; have HB6 := Lib.hid (bthen HB5.out hb6); have HV6 := Lib.hid (box9_below HV5.out hb6); have HS6 := Lib.hid (HS5.out.below hb6); clear ho6 hb6)
      obtain ⟨V2, hV2⟩ : ∃ V2, V2 = w6.alloc (.cells #[.int .i64 seq, .int .i64 ack, .int .i64 wv, .bool f0, .bool f1, .bool f2, .bool f3, .slice Ad q cd', .slice D m d] 25) := ⟨_, rfl⟩
      obtain ⟨S2, hS2⟩ : ∃ S2, S2 = w6.heap.size := ⟨_, rfl⟩
      have hVB : Box9 V2 S2 (.int .i64 seq) (.int .i64 ack) (.int .i64 wv) (.bool f0) (.bool f1) (.bool f2) (.bool f3) (.slice Ad q cd') (.slice D m d) := by rw [hV2, hS2]; exact World.alloc_heap_new w6 _
      have hVS2 : Box9 V2 S (.int .i64 seq) (.int .i64 ack) (.int .i64 win) (.bool f0) (.bool f1) (.bool f2) (.bool f3) (.slice A1 q k1) (.slice D1 m d1) := by rw [hV2]; exact box9_below HV6.out (ba1 _ _)
      have HBV2 : Hid (Below w.heap.size w V2) := Lib.hid (by rw [hV2]; exact HB6.out.alloc HB6.out.size _)
      have HSA : Hid (Bs V2 D1 da) := Lib.hid (by rw [hV2]; exact (HS6.out.below (ba1 _ _)).2.2.1)
      have HSB : Hid (Bs V2 D da) := Lib.hid (by rw [hV2]; exact (HO6.out.below (ba1 _ _)).2.2.1)
      obtain ⟨lS', j0, j1, j2, j3, j4, j5, j6, j7, j8, -⟩ := hVS2.cells
      obtain ⟨lS2, i0, i1, i2, i3, i4, i5, i6, i7, i8, -⟩ := hVB.cells
      rw [← hV2, ← hS2]
      clear hV2 hS2 hVB hVS2
      go_wp2_with (go_at_call 21; refine (bytes_top D m d D1 d1 da _ HSB.out HSA.out HQL.out.2 (by omega)).mono ?_; rintro e w7 ⟨rfl, hb7⟩; have HB7 := Lib.hid (bthen HBV2.out hb7); clear hb7)
      go_ret
      exact ⟨by simp, HB7.out⟩

end Go.Proofs.Ytgmpablmkpamaaa
