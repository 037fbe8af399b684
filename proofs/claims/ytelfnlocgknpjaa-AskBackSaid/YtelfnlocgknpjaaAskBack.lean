/-
  AskBack.
-/
import Derived.Test.YtelfnlocgknpjaaMReqOf
import Derived.Test.YtelfnlocgknpjaaAppG
namespace Go.Proofs.Ytelfnlocgknpjaa
open Go.RowKit
set_option linter.unusedVariables false
set_option linter.unusedSimpArgs false

set_option maxRecDepth 100000 in
set_option maxHeartbeats 16000000 in
theorem walkAskBack (kind mark a b : Int) (D : Option Addr) (dn dc : Nat) (ds : List Int) (cut : Int) (M : Option Addr) (mn mc : Nat) (ms : List Int) (w : World)
    (hk0 : -9223372036854775808 ≤ kind) (hk1 : kind ≤ 9223372036854775807) (hm0 : -9223372036854775808 ≤ mark) (hm1 : mark ≤ 9223372036854775807) (ha0 : -9223372036854775808 ≤ a) (ha1 : a ≤ 9223372036854775807) (hb0 : -9223372036854775808 ≤ b) (hb1 : b ≤ 9223372036854775807)
    (hd : Ls byS w D ds) (hdn : ds.length = dn) (hdc : dn ≤ dc) (hdr : dc ≤ 140737488351232) (hdo : ∀ z ∈ ds, 0 ≤ z ∧ z ≤ 255) (hc0 : -9223372036854775808 ≤ cut) (hc1 : cut ≤ 9223372036854775807)
    (hm : Ls byS w M ms) (hmn : ms.length = mn) (hmc : mn ≤ mc) (hmr : mc ≤ 140737488351232) (hmo : ∀ z ∈ ms, 0 ≤ z ∧ z ≤ 255) :
    Calls Try.prog 7 #[.int .i64 kind, .int .i64 mark, .int .i64 a, .int .i64 b, .slice D dn dc, .int .i64 cut, .slice M mn mc] w fun e w' => e = .returned (.bool true) ∧ Below w.heap.size w w' := by
  have HRO := Lib.hid (reqOf_any kind mark a b D dn dc ds w hk0 hk1 hm0 hm1 ha0 ha1 hb0 hb1 hd hdn hdc hdr hdo)
  have HM := Lib.hid hm
  have HMN := Lib.hid hmn
  have HMO : Hid (Oct ms) := Lib.hid hmo
  clear hd hdn hdc hdr hdo hm hmn hmo
  go_enter Try.func7, Try.ntmps7
  go_upto_region 2 with (go_at_call 21; (with_reducible refine HRO.out.mono ?_); rintro e w1 ⟨hb1', x, rfl, hfi⟩; have HB1 := Lib.hid hb1'; have HFI := Lib.hid hfi; clear hb1' hfi)
  obtain ⟨w2, hw2⟩ : ∃ w2, w2 = w1.alloc (.cells #[.int .i64 x.kd, .int .i64 x.mrk, .string (tx x.p), .string (tx x.q), .int .i64 x.how, .int .i64 x.han, .int .i64 x.a, .int .i64 x.c, .slice x.D x.m x.d] 24) := ⟨_, rfl⟩
  obtain ⟨X, hX⟩ : ∃ X, X = w1.heap.size := ⟨_, rfl⟩
  have HB2 : Hid (Below w1.heap.size w1 w2) := Lib.hid (by rw [hw2]; exact ba1 _ _)
  have HX2 : Hid (Bx 24 w2 X #[.int .i64 x.kd, .int .i64 x.mrk, .string (tx x.p), .string (tx x.q), .int .i64 x.how, .int .i64 x.han, .int .i64 x.a, .int .i64 x.c, .slice x.D x.m x.d]) := Lib.hid (by rw [hw2, hX]; exact bx_new _ _ _)
  have HBW : Hid (Below w.heap.size w w2) := Lib.hid (bthen HB1.out HB2.out)
  have HIN2 := Lib.hid (HFI.out.1.1.below HB2.out)
  obtain ⟨L, hL⟩ : ∃ L, L = askC x.G x.kd := ⟨_, rfl⟩
  obtain ⟨n, hn⟩ : ∃ n, n = L.length := ⟨_, rfl⟩
  have HF := Lib.hid HFI.out.2
  have hk10 := (faultC_zero HF.out).1
  have HLO : Hid (Oct L) := Lib.hid (by rw [hL]; exact askC_oct x.ptyped fun zs h => by injection h with h; rw [← h]; exact HFI.out.1.2)
  have hn10 : n ≤ 1010 := by rw [hn, hL]; exact askC_len x.ptyped HF.out
  have hn5 : 5 ≤ n := by
    obtain ⟨r, hr, hl⟩ := askC_head (g := x.G) (kd := x.kd) rfl hk10 x.ptyped
    rw [hn, hL, hr, List.length_cons]; omega
  have HASK := Lib.hid (ask_x x w2 HIN2.out HF.out)
  have HA0 : Hid ((askedT L).1 = 0 ∧ ∀ o, o < 9 → (askedT L).2 o = x.G o) := Lib.hid (by rw [hL]; exact asked_ask x.ptyped rfl HF.out)
  have HAC : Hid (∀ j, j < n → (askedT (L.take j)).1 = 5) := Lib.hid (fun j hj => by rw [hL]; exact asked_cut x.ptyped rfl HF.out j (by rw [← hL, ← hn]; exact hj))
  have HAM : Hid ((askedT (L ++ 0 :: ms)).1 = 4) := Lib.hid (by rw [hL]; exact asked_more x.ptyped rfl HF.out 0 ms)
  rw [← hL] at HASK
  have HN := Lib.hid hn
  rw [← hw2, ← hX]
  obtain ⟨lX, b0, b1, b2, b3, b4, b5, b6, b7, b8, -⟩ := HX2.out.cells9
  clear hw2 hX hL hn hk10
  go_upto_region 3 with (go_at_call 10; (with_reducible refine HASK.out.mono ?_); rintro e w3 ⟨hb3, A3, n3, c3, rfl, ho3⟩; obtain rfl : n3 = n := ho3.1.symm.trans HN.out.symm; have HB3 := Lib.hid hb3; have HO3 := Lib.hid ho3; clear hb3 ho3)
  have hc3 := HO3.out.caps
  have HX3 := Lib.hid (HX2.out.below HB3.out)
  have HLN : Hid (L.length = n3) := Lib.hid HN.out.symm
  have HIN3 := Lib.hid (HIN2.out.below HB3.out)
  have HBW3 : Hid (Below w.heap.size w w3) := Lib.hid (bthen HBW.out HB3.out)
  have HLS3 := Lib.hid HO3.out.ls
  clear lX b0 b1 b2 b3 b4 b5 b6 b7 b8
  go_upto_region 4 with (first
    | (at_builtin; refine wpList_appG (F := byS) rfl w3 (.const (.slice none 0 0)) (.tmp 36) 22 rfl _ 1 Try.underlying22 byInfo rfl w3.heap.size none 0 0 [] rfl (OwnL.nil _ _) A3 n3 c3 L rfl HLS3.out HLN.out n3 (by omega) (by omega) (by omega) (Nat.le_refl _) ?_; intro A4 c4 w4 ho4 hb4 _; rw [List.nil_append] at ho4; have HO4 := Lib.hid ho4; have HB4 := Lib.hid hb4; have hc4 := HO4.out.caps; clear ho4 hb4)
    | (go_at_call 13; (with_reducible refine (asked_x A4 n3 c4 L 0 w4 HO4.out.ls HLN.out hc4.1 hc4.2 HLO.out HA0.out.1).mono ?_); rintro e w5 ⟨hb5, y, rfl, hin, hg⟩; have HB5 := Lib.hid hb5; have HINY := Lib.hid hin; have HG := Lib.hid (fun o (h : o < 9) => (HA0.out.2 o h).symm.trans (hg o h)); clear hb5 hin hg))
  obtain ⟨w6, hw6⟩ : ∃ w6, w6 = w5.alloc (.cells #[.int .i64 y.kd, .int .i64 y.mrk, .string (tx y.p), .string (tx y.q), .int .i64 y.how, .int .i64 y.han, .int .i64 y.a, .int .i64 y.c, .slice y.D y.m y.d] 24) := ⟨_, rfl⟩
  obtain ⟨Y, hY⟩ : ∃ Y, Y = w5.heap.size := ⟨_, rfl⟩
  have HB6 : Hid (Below w5.heap.size w5 w6) := Lib.hid (by rw [hw6]; exact ba1 _ _)
  have hy6 : Bx 24 w6 Y #[.int .i64 y.kd, .int .i64 y.mrk, .string (tx y.p), .string (tx y.q), .int .i64 y.how, .int .i64 y.han, .int .i64 y.a, .int .i64 y.c, .slice y.D y.m y.d] := by rw [hw6, hY]; exact bx_new _ _ _
  have HB36 : Hid (Below w3.heap.size w3 w6) := Lib.hid (bthen HB4.out (bthen HB5.out HB6.out))
  obtain ⟨lY, y0, y1, y2, y3, y4, y5, y6, y7, y8, -⟩ := hy6.cells9
  have hx6 := HX3.out.below HB36.out
  obtain ⟨lX, b0, b1, b2, b3, b4, b5, b6, b7, b8, -⟩ := hx6.cells9
  have HXM : Hid (x.m ≤ 100) := Lib.hid (by
    have h := HIN3.out.2
    have hz : x.kd = 4 ∨ x.zs = [] := by
      by_cases h4 : x.kd = 4
      · exact .inl h4
      · right
        have hk := (faultC_zero HF.out).1
        have hz := zero_of x.ptyped rfl HF.out 8 (by omega) (fun p hp e => by
          obtain ⟨j, hj⟩ := List.getElem?_of_mem hp
          obtain ⟨o, h1, h2, h3⟩ := (good_parts 0 x.kd).loc j p hj
          unfold partsOf namedBy at hp
          repeat' split at hp
          all_goals first | omega | (simp [at_] at hp; rcases hp with rfl | rfl | rfl | rfl | rfl <;> simp [Pt.adr] at e) | (simp [at_] at hp; rcases hp with rfl | rfl | rfl | rfl <;> simp [Pt.adr] at e) | (simp [at_] at hp; rcases hp with rfl | rfl | rfl <;> simp [Pt.adr] at e))
        have hz' : PC.d [] = PC.d x.zs := hz
        injection hz' with hz'
        exact hz'.symm
    rcases hz with h4 | h4
    · have hc := (faultC_zero HF.out).2.2 (.dat (at_ 0 8)) (by rw [h4]; unfold partsOf namedBy; simp)
      have hc' : (if 100 < x.zs.length then (1 : Int) else 0) = 0 := hc
      rw [← h]
      split at hc' <;> omega
    · rw [h4] at h; simp at h; omega)
  have HSQ : Hid (Calls Try.prog 22 #[.agg #[.int .i64 x.kd, .int .i64 x.mrk, .string (tx x.p), .string (tx x.q), .int .i64 x.how, .int .i64 x.han, .int .i64 x.a, .int .i64 x.c, .slice x.D x.m x.d], .agg #[.int .i64 y.kd, .int .i64 y.mrk, .string (tx y.p), .string (tx y.q), .int .i64 y.how, .int .i64 y.han, .int .i64 y.a, .int .i64 y.c, .slice y.D y.m y.d]] w6 fun e w' => e = .returned (.bool true) ∧ Below w6.heap.size w6 w') := Lib.hid (reqK_x x y w6 (HIN3.out.below HB36.out) (HINY.out.below HB6.out) HG.out (by have := HXM.out; omega))
  rw [← hw6, ← hY]
  clear hw6 hY hy6 hx6
  have HBW6 : Hid (Below w.heap.size w w6) := Lib.hid (bthen HBW3.out HB36.out)
  have HLS6 := Lib.hid (HLS3.out.below HB36.out)
  obtain ⟨j, HJ, hjn⟩ := pick_nat cut n3 (by omega)
  have HPJ := Lib.hid (fun wx => picked_n cut n3 j wx HJ hc0 hc1 (by omega) (by omega))
  have HJL : Hid ((L.take j).length = j) := Lib.hid (by rw [List.length_take, HLN.out]; omega)
  have g5 : ¬ ((n3 : Int) < 5) := by omega
  have g1024 : ¬ ((1024 : Int) < (n3 : Int)) := by omega
  go_upto_region 6 with (go_at_call 22; (with_reducible refine HSQ.out.mono ?_); rintro e w7 ⟨rfl, hb7⟩; have HB7 := Lib.hid hb7; clear hb7)
  have hjc : (j : Int) ≤ (c3 : Int) := by omega
  have HJO : Hid (Oct (L.take j)) := Lib.hid (fun z hz => HLO.out z (List.mem_of_mem_take hz))
  have HJ5 : Hid ((askedT (L.take j)).1 = 5) := Lib.hid (HAC.out j (by omega))
  have HLS7 := Lib.hid (HLS6.out.below HB7.out)
  go_upto_region 7 with (first
    | (go_at_call 23; (with_reducible refine (HPJ.out _).mono ?_); rintro e w1' ⟨rfl, rfl⟩)
    | (go_at_call 13; (with_reducible refine (asked_x A3 j c3 (L.take j) 5 w7 (HLS7.out.take j) HJL.out (by omega) (by omega) HJO.out HJ5.out).mono ?_); rintro e w8 ⟨hb8, z, rfl, -, -⟩; have HB8 := Lib.hid hb8; clear hb8))
  obtain ⟨w9, hw9⟩ : ∃ w9, w9 = w8.alloc (.cells #[.int .i64 z.kd, .int .i64 z.mrk, .string (tx z.p), .string (tx z.q), .int .i64 z.how, .int .i64 z.han, .int .i64 z.a, .int .i64 z.c, .slice z.D z.m z.d] 24) := ⟨_, rfl⟩
  have HB9 : Hid (Below w.heap.size w w9) := Lib.hid (bthen HBW6.out (bthen HB7.out (bthen HB8.out (by rw [hw9]; exact ba1 _ _))))
  have HLS9 : Hid (Ls byS w9 A3 L) := Lib.hid (HLS7.out.below (bthen HB8.out (by rw [hw9]; exact ba1 _ _)))
  have HM9 := Lib.hid (HM.out.below HB9.out)
  rw [← hw9]
  clear hw9
  have HL1 : Hid ((L ++ [0]).length = n3 + 1) := Lib.hid (by rw [List.length_append, HLN.out]; rfl)
  have HEQ : Hid (L ++ [0] ++ ms = L ++ 0 :: ms) := Lib.hid (by rw [List.append_assoc]; rfl)
  have HLQ : Hid ((L ++ 0 :: ms).length = n3 + 1 + mn) := Lib.hid (by rw [List.length_append, List.length_cons, HLN.out, HMN.out]; omega)
  have HOQ : Hid (Oct (L ++ 0 :: ms)) := Lib.hid (fun z hz => by
    rcases List.mem_append.1 hz with h | h
    · exact HLO.out z h
    · rcases List.mem_cons.1 h with rfl | h
      · omega
      · exact HMO.out z h)
  go_wp2_with (first
    | (at_builtin; refine wpList_appG (F := byS) rfl w9 (.const (.slice none 0 0)) (.tmp 74) 22 rfl _ 1 Try.underlying22 byInfo rfl w9.heap.size none 0 0 [] rfl (OwnL.nil _ _) A3 n3 c3 L rfl HLS9.out HLN.out n3 (by omega) (by omega) (by omega) (Nat.le_refl _) ?_; intro A10 c10 w10 ho10 hb10 _; rw [List.nil_append] at ho10; have HO10 := Lib.hid ho10; have HB10 := Lib.hid hb10; clear ho10 hb10)
    | (at_builtin; refine wpList_appL (F := byS) rfl _ (.tmp 75) (.tmp 76) 22 rfl _ 1 Try.underlying22 byInfo rfl w9.heap.size A10 n3 c10 L rfl (HO10.out.below (ba1 _ _)) (some ⟨w10.heap.size, 0, none⟩) 1 1 [0] rfl (ls_new w10 _ _ _ rfl _ rfl) rfl (n3 + 1) rfl (by omega) (by omega) (by have := HB10.out.size; simp; omega) ?_; intro A11 c11 w11 ho11 hb11 _; have HO11 := Lib.hid ho11; have HB11 : Hid (Below w9.heap.size w9 w11) := Lib.hid ((HB10.out.alloc HB10.out.size _).trans hb11); clear ho11 hb11)
    | (at_builtin; refine wpList_appG (F := byS) rfl w11 (.tmp 77) (.tmp 78) 22 rfl _ 1 Try.underlying22 byInfo rfl w9.heap.size A11 (n3 + 1) c11 (L ++ [0]) rfl HO11.out M mn mc ms rfl (HM9.out.below HB11.out) HMN.out (n3 + 1 + mn) (by omega) (by omega) (by omega) HB11.out.size ?_; intro A12 c12 w12 ho12 hb12 _; rw [HEQ.out] at ho12; have HO12 := Lib.hid ho12; have HB12 : Hid (Below w9.heap.size w9 w12) := Lib.hid (HB11.out.trans hb12); have hc12 := HO12.out.caps; clear ho12 hb12)
    | (go_at_call 13; (with_reducible refine (asked_x A12 (n3 + 1 + mn) c12 (L ++ 0 :: ms) 4 w12 HO12.out.ls HLQ.out hc12.1 hc12.2 HOQ.out HAM.out).mono ?_); rintro e w13 ⟨hb13, u, rfl, -, -⟩; have HB13 := Lib.hid hb13; clear hb13))
  go_ret
  exact ⟨rfl, HB9.out.trans ((HB12.out.mono HB9.out.size).trans (HB13.out.mono (Nat.le_trans HB9.out.size HB12.out.size) |>.alloc (Nat.le_trans HB9.out.size (Nat.le_trans HB12.out.size HB13.out.size)) _))⟩

end Go.Proofs.Ytelfnlocgknpjaa
