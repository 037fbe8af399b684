/-
  The walk of FrameLong.
-/
import Derived.Test.YtmeppeedbnnmjaaFrameKeep
namespace Go.Proofs.Ytmeppeedbnnmjaa
open Go.RowKit
set_option linter.unusedVariables false
set_option linter.unusedSimpArgs false

set_option maxRecDepth 100000 in
set_option maxHeartbeats 2000000 in
theorem walkFrameLong (L : Option Addr) (n c : Nat) (l : List Lv) (a : Int) (w : World) (hl : Ls lvS w L l) (hn : l.length = n) (hc : n ≤ c) (hr : c ≤ 5864062014634) (hin : LIn w l) (ha0 : -9223372036854775808 ≤ a) (ha1 : a ≤ 9223372036854775807) :
    Calls Try.prog 7 #[.slice L n c, .int .i64 a] w fun e w' => e = .returned (.bool true) ∧ Below w.heap.size w w' := by
  obtain ⟨ts, hts⟩ : ∃ ts, ts = cutd l 10 := ⟨_, rfl⟩
  have hsh : ∀ b ∈ ts, b.length ≤ 100 := by rw [hts]; exact cutd_short l 10
  have hoc : ∀ b ∈ ts, octs b := by rw [hts]; exact cutd_octs hin 10
  obtain ⟨k, hk⟩ : ∃ k, k = ts.length := ⟨_, rfl⟩
  have hk10 : k ≤ 10 := by rw [hk, hts, cutd, List.length_map, List.length_take]; omega
  obtain ⟨N, hN⟩ : ∃ k, k = (wraps ts).length := ⟨_, rfl⟩
  have hN1 : N ≤ 1040 := by rw [hN]; have := wraps_len hsh; omega
  have HKX := Lib.hid hk
  have HNX := Lib.hid hN
  have HW : Hid (Calls Try.prog 14 #[.slice L n c, .int .i64 10] w _) := Lib.hid (wrapped_v L n c 10 l w ts N k hts HNX HKX hl hn hin (by omega) (by omega))
  obtain ⟨p, HPK, hpk⟩ := pick_nat a 1048576 (by omega)
  obtain ⟨K, hK⟩ : ∃ K : Nat, K = 1025 + p := ⟨_, rfl⟩
  have hKK : Hid ((1025 : Int) + (p : Int) = (K : Int)) := Lib.hid (by omega)
  have hK1 : 1025 ≤ K := by omega
  have hK2 : K ≤ 1049600 := by omega
  clear hK
  obtain ⟨lg, hlg⟩ : ∃ lg : List Int, lg = [(K : Int) / 16777216, (K : Int) / 65536, (K : Int) / 256 % 256, (K : Int) % 256] := ⟨_, rfl⟩
  have HLL : Hid (lg.length = 4) := Lib.hid (by rw [hlg]; rfl)
  have HP : Hid (pars (wraps ts ++ lg) = none) := Lib.hid (by
    rw [pars_wraps ts _ (fun b hb => by have := hsh b hb; omega), pars_long (z := lg) (by rw [hlg]; simp) (by rw [hlg]; simp [len4]; omega)])
  have HP3 : Hid (pars (wraps ts ++ lg.take 3) = some (ts, lg.take 3)) := Lib.hid (by
    rw [pars_wraps ts _ (fun b hb => by have := hsh b hb; omega), pars_short (by rw [hlg]; simp)]; simp)
  have HOG : octs lg := by rw [hlg]; intro x hx; simp at hx; rcases hx with rfl | rfl | rfl | rfl <;> omega
  have HOW : octs (wraps ts) := wraps_octs fun b hb => ⟨hoc b hb, by have := hsh b hb; omega⟩
  have HO4x : Hid (octs (wraps ts ++ lg)) := Lib.hid (HOW.app HOG)
  have HO3x : Hid (octs (wraps ts ++ lg.take 3)) := Lib.hid (HOW.app (HOG.take 3))
  have HL4 : Hid ((wraps ts ++ lg).length = N + 4) := Lib.hid (by rw [List.length_append, ← hN, HLL.out])
  have HL3 : Hid ((wraps ts ++ lg.take 3).length = N + 3) := Lib.hid (by rw [List.length_append, ← hN, List.length_take, HLL.out]; rfl)
  have HT3 : Hid ((lg.take 3).length = 3) := Lib.hid (by rw [List.length_take, HLL.out]; rfl)
  have HLG := Lib.hid hlg
  clear hl hn hin hts hsh hoc hk hN HOG HOW hlg
  go_enter Try.func7, Try.ntmps7
  go_upto_region 3 with (first
    | (go_at_call 14; refine HW.out.mono ?_; rintro e w1 ⟨hb1, A1, c1, l1, B1, d1, rfl, ho1, hol1, hm1, hl1⟩; have HB1 := Lib.hid hb1; have HO1 := Lib.hid ho1; clear hb1 ho1 hol1 hm1 hl1)
    | (go_at_call 18; (with_reducible refine (picked_n a 1048576 p _ HPK ha0 ha1 (by omega) (by omega)).mono ?_); rintro e w2 ⟨rfl, rfl⟩))
  rw [hKK.out]
  go_upto_region 4 with fail
  obtain ⟨w2, hw2⟩ : ∃ w2, w2 = w1.alloc (.cells #[.int .u8 ((K : Int) / 16777216), .int .u8 ((K : Int) / 65536), .int .u8 ((K : Int) / 256 % 256), .int .u8 ((K : Int) % 256)] 5) := ⟨_, rfl⟩
  obtain ⟨q2, hq2⟩ : ∃ q2, q2 = w1.heap.size := ⟨_, rfl⟩
  have HX2 : Hid (Ls byS w2 (some ⟨q2, 0, none⟩) lg) := Lib.hid (by rw [hw2, hq2, HLG.out]; exact ls_new w1 _ _ _ rfl _ rfl)
  have HB2 : Hid (Below w.heap.size w w2) := Lib.hid (by rw [hw2]; exact bthen HB1.out (ba1 _ _))
  have HO2 : Hid (Ls byS w2 A1 (wraps ts)) := Lib.hid (by rw [hw2]; exact (HO1.out.below (ba1 _ _)).ls)
  rw [← hw2, ← hq2]
  clear hw2 hq2
  go_upto_region 5 with (first
    | (at_builtin; refine wpList_appL (F := byS) rfl _ (.const (.slice none 0 0)) (.tmp 40) 22 rfl _ 1 Try.underlying22 byInfo rfl w2.heap.size none 0 0 [] rfl (OwnL.nil _ _) A1 N c1 (wraps ts) rfl HO2.out HNX.out.symm N (by omega) (by omega) (by omega) (Nat.le_refl _) ?_; intro A4 c4 w4 ho4 hb4 _; rw [List.nil_append] at ho4; have HO4 := Lib.hid ho4; have HB4 := Lib.hid hb4; clear ho4 hb4)
    | (at_builtin; refine wpList_appL (F := byS) rfl _ (.tmp 41) (.tmp 42) 22 rfl _ 1 Try.underlying22 byInfo rfl w2.heap.size A4 N c4 (wraps ts) rfl HO4.out (some ⟨q2, 0, none⟩) 4 4 lg rfl (HX2.out.below HB4.out) HLL.out (N + 4) (by omega) (by omega) (by omega) HB4.out.size ?_; intro A5 c5 w5 ho5 hb5 _; have HO5 := Lib.hid ho5; have HB5 : Hid (Below w2.heap.size w2 w5) := Lib.hid (HB4.out.trans hb5); clear ho5 hb5)
    | (go_at_call 11; refine (feed_any none 0 0 A5 (N + 4) c5 [] (wraps ts ++ lg) w5 (Ls.nil _ _) HO5.out.ls rfl HL4.out (by omega) (by omega) (fun z hz => by cases hz) HO4x.out).mono ?_; rw [List.nil_append, HP.out]; rintro e w6 ⟨hb6, rfl⟩; have HB6 : Hid (Below w2.heap.size w2 w6) := Lib.hid (bthen HB5.out hb6); clear hb6))
  have HX6 : Hid (∀ wd, Below w6.heap.size w6 wd → Ls byS wd (some ⟨q2, 0, none⟩) (lg.take 3)) := Lib.hid (fun wd h => ((HX2.out.take 3).below HB6.out).below h)
  have HO6 : Hid (∀ wd, Below w6.heap.size w6 wd → Ls byS wd A1 (wraps ts)) := Lib.hid (fun wd h => (HO2.out.below HB6.out).below h)
  have hq6 : Hid (Below w6.heap.size w6 w6) := Lib.hid (Below.refl _ _)
  have hq6d : Hid (Below w6.heap.size w6 w6.drew) := Lib.hid (Below.refl _ _).drew
  go_cut [14, 15] (fun h f wc => (∃ Y cy, h = .slice Y 3 cy) ∧ f = .int .i64 0 ∧ Below w6.heap.size w6 wc)
  case first =>
    go_region_law (first
      | (refine step_appL (F := byS) rfl _ (.const (.slice none 0 0)) (.tmp 49) 22 rfl _ 1 Try.underlying22 byInfo rfl w6.heap.size none 0 0 [] (by simp [Act.eval, Act.put]) (OwnL.nil _ _) A1 N c1 (wraps ts) (by simp [Act.eval, Act.put]) (HO6.out _ (by first | exact Below.refl _ _ | exact (Below.refl _ _).drew)) HNX.out.symm N (by omega) (by omega) (by omega) (by first | exact Nat.le_refl _ | simp) ?_; intro A7 c7 w7 ho7 hb7 _; rw [List.nil_append] at ho7; have HO7 := Lib.hid ho7; have HB7 : Hid (Below w6.heap.size w6 w7) := Lib.hid (Below.trans (by first | exact Below.refl _ _ | exact (Below.refl _ _).drew) hb7); clear ho7 hb7)
      | (refine step_appL (F := byS) rfl _ (.tmp 50) (.tmp 52) 22 rfl _ 1 Try.underlying22 byInfo rfl w6.heap.size A7 N c7 (wraps ts) (by simp [Act.eval, Act.put]) (by first | exact HO7.out | exact HO7.out.below (Below.refl _ _).drew) (some ⟨q2, 0, none⟩) 3 4 (lg.take 3) (by simp [Act.eval, Act.put]) (HX6.out _ (by first | exact HB7.out | exact HB7.out.drew)) HT3.out (N + 3) (by omega) (by omega) (by omega) (by first | exact HB7.out.size | exact HB7.out.drew.size) ?_; intro A8 c8 w8 ho8 hb8 _; have HO8 := Lib.hid ho8; have HB8 : Hid (Below w6.heap.size w6 w8) := Lib.hid (Below.trans (by first | exact HB7.out | exact HB7.out.drew) hb8); clear ho8 hb8)
      | (go_simp; go_at_call 11; refine (feed_any none 0 0 A8 (N + 3) c8 [] (wraps ts ++ lg.take 3) _ (Ls.nil _ _) (by first | exact HO8.out.ls | exact (HO8.out.below (Below.refl _ _).drew).ls) rfl HL3.out (by omega) (by omega) (fun z hz => by cases hz) HO3x.out).mono ?_; rw [List.nil_append, HP3.out]; intro e w9 h9; obtain ⟨hb9, A9, c9, l9, B9, d9, rfl, ho9, hm9, hl9, hr9⟩ := feed_v _ ts (lg.take 3) k 3 HKX (Lib.hid HT3.out.symm) h9; have HB9 : Hid (Below w6.heap.size w6 w9) := Lib.hid (bthen (by first | exact HB8.out | exact HB8.out.drew) hb9); clear hb9 ho9 hm9 hl9 hr9 h9))
    all_goals
      go_wp2_with fail
      go_meet
      exact ⟨⟨B9, d9, rfl⟩, rfl, HB9.out⟩
  case rest =>
    obtain ⟨⟨Y, cy, rfl⟩, rfl, hbc⟩ := hcut
    have HBC := Lib.hid hbc
    clear hbc
    go_wp2_with (first
      | (at_make; refine wpList_makeW (F := byS) rfl _ _ _ 22 rfl _ 1 Try.underlying22 byInfo (fun z => .int .u8 z) (fun _ => rfl) 0 rfl _ _ _ _ 1025 rfl rfl rfl rfl (by omega) (by omega) ?_; intro wm hwm hbm hsm; have HBM : Hid (Below w6.heap.size w6 wm) := Lib.hid (HBC.out.trans (hbm.mono HBC.out.size)); clear hwm hbm hsm)
      | (go_at_call 8; refine (wrap_size _ 1025 1025 wm (by omega)).mono ?_; rintro e wn ⟨rfl, rfl⟩))
    go_ret
    exact ⟨rfl, (HB2.out.trans (HB6.out.mono HB2.out.size)).trans (HBM.out.mono (by have := HB2.out.size; have := HB6.out.size; omega))⟩

end Go.Proofs.Ytmeppeedbnnmjaa
