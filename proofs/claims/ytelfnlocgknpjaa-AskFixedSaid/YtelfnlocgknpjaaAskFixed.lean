/-
  AskFixed.
-/
import Derived.Test.YtelfnlocgknpjaaMFace
import Derived.Test.YtelfnlocgknpjaaAppG
namespace Go.Proofs.Ytelfnlocgknpjaa
open Go.RowKit
set_option linter.unusedVariables false
set_option linter.unusedSimpArgs false

theorem lit_asked : (askedT [5, 0, 0, 0, 9, 0, 1, 47]).1 = 0 ∧ (askedT [5, 0, 0, 0, 9, 0, 1, 47]).2 1 = .n 9 ∧ (askedT [5, 0, 0, 0, 9, 0, 1, 47]).2 2 = .t [47] := by
  have h : askedT [5, 0, 0, 0, 9, 0, 1, 47] = (0, gOf (partsOf 0 5) [.n 5, .n 9, .t [47]] (g0 5)) := by
    rw [asked_some (by simp) (by omega) (vs := [.n 5, .n 9, .t [47]]) (ys := []) (by rfl)]
    rfl
  rw [h]
  exact ⟨rfl, rfl, rfl⟩

set_option maxRecDepth 100000 in
set_option maxHeartbeats 8000000 in
theorem walkAskFixed (A : Option Addr) (n c : Nat) (zs : List Int) (w : World) (hs : Ls byS w A zs) (hn : zs.length = n) (hc : n ≤ c) (hr : c ≤ 140737488351232) (ho : ∀ z ∈ zs, 0 ≤ z ∧ z ≤ 255) :
    Calls Try.prog 8 #[.slice A n c] w fun e w' => e = .returned (.bool true) ∧ Below w.heap.size w w' := by
  have HS := Lib.hid hs
  have HN := Lib.hid hn
  have HO : Hid (Oct zs) := Lib.hid ho
  obtain ⟨cd, hcd⟩ : ∃ cd, (askedT zs).1 = cd := ⟨_, rfl⟩
  have HCD := Lib.hid hcd
  have hcodes := asked_codes zs
  rw [hcd] at hcodes
  have HLIT := Lib.hid lit_asked
  clear hs hn ho hcd
  go_enter Try.func8, Try.ntmps8
  go_upto_region 2 with (first
    | (at_builtin; refine wpList_appG (F := byS) rfl w (.const (.slice none 0 0)) (.tmp 10) 22 rfl _ 1 Try.underlying22 byInfo rfl w.heap.size none 0 0 [] rfl (OwnL.nil _ _) A n c zs rfl HS.out HN.out n (by omega) (by omega) (by omega) (Nat.le_refl _) ?_; intro A1 c1 w1 ho1 hb1 _; rw [List.nil_append] at ho1; have HO1 := Lib.hid ho1; have HB1 := Lib.hid hb1; have hc1 := HO1.out.caps; clear ho1 hb1)
    | (go_at_call 13; (with_reducible refine (asked_x A1 n c1 zs cd w1 HO1.out.ls HN.out hc1.1 hc1.2 HO.out HCD.out).mono ?_); rintro e w2 ⟨hb2, x, rfl, hin, hg⟩; have HB2 := Lib.hid hb2; have HIN := Lib.hid hin; have HG := Lib.hid hg; clear hb2 hin hg))
  obtain ⟨w3, hw3⟩ : ∃ w3, w3 = w2.alloc (.cells #[.int .i64 x.kd, .int .i64 x.mrk, .string (tx x.p), .string (tx x.q), .int .i64 x.how, .int .i64 x.han, .int .i64 x.a, .int .i64 x.c, .slice x.D x.m x.d] 24) := ⟨_, rfl⟩
  obtain ⟨X, hX⟩ : ∃ X, X = w2.heap.size := ⟨_, rfl⟩
  have HB3 : Hid (Below w2.heap.size w2 w3) := Lib.hid (by rw [hw3]; exact ba1 _ _)
  have HX3 : Hid (Bx 24 w3 X #[.int .i64 x.kd, .int .i64 x.mrk, .string (tx x.p), .string (tx x.q), .int .i64 x.how, .int .i64 x.han, .int .i64 x.a, .int .i64 x.c, .slice x.D x.m x.d]) := Lib.hid (by rw [hw3, hX]; exact bx_new _ _ _)
  have HBW : Hid (Below w.heap.size w w3) := Lib.hid (bthen HB1.out (bthen HB2.out HB3.out))
  rw [← hw3, ← hX]
  clear hw3 hX
  obtain ⟨w4, hw4⟩ : ∃ w4, w4 = w3.alloc (.cells #[.int .u8 5, .int .u8 0, .int .u8 0, .int .u8 0, .int .u8 9, .int .u8 0, .int .u8 1, .int .u8 47] 5) := ⟨_, rfl⟩
  have HB4 : Hid (Below w3.heap.size w3 w4) := Lib.hid (by rw [hw4]; exact ba1 _ _)
  have HL4 : Hid (Ls byS w4 (some ⟨w3.heap.size, 0, none⟩) ([5, 0, 0, 0, 9, 0, 1, 47] : List Int)) := Lib.hid (by rw [hw4]; exact ls_new w3 5 [5, 0, 0, 0, 9, 0, 1, 47] _ rfl _ rfl)
  have HC := Lib.hid (asked_x (some ⟨w3.heap.size, 0, none⟩) 8 8 [5, 0, 0, 0, 9, 0, 1, 47] 0 w4 HL4.out rfl (Nat.le_refl _) (by omega) (by intro z hz; simp at hz; omega) HLIT.out.1)
  go_upto_region 3 with (rw [← hw4]; go_at_call 13; (with_reducible refine HC.out.mono ?_); rintro e w5 ⟨hb5, y, rfl, -, hgy⟩; have HB5 := Lib.hid hb5; have HGY := Lib.hid hgy; clear hb5 hgy)
  obtain ⟨w6, hw6⟩ : ∃ w6, w6 = w5.alloc (.cells #[.int .i64 y.kd, .int .i64 y.mrk, .string (tx y.p), .string (tx y.q), .int .i64 y.how, .int .i64 y.han, .int .i64 y.a, .int .i64 y.c, .slice y.D y.m y.d] 24) := ⟨_, rfl⟩
  obtain ⟨Y, hY⟩ : ∃ Y, Y = w5.heap.size := ⟨_, rfl⟩
  have HB6 : Hid (Below w5.heap.size w5 w6) := Lib.hid (by rw [hw6]; exact ba1 _ _)
  have hy6 : Bx 24 w6 Y #[.int .i64 y.kd, .int .i64 y.mrk, .string (tx y.p), .string (tx y.q), .int .i64 y.how, .int .i64 y.han, .int .i64 y.a, .int .i64 y.c, .slice y.D y.m y.d] := by rw [hw6, hY]; exact bx_new _ _ _
  have e1 : y.mrk = 9 := by
    have h := HGY.out 1 (by omega)
    rw [HLIT.out.2.1] at h
    injection h with h
    exact h.symm
  have e2 : y.p = [47] := by
    have h := HGY.out 2 (by omega)
    rw [HLIT.out.2.2] at h
    injection h with h
    exact h.symm
  have y1 : w6.cell? ⟨Y, 1, none⟩ = some (.int .i64 9) := by rw [← e1]; exact hy6.cell 1 _ rfl
  have y2 : w6.cell? ⟨Y, 2, none⟩ = some (.string ⟨#[47]⟩) := by
    have h := hy6.cell 2 _ rfl
    rw [e2] at h
    exact h
  have hyl := hy6.lt
  rw [← hw6, ← hY]
  have HBZ : Hid (Below w.heap.size w w6) := Lib.hid (bthen HBW.out (bthen HB4.out (bthen HB5.out HB6.out)))
  have hx6 := HX3.out.below (bthen HB4.out (bthen HB5.out HB6.out))
  obtain ⟨lx, x0, x1, x2, x3, x4, x5, x6, x7, x8, -⟩ := hx6.cells9
  have HIN6 := Lib.hid (HIN.out.below (bthen HB3.out (bthen HB4.out (bthen HB5.out HB6.out))))
  have HS6 := Lib.hid (HS.out.below HBZ.out)
  clear hw6 hY hw4 hy6 e1 e2 hx6
  rcases hcodes with rfl | ⟨hc3, hg0⟩
  · obtain ⟨kd, hk1, hk2, hk3⟩ := ask_asked HO.out HCD.out
    have hkd : kd = x.kd := by
      have h := HG.out 0 (by omega)
      rw [hk1] at h
      injection h
    subst hkd
    have HFC : Hid (faultC x.G x.kd = 0) := Lib.hid (by rw [← faultC_congr HG.out]; exact hk2)
    have HAC : Hid (askC x.G x.kd = zs) := Lib.hid (by rw [← askC_congr HG.out]; exact hk3)
    clear hk1 hk2 hk3
    have HASK := Lib.hid (ask_x x w6 HIN6.out HFC.out)
    rw [HAC.out] at HASK
    go_wp2_with (first
      | (go_at_call 10; (with_reducible refine HASK.out.mono ?_); rintro e w7 ⟨hb7, A7, n7, c7, rfl, ho7⟩; obtain rfl : n7 = n := ho7.1.symm.trans HN.out; have HB7 := Lib.hid hb7; have HO7 := Lib.hid ho7; clear hb7 ho7)
      | (go_at_call 24; (with_reducible refine (same_keep A7 n7 c7 A c zs w7 HO7.out.ls (HS6.out.below HB7.out) HN.out (by omega)).mono ?_); rintro e w8 ⟨rfl, hb8⟩; have HB8 := Lib.hid hb8; clear hb8))
    go_ret
    exact ⟨rfl, bthen HBZ.out (bthen HB7.out HB8.out)⟩
  · have HSQ := Lib.hid (reqK_x x ⟨0, 0, [], [], 0, 0, 0, 0, none, 0, 0, []⟩ w6 HIN6.out ⟨Ls.nil _ _, rfl⟩ (fun o h => by
      rw [← HG.out o h, hg0]
      rcases o with _ | _ | _ | _ | _ | _ | _ | _ | _ | o
      · rfl
      · rfl
      · rfl
      · rfl
      · rfl
      · rfl
      · rfl
      · rfl
      · rfl
      · omega) (by
      have h := HG.out 8 (by omega)
      rw [hg0] at h
      have h2 : ([] : List Int) = x.zs := by injection h
      have h3 := HIN6.out.2
      rw [← h2] at h3
      simp only [List.length_nil] at h3
      omega))
    have HSR : Hid (Calls Try.prog 22 #[.agg #[.int .i64 x.kd, .int .i64 x.mrk, .string (tx x.p), .string (tx x.q), .int .i64 x.how, .int .i64 x.han, .int .i64 x.a, .int .i64 x.c, .slice x.D x.m x.d], .agg #[.int .i64 0, .int .i64 0, .string ⟨#[]⟩, .string ⟨#[]⟩, .int .i64 0, .int .i64 0, .int .i64 0, .int .i64 0, .slice none 0 0]] w6 fun e w' => e = .returned (.bool true) ∧ Below w6.heap.size w6 w') := HSQ
    clear HSQ hg0
    rcases hc3 with rfl | rfl | rfl
    · go_wp2_with (go_at_call 22; (with_reducible refine HSR.out.mono ?_); rintro e w8 ⟨rfl, hb8⟩; have HB8 := Lib.hid hb8; clear hb8)
      go_ret
      exact ⟨rfl, bthen HBZ.out HB8.out⟩
    · go_wp2_with (go_at_call 22; (with_reducible refine HSR.out.mono ?_); rintro e w8 ⟨rfl, hb8⟩; have HB8 := Lib.hid hb8; clear hb8)
      go_ret
      exact ⟨rfl, bthen HBZ.out HB8.out⟩
    · go_wp2_with (go_at_call 22; (with_reducible refine HSR.out.mono ?_); rintro e w8 ⟨rfl, hb8⟩; have HB8 := Lib.hid hb8; clear hb8)
      go_ret
      exact ⟨rfl, bthen HBZ.out HB8.out⟩

end Go.Proofs.Ytelfnlocgknpjaa
