/-
  The walks of FrameBack, FrameCuts and FrameLong.
-/
import Derived.Test.YtmeppeedbnnmjaaWrapped
import Derived.Test.YtmeppeedbnnmjaaFeed
import Derived.Test.YtmeppeedbnnmjaaSlsKeep
import Derived.Test.YtmeppeedbnnmjaaPicked
import Derived.Test.YtmeppeedbnnmjaaIns
namespace Go.Proofs.Ytmeppeedbnnmjaa
open Go.RowKit
set_option linter.unusedVariables false
set_option linter.unusedSimpArgs false

set_option maxRecDepth 100000 in
set_option maxHeartbeats 2000000 in
theorem walkFrameBack (L : Option Addr) (n c : Nat) (l : List Lv) (M : Option Addr) (m d : Nat) (ms : List Int) (w : World) (hl : Ls lvS w L l) (hn : l.length = n) (hc : n ≤ c) (hr : c ≤ 5864062014634) (hin : LIn w l) (hm : Ls byS w M ms) (hmn : ms.length = m) (hmc : m ≤ d) (hmr : d ≤ 140737488351232) (hms : ∀ z ∈ ms, 0 ≤ z ∧ z ≤ 255) :
    Calls Try.prog 5 #[.slice L n c, .slice M m d] w fun e w' => e = .returned (.bool true) ∧ Below w.heap.size w w' := by
  obtain ⟨ts, hts⟩ : ∃ ts, ts = cutd l 30 := ⟨_, rfl⟩
  have hsh : ∀ b ∈ ts, b.length ≤ 100 := by rw [hts]; exact cutd_short l 30
  have hoc : ∀ b ∈ ts, octs b := by rw [hts]; exact cutd_octs hin 30
  obtain ⟨k, hk⟩ : ∃ k, k = ts.length := ⟨_, rfl⟩
  have hk30 : k ≤ 30 := by rw [hk, hts, cutd, List.length_map, List.length_take]; omega
  obtain ⟨N, hN⟩ : ∃ k, k = (wraps ts).length := ⟨_, rfl⟩
  have hN1 : N ≤ 3120 := by rw [hN]; have := wraps_len hsh; omega
  obtain ⟨q, hq⟩ : ∃ q, q = min m 100 := ⟨_, rfl⟩
  have hq1 : q ≤ 100 := by omega
  have hq0 : m = 0 → q = 0 := by omega
  have hq2 : ¬ m = 0 → 0 < q := by omega
  have HKX := Lib.hid hk
  have HNX := Lib.hid hN
  have HW : Hid (Calls Try.prog 14 #[.slice L n c, .int .i64 30] w _) := Lib.hid (wrapped_v L n c 30 l w ts N k hts HNX HKX hl hn hin (by omega) (by omega))
  have HO : Hid (∀ w', Below w.heap.size w w' → Calls Try.prog 15 #[.slice M m d, .int .i64 100] w' (RetY w' q (ms.take q))) := Lib.hid (fun w' hb => octets_any M m d 100 q ms w' (hm.below hb) hmn hmc (by omega) (by omega) hq)
  obtain ⟨mb, hmb⟩ : ∃ mb, mb = ms.take q := ⟨_, rfl⟩
  rw [← hmb] at HO
  have hml : mb.length = q := by rw [hmb, List.length_take, hmn]; omega
  have hmo : octs mb := by rw [hmb]; exact octs.take hms q
  obtain ⟨rs, hrs⟩ : ∃ rs, rs = (wrap1 mb).take ((wrap1 mb).length - 1) := ⟨_, rfl⟩
  have hrl : rs.length = 3 + q := by rw [hrs, List.length_take, wrap1_len, hml]; omega
  have hrt : (wrap1 mb).take (3 + q) = rs := by rw [hrs, wrap1_len, hml]; congr 1; omega
  have HP : Hid (pars (wraps ts ++ rs) = some (ts, rs)) := Lib.hid (by
    rw [pars_wraps ts _ (fun b hb => by have := hsh b hb; omega), hrs, pars_cut mb (by omega)]; simp)
  have HOC : Hid (octs (wraps ts ++ rs)) := Lib.hid ((wraps_octs fun b hb => ⟨hoc b hb, by have := hsh b hb; omega⟩).app (by rw [hrs]; exact octs.take (wrap1_octs hmo (by omega)) _))
  have HFE : Hid (∀ t ∈ ts, t.length ≤ 140737488355328) := Lib.hid (fun t ht => by have := hsh t ht; omega)
  have HK := Lib.hid hk
  have HN := Lib.hid hN
  have HML := Lib.hid hml
  have HRL := Lib.hid hrl
  have HRX := Lib.hid hrl.symm
  have HRT := Lib.hid hrt
  have HWL : Hid ((wrap1 mb).length = 4 + q) := Lib.hid (by rw [wrap1_len, hml])
  have HLL : Hid ((wraps ts ++ rs).length = N + (3 + q)) := Lib.hid (by rw [List.length_append, ← hN, hrl])
  clear hl hn hin hm hmn hmc hms hts hsh hoc hk hN hq hmb hml hmo hrs hrl hrt
  by_cases hm0 : m = 0
  · have hq0' := hq0 hm0
    clear hq0 hq2
    subst hm0
    subst hq0'
    go_enter Try.func5, Try.ntmps5
    go_wp2_with (first
      | (go_at_call 14; refine HW.out.mono ?_; rintro e w1 ⟨hb1, A1, c1, l1, B1, d1, rfl, ho1, hol1, hm1, hl1⟩; have HB1 := Lib.hid hb1; have HO1 := Lib.hid ho1; have HOL1 := Lib.hid hol1; have HM1 := Lib.hid hm1; have HL1 := Lib.hid hl1; clear hb1 ho1 hol1 hm1 hl1)
      | (go_at_call 15; refine (HO.out w1 HB1.out).mono ?_; rintro e w2 ⟨A2, c2, rfl, ho2, hb2⟩; have HO2 := Lib.hid ho2; have HB2 := Lib.hid hb2; clear ho2 hb2)
      | (go_at_call 8; refine (wrap_ok A2 0 c2 mb w2 HO2.out.ls HML.out (by omega)).mono ?_; rintro e w3 ⟨A3, c3, rfl, ho3, hb3⟩; have hcp := ho3.cap; have HO3 := Lib.hid ho3; have HB3 := Lib.hid hb3; have HX3 : Hid (Ls byS w3 A3 rs) := Lib.hid (by have := ho3.ls.take (3 + 0); rw [HRT.out] at this; exact this); obtain ⟨g, rfl, hg0, hg⟩ := ho3.somewhere (by omega); clear ho3 hb3)
      | (at_builtin; refine wpList_appL (F := byS) rfl _ (.const (.slice none 0 0)) (.tmp 43) 22 rfl _ 1 Try.underlying22 byInfo rfl w3.heap.size none 0 0 [] rfl (OwnL.nil _ _) A1 N c1 (wraps ts) rfl ((HO1.out.below HB2.out).below HB3.out).ls HNX.out.symm N (by omega) (by omega) (by omega) (Nat.le_refl _) ?_; intro A4 c4 w4 ho4 hb4 _; rw [List.nil_append] at ho4; have HO4 := Lib.hid ho4; have HB4 := Lib.hid hb4; clear ho4 hb4)
      | (at_builtin; refine wpList_appL (F := byS) rfl _ (.tmp 44) (.tmp 45) 22 rfl _ 1 Try.underlying22 byInfo rfl w3.heap.size A4 N c4 (wraps ts) rfl HO4.out (some ⟨g, 0, none⟩) 3 c3 rs rfl (HX3.out.below HB4.out) HRL.out (N + 3) (by omega) (by omega) (by omega) HB4.out.size ?_; intro A5 c5 w5 ho5 hb5 _; have HO5 := Lib.hid ho5; have HB5 : Hid (Below w3.heap.size w3 w5) := Lib.hid (HB4.out.trans hb5); clear ho5 hb5)
      | (go_at_call 11; refine (feed_any none 0 0 A5 (N + 3) c5 [] (wraps ts ++ rs) w5 (Ls.nil _ _) HO5.out.ls rfl HLL.out (by omega) (by omega) (fun z hz => by cases hz) HOC.out).mono ?_; rw [List.nil_append, HP.out]; intro e w6 h6; obtain ⟨hb6, A6, c6, l6, B6, d6, rfl, ho6, hm6, hl6, hr6⟩ := feed_v w5 ts rs k 3 HKX HRX h6; have HB6 := Lib.hid hb6; have HO6 := Lib.hid ho6; have HM6 := Lib.hid hm6; have HL6 := Lib.hid hl6; have HR6 := Lib.hid hr6; clear hb6 ho6 hm6 hl6 hr6 h6)
      | (go_at_call 16; refine (lists_keep A6 k c6 B1 d1 l6 l1 ts w6 _ _ HO6.out.ls (((HOL1.out.below HB2.out).below HB3.out).below HB5.out |>.below HB6.out).ls HL6.out ((((HL1.out.new HB2.out).new HB3.out).new HB5.out).new HB6.out) HM6.out HM1.out HKX.out.symm (by omega) HFE.out).mono ?_; rintro e w7 ⟨rfl, hb7⟩; have HB7 := Lib.hid hb7; clear hb7)
      | (go_at_call 17; refine (same_keep B6 3 d6 (some ⟨g, 0, none⟩) c3 rs w7 (HR6.out.below HB7.out).ls (((HX3.out.below HB5.out).below HB6.out).below HB7.out) HRL.out (by omega)).mono ?_; rintro e w8 ⟨rfl, hb8⟩; have HB8 := Lib.hid hb8; clear hb8))
    go_ret
    exact ⟨rfl, bthen (bthen (bthen (bthen (bthen (bthen (bthen HB1.out HB2.out) HB3.out) HB5.out) HB6.out) HB7.out) HB8.out) (Below.refl _ _)⟩
  · have hq2' := hq2 hm0
    clear hq0 hq2
    go_enter Try.func5, Try.ntmps5
    go_wp2_with (first
      | (go_at_call 14; refine HW.out.mono ?_; rintro e w1 ⟨hb1, A1, c1, l1, B1, d1, rfl, ho1, hol1, hm1, hl1⟩; have HB1 := Lib.hid hb1; have HO1 := Lib.hid ho1; have HOL1 := Lib.hid hol1; have HM1 := Lib.hid hm1; have HL1 := Lib.hid hl1; clear hb1 ho1 hol1 hm1 hl1)
      | (go_at_call 15; refine (HO.out w1 HB1.out).mono ?_; rintro e w2 ⟨A2, c2, rfl, ho2, hb2⟩; have HO2 := Lib.hid ho2; have HB2 := Lib.hid hb2; clear ho2 hb2)
      | (go_at_call 8; refine (wrap_ok A2 q c2 mb w2 HO2.out.ls HML.out (by omega)).mono ?_; rintro e w3 ⟨A3, c3, rfl, ho3, hb3⟩; have hcp := ho3.cap; have HO3 := Lib.hid ho3; have HB3 := Lib.hid hb3; have HX3 : Hid (Ls byS w3 A3 rs) := Lib.hid (by have := ho3.ls.take (3 + q); rw [HRT.out] at this; exact this); obtain ⟨g, rfl, hg0, hg⟩ := ho3.somewhere (by omega); clear ho3 hb3)
      | (at_builtin; refine wpList_appL (F := byS) rfl _ (.const (.slice none 0 0)) (.tmp 43) 22 rfl _ 1 Try.underlying22 byInfo rfl w3.heap.size none 0 0 [] rfl (OwnL.nil _ _) A1 N c1 (wraps ts) rfl ((HO1.out.below HB2.out).below HB3.out).ls HNX.out.symm N (by omega) (by omega) (by omega) (Nat.le_refl _) ?_; intro A4 c4 w4 ho4 hb4 _; rw [List.nil_append] at ho4; have HO4 := Lib.hid ho4; have HB4 := Lib.hid hb4; clear ho4 hb4)
      | (at_builtin; refine wpList_appL (F := byS) rfl _ (.tmp 44) (.tmp 45) 22 rfl _ 1 Try.underlying22 byInfo rfl w3.heap.size A4 N c4 (wraps ts) rfl HO4.out (some ⟨g, 0, none⟩) (3 + q) c3 rs rfl (HX3.out.below HB4.out) HRL.out (N + (3 + q)) (by omega) (by omega) (by omega) HB4.out.size ?_; intro A5 c5 w5 ho5 hb5 _; have HO5 := Lib.hid ho5; have HB5 : Hid (Below w3.heap.size w3 w5) := Lib.hid (HB4.out.trans hb5); clear ho5 hb5)
      | (go_at_call 11; refine (feed_any none 0 0 A5 (N + (3 + q)) c5 [] (wraps ts ++ rs) w5 (Ls.nil _ _) HO5.out.ls rfl HLL.out (by omega) (by omega) (fun z hz => by cases hz) HOC.out).mono ?_; rw [List.nil_append, HP.out]; intro e w6 h6; obtain ⟨hb6, A6, c6, l6, B6, d6, rfl, ho6, hm6, hl6, hr6⟩ := feed_v w5 ts rs k (3 + q) HKX HRX h6; have HB6 := Lib.hid hb6; have HO6 := Lib.hid ho6; have HM6 := Lib.hid hm6; have HL6 := Lib.hid hl6; have HR6 := Lib.hid hr6; clear hb6 ho6 hm6 hl6 hr6 h6)
      | (go_at_call 16; refine (lists_keep A6 k c6 B1 d1 l6 l1 ts w6 _ _ HO6.out.ls (((HOL1.out.below HB2.out).below HB3.out).below HB5.out |>.below HB6.out).ls HL6.out ((((HL1.out.new HB2.out).new HB3.out).new HB5.out).new HB6.out) HM6.out HM1.out HKX.out.symm (by omega) HFE.out).mono ?_; rintro e w7 ⟨rfl, hb7⟩; have HB7 := Lib.hid hb7; clear hb7)
      | (go_at_call 17; refine (same_keep B6 (3 + q) d6 (some ⟨g, 0, none⟩) c3 rs w7 (HR6.out.below HB7.out).ls (((HX3.out.below HB5.out).below HB6.out).below HB7.out) HRL.out (by omega)).mono ?_; rintro e w8 ⟨rfl, hb8⟩; have HB8 := Lib.hid hb8; clear hb8))
    go_ret
    exact ⟨rfl, bthen (bthen (bthen (bthen (bthen (bthen (bthen HB1.out HB2.out) HB3.out) HB5.out) HB6.out) HB7.out) HB8.out) (Below.refl _ _)⟩

end Go.Proofs.Ytmeppeedbnnmjaa
