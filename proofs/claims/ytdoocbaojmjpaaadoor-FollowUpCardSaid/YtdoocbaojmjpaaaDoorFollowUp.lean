/-
  The walk of FollowUp.
-/
import Derived.Test.YtdoocbaojmjpaaaDoorPathKeep
namespace Go.Proofs.YtdoocbaojmjpaaaDoor
open Go.RowKit
set_option linter.unusedVariables false
set_option linter.unusedSimpArgs false

theorem ups_succ (k : Nat) : tx (ups k) ++ (⟨#[46, 46, 47]⟩ : ByteArray) = tx (ups (k + 1)) := tx_app (ups k) [46, 46, 47]

set_option maxRecDepth 100000 in
set_option maxHeartbeats 4000000 in
theorem walkFollowUp (L : Option Addr) (u d : Nat) (l : List Int) (z : Int) (w : World) (hb : Is w L l) (hn : l.length = u) (hc : u ≤ d) (hr : d ≤ 17592186043904) (hz0 : -9223372036854775808 ≤ z) (hz1 : z ≤ 9223372036854775807) :
    Calls Tryd.prog 7 #[.slice L u d, .int .i64 z] w fun e w' => e = .returned (.bool true) ∧ Below w.heap.size w w' := by
  have HP := Lib.hid (pathOf_k L u d l 8 8 w hb hn (by omega) rfl)
  obtain ⟨a, h1, hca, hal, h200⟩ := clean_drawn (drawns_tame l 8) (Nat.le_trans (drawns_len l 8) (by omega))
  have hal8 : a.length ≤ 8 := Nat.le_trans hal (drawns_len l 8)
  obtain ⟨k, HK, hk⟩ := pick_nat z 20 (by omega)
  have HPK := Lib.hid (fun wx => picked_n z 20 k wx HK hz0 hz1 (by omega) (by omega))
  obtain ⟨P, hP⟩ : ∃ P, joinP (drawns l 8) = P := ⟨_, rfl⟩
  rw [hP] at HP h1
  obtain ⟨n, hN⟩ : ∃ n, a.length = n := ⟨_, rfl⟩
  have HN := Lib.hid hN
  have hn8 : n ≤ 8 := by omega
  have f1 := follow_back hca (by omega)
  have f2 := follow_ups hca k (by omega)
  have f3 := follow_root hca
  rw [hN] at f2
  have HM : Hid ((a.take (n - k)).length = n - k) := Lib.hid (by rw [List.length_take]; omega)
  have HC1 := Lib.hid (fun wx => clean_at P a n wx h1 HN)
  have HF1 := Lib.hid (fun A c wx base (ho : OwnL stS 9 wx base A n c a) => follow_at A n c a _ a n wx ho.ls HN.out f1 HN)
  have HF2 := Lib.hid (fun A c wx base (ho : OwnL stS 9 wx base A n c a) => follow_at A n c a (ups k) (a.take (n - k)) (n - k) wx ho.ls HN.out f2 HM)
  have HF3 := Lib.hid (fun A c wx base (ho : OwnL stS 9 wx base A n c a) => follow_at A n c a _ [] 0 wx ho.ls HN.out f3 (Lib.hid rfl))
  have HJ := Lib.hid (fun A c wx base (ho : OwnL stS 9 wx base A n c a) => joined_any A n c a wx ho.ls HN.out ho.cap hca h200)
  have hmx : max (0 : Int) ((n : Int) - (k : Int)) = ((n - k : Nat) : Int) := by omega
  clear hb hn hP h1 hal h200 hN hca f1 f2 f3 hal8 HK
  go_enter Tryd.func7, Tryd.ntmps7
  go_wp2_with (first
    | (go_at_call 13; (with_reducible refine HP.out.mono ?_); rintro e w1 ⟨rfl, hb1⟩; have HB1 := Lib.hid hb1; clear hb1)
    | (go_at_call 8; (with_reducible refine (HC1.out w1).mono ?_); rintro e w2 ⟨A2, c2, rfl, ho2, hb2⟩; have hcap := ho2.cap; have HO2 := Lib.hid ho2; have HB2 := Lib.hid (bthen HB1.out hb2); clear ho2 hb2)
    | (go_at_call 11; refine (HF1.out A2 c2 w2 _ HO2.out).mono ?_; rintro e w3 ⟨A3, c3, rfl, ho3, hb3⟩; have HO3 := Lib.hid ho3; have HB3 := Lib.hid (bthen HB2.out hb3); have HO23 := Lib.hid (HO2.out.below hb3); clear ho3 hb3))
  go_loop [9, 10] (fun s i => ∃ j : Nat, j ≤ k ∧ i = .int .i64 (j : Int) ∧ s = .string (tx (ups j))) (fun _ i => k - (intOf i).toNat)
  case atStart => exact ⟨0, Nat.zero_le _, rfl, rfl⟩
  case round =>
    obtain ⟨j, hj, rfl, rfl⟩ := hrel
    have hzj := tx_size (ups j)
    rw [ups_len] at hzj
    by_cases hlt : j < k
    · have hlti : (j : Int) < (k : Int) := by omega
      have hap := ups_succ j
      have hbig : ¬ 9223372036854775807 < 3 * j + 3 := by omega
      go_wp2_with (go_at_call 17; refine (HPK.out w3).mono ?_; rintro e w4 ⟨rfl, rfl⟩)
      go_round
      case rel => exact ⟨j + 1, by omega, by simp, rfl⟩
      case measure => simp [intOf]; omega
    · obtain rfl : j = k := by omega
      have hlti : ¬ (j : Int) < (j : Int) := by omega
      have hmj : ((n - j : Nat) : Int) ≤ (c2 : Int) := by omega
      go_wp2_with (first
        | (go_at_call 17; (with_reducible refine (HPK.out w3).mono ?_); rintro e w4 ⟨rfl, rfl⟩)
        | (go_at_call 11; (with_reducible refine (HF2.out A2 c2 w3 _ HO23.out).mono ?_); rintro e w4 ⟨A4, c4, rfl, ho4, hb4⟩; have HO4 := Lib.hid ho4; have HB4 := Lib.hid (bthen HB3.out hb4); have HO24 := Lib.hid (HO23.out.below hb4); have HO34 := Lib.hid (HO3.out.below hb4); clear ho4 hb4)
        | (go_at_call 11; refine (HF3.out A2 c2 w4 _ HO24.out).mono ?_; rintro e w5 ⟨A5, c5, rfl, ho5, hb5⟩; have HB5 := Lib.hid (bthen HB4.out hb5); have HO25 := Lib.hid (HO24.out.below hb5); have HO35 := Lib.hid (HO34.out.below hb5); have HO45 := Lib.hid (HO4.out.below hb5); clear ho5 hb5)
        | (go_at_call 15; (with_reducible refine (texts_keep A2 n c2 A3 c3 a w5 HO25.out.ls HO35.out.ls HN.out (by omega)).mono ?_); rintro e w6 ⟨rfl, hb6⟩; have HB6 := Lib.hid (bthen HB5.out hb6); have HO26 := Lib.hid (HO25.out.below hb6); have HO46 := Lib.hid (HO45.out.below hb6); clear hb6)
        | (go_at_call 17; (with_reducible refine (HPK.out w6).mono ?_); rintro e w7 ⟨rfl, rfl⟩)
        | (go_at_call 15; (with_reducible refine (texts_keep A4 (n - j) c4 A2 c2 (a.take (n - j)) w6 HO46.out.ls (HO26.out.ls.take _) HM.out (by omega)).mono ?_); rintro e w7 ⟨rfl, hb7⟩; have HB7 := Lib.hid (bthen HB6.out hb7); have HO27 := Lib.hid (HO26.out.below hb7); clear hb7)
        | (go_at_call 16; (with_reducible refine (HJ.out A2 c2 w7 _ HO27.out).mono ?_); rintro e w8 ⟨rfl, hb8⟩; have HB8 := Lib.hid (bthen HB7.out hb8); clear hb8))
      go_ret
      exact ⟨rfl, HB8.out⟩

end Go.Proofs.YtdoocbaojmjpaaaDoor
