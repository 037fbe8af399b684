/-
  The walk of packthreadkeep's InetSwap over this seat's translation.
-/
import Derived.Test.YtkipjdohobklhaaInetKeep
import Derived.Test.YtkipjdohobklhaaInetMath2
import Derived.WalkKit
import Derived.Handy
import Derived.Lib.Hide
import Derived.Outline
import Derived.OwnWalk
import Derived.Deep.RegionLaw
import Derived.IntWalk
import Derived.Deep.DeepCutAuto
namespace Go.Proofs.Ytkipjdohobklhaa
open Go.RowKit
set_option linter.unusedVariables false

/-- an even list of bytes of the call's own -/
def EvenX (W : World) (v : Value) (wc : World) : Prop :=
  ∃ A n c X, v = .slice A n c ∧ OwnB wc W.heap.size A n c X ∧ n % 2 = 0 ∧ n ≤ 1000 ∧ Below W.heap.size W wc

set_option maxHeartbeats 1000000 in
theorem walkInetSwap (A : Option Addr) (n c : Nat) (za : List Int) (w : World)
    (ha : Bs w A za) (hn : za.length = n) (hc : n ≤ c) (hr : c ≤ 140737488351232) :
    Calls Try.prog 11 #[.slice A n c] w fun e w' => e = .returned (.bool true) ∧ Below w.heap.size w w' := by
  obtain ⟨p, hp1, hp2, P3, P4⟩ := least n 600
  have HA := Lib.hid ha; have HN := Lib.hid hn
  clear ha hn
  go_enter Try.func11, Try.ntmps11
  go_wp2_with fail
  refine (octets_any A n c 600 p za _ HA.out HN.out hc (by omega) (by omega) hp1 hp2 P3.out P4.out).mono ?_
  rintro e w1 ⟨A1, c1, rfl, ho1, hb1⟩
  have O1 := Lib.hid ho1
  clear ho1
  go_upto_if 12 with fail
  go_cut [3] (fun v wc => EvenX w v wc)
  case first =>
    by_cases hodd : p % 2 = 1
    · have z : ((p : Int) % 2 == 1) = true := by rw [beq_iff_eq]; omega
      have HO := Lib.hid hodd
      clear hodd
      go_wp2_with (at_builtin; refine wpList_appB rfl _ (.tmp 13) (.tmp 14) rfl w.heap.size A1 p c1 (za.take p) rfl (O1.out.below ((Below.refl _ _).alloc (Nat.le_refl _) _)) _ 1 1 [0] rfl (bs_new w1 _ _ _ (by simp) rfl _ rfl) rfl (p + 1) rfl (by omega) (by have := hb1.size; simp; omega) ?_; intro A2 c2 w2 ho2 hb2; have O2 := Lib.hid ho2; clear ho2)
      go_meet
      exact ⟨A2, p + 1, c2, _, rfl, O2.out, by have := HO.out; omega, by omega, bthen' (bthen hb1 ((Below.refl _ _).alloc (Nat.le_refl _) _)) (Nat.le_refl _) hb2⟩
    · have z : ((p : Int) % 2 == 1) = false := by rw [beq_eq_false_iff_ne]; omega
      have HO := Lib.hid hodd
      clear hodd
      go_wp2_with fail
      go_meet
      exact ⟨A1, p, c1, _, rfl, O1.out, by have := HO.out; omega, by omega, hb1⟩
  case rest =>
    obtain ⟨A2, m, c2, X, rfl, ho2, hm2, hm3, hb2⟩ := hcut
    obtain ⟨wx, rfl⟩ : ∃ wx, wx = wc := ⟨_, rfl⟩
    have O2 := Lib.hid ho2
    have M2 := Lib.hid hm2
    have hbx := ho2.bs
    obtain ⟨f, hf⟩ : ∃ f, f = fo (tot 0 X) := ⟨_, rfl⟩
    have hfb := fo_bd (tot 0 X) (tot_bd0 X ho2.1).1
    rw [← hf] at hfb
    obtain ⟨f0, f1⟩ := hfb
    have HF := Lib.hid hf
    clear ho2 hm2 hf
    have BX := Lib.hid hbx
    clear hbx
    clear O1 hb1
    go_wp2_with fail
    go_loopw [4, 5] (fun v i wr => ∃ (k : Nat) (A3 : Option Addr) (c3 : Nat) (Y : List Int), k % 2 = 0 ∧ k ≤ m ∧ i = .int .i64 k ∧ v = .slice A3 k c3 ∧ OwnB wr wx.heap.size A3 k c3 Y ∧ tot 0 Y = tot 1 (X.take k) ∧ Below wx.heap.size wx wr) (fun _ i _ => m - (intOf i).toNat)
    case atStart => exact ⟨0, none, 0, [], rfl, Nat.zero_le _, rfl, rfl, OwnB.nil _ _, rfl, Below.refl _ _⟩
    case round =>
      obtain ⟨k, A3, c3, Y, hk2, hkm, rfl, rfl, ho3, ht, hb3⟩ := hrel
      have O3 := Lib.hid ho3
      have K2 := Lib.hid hk2
      have HT := Lib.hid ht
      clear ho3 hk2 ht
      by_cases hlt : k < m
      · obtain ⟨b, o, u, rfl, hcu, u0, u1, hu⟩ := (BX.out.below hb3).at k (by rw [O2.out.2.1]; exact hlt)
        have hk1 : k + 1 < m := by have := K2.out; have := M2.out; omega
        obtain ⟨b', o', v, hA, hcv, v0, v1, hv⟩ := (BX.out.below hb3).at (k + 1) (by rw [O2.out.2.1]; exact hk1)
        obtain ⟨rfl, rfl⟩ : b = b' ∧ o = o' := by injection hA with hA; injection hA with h1 h2 h3; exact ⟨h1, h2⟩
        clear hA
        have hl2 : (k : Int) + 1 < m := by omega
        have HU := Lib.hid hu
        have HV := Lib.hid hv
        clear hu hv
        have HB2 : Hid (∀ z ∈ [v, u], 0 ≤ z ∧ z ≤ 255) := Lib.hid (by intro z hz; simp at hz; omega)
        have Y3 := Lib.hid ((O3.out.below (Below.refl _ _).drew).below ((Below.refl _ _).alloc (Nat.le_refl _) (.cells #[.int .u8 v, .int .u8 u] 5)))
        go_wp2_with fail
        have hsz : wx.heap.size ≤ wr.heap.size + 1 := by have := hb3.size; omega
        have hN : k + 2 ≤ 1000000000 := by omega
        have hw0 : (0 : Int) ≤ (k : Int) + 1 := by omega
        have hw1 : IntKind.i64.wrap ((k : Int) + 1) = (k : Int) + 1 := IntWalk.i64_in _ (by omega)
        have hw2 : ((k : Int) + 1).toNat = k + 1 := by omega
        go_region_law (refine step_appB rfl (wr.drew.alloc (.cells #[.int .u8 v, .int .u8 u] 5)) (.tmp 22) (.tmp 32) rfl wx.heap.size A3 k c3 Y (by simp [Act.eval]) Y3.out (some ⟨wr.heap.size, 0, none⟩) 2 2 [v, u] (by simp [Act.eval]) (bs_new wr.drew _ _ _ HB2.out rfl _ rfl) rfl (k + 2) rfl hN (by simpa using hsz) ?_; intro A4 c4 w4 ho4 hb4; have O4 := Lib.hid ho4; clear ho4)
        all_goals
          clear hw0 hw1 hw2
          have HR : Hid (tot 0 (Y ++ [v, u]) = tot 1 (X.take (k + 2))) := Lib.hid (by
            rw [tot_pair Y v u (by rw [O3.out.2.1]; exact K2.out), tot_take1 X k (by rw [O2.out.2.1]; exact hk1) K2.out, HT.out, ← HU.out, ← HV.out])
          have HB4 : Hid (Below wx.heap.size wx w4) := Lib.hid ((hb3.drew.alloc (by simpa using hb3.size) _).trans hb4)
          go_wp2_with fail
          go_roundw
          case rel => exact ⟨k + 2, A4, c4, Y ++ [v, u], by have := K2.out; omega, by omega, by go_num, rfl, O4.out, HR.out, HB4.out⟩
          case measure => simp [intOf]; omega
      · obtain rfl : k = m := by omega
        have HS : Hid (f % 256 * 256 + f / 256 = fo (tot 0 Y)) := Lib.hid (by
          have := fo_swap X Y O2.out.1 (by rw [HT.out, List.take_of_length_le (by rw [O2.out.2.1]; omega)])
          rw [← HF.out] at this; exact this)
        have z2 : decide (f < 65536) = true := by simp; omega
        have HBX := Lib.hid (BX.out.below hb3)
        have HB3 := Lib.hid hb3
        clear hb3
        go_wp2_with fail
        refine (fold_v A2 k c2 X f _ HF HBX.out O2.out.2.1 (by omega)).mono ?_
        rintro e w' ⟨rfl, rfl⟩
        go_wp2_with fail
        refine (sure_any _).mono ?_
        rintro e w5 ⟨rfl, hb5⟩
        go_wp2_with fail
        refine (fold_v A3 k c3 Y (f % 256 * 256 + f / 256) _ HS (O3.out.bs.below hb5) O3.out.2.1 (by omega)).mono ?_
        rintro e w' ⟨rfl, rfl⟩
        go_wp2_with fail
        go_ret
        exact ⟨by simp, bthen (bthen hb2 HB3.out) hb5⟩

end Go.Proofs.Ytkipjdohobklhaa
