/-
  The walk of packthreadkeep's InetUpdated over this seat's translation.
-/
import Derived.Test.YtkipjdohobklhaaInetKeep
import Derived.Test.YtkipjdohobklhaaInetMath2
import Derived.Test.YtkipjdohobklhaaPicked
import Derived.Test.YtkipjdohobklhaaBytes2
import Derived.WalkKit
import Derived.Handy
import Derived.Lib.Hide
import Derived.Outline
import Derived.OwnWalk
import Derived.Deep.RegionLaw
import Derived.Deep.DeepCutAuto
import Derived.IntWalk
namespace Go.Proofs.Ytkipjdohobklhaa
open Go.RowKit
set_option linter.unusedVariables false

theorem update_v (sum was is r : Int) (w : World) (hr : Hid (r = mended sum was is)) (h0 : 0 ≤ sum) (h1 : sum ≤ 65535) (h2 : 0 ≤ was) (h3 : was ≤ 65535) (h4 : 0 ≤ is) (h5 : is ≤ 65535) :
    Calls Try.prog 17 #[.int .i64 sum, .int .i64 was, .int .i64 is] w fun e w' => e = .returned (.tuple #[.int .i64 r, .int .i64 0]) ∧ Below w.heap.size w w' := by
  rw [hr.out]; exact update_ok sum was is w h0 h1 h2 h3 h4 h5

set_option maxHeartbeats 1000000 in
theorem walkInetUpdated (A : Option Addr) (n c : Nat) (za : List Int) (at' is' : Int) (w : World)
    (ha : Bs w A za) (hn : za.length = n) (hc : n ≤ c) (hr : c ≤ 140737488351232) (hat0 : -9223372036854775808 ≤ at') (hat1 : at' ≤ 9223372036854775807) (his0 : -9223372036854775808 ≤ is') (his1 : is' ≤ 9223372036854775807) :
    Calls Try.prog 9 #[.slice A n c, .int .i64 at', .int .i64 is'] w fun e w' => e = .returned (.bool true) ∧ Below w.heap.size w w' := by
  obtain ⟨p, hp1, hp2, P3, P4⟩ := least n 600
  obtain ⟨x, hx⟩ : ∃ x, x = za.take p := ⟨_, rfl⟩
  have hxl : x.length = p := by rw [hx, List.length_take]; omega
  obtain ⟨N, hN⟩ : ∃ N, N = p + 2 := ⟨_, rfl⟩
  obtain ⟨X, hX⟩ : ∃ X, X = x ++ [1, 2] := ⟨_, rfl⟩
  have hXl : X.length = N := by rw [hX, List.length_append, hxl, hN]; rfl
  have bX : ∀ z ∈ X, 0 ≤ z ∧ z ≤ 255 := by
    intro z hz; rw [hX] at hz; rcases List.mem_append.1 hz with h | h
    · rw [hx] at h; exact ha.1 z (List.mem_of_mem_take h)
    · simp at h; omega
  have hN2 : 2 ≤ N := by omega
  have hN3 : N ≤ 602 := by omega
  obtain ⟨k, K, hk⟩ := pick_nat at' ((N : Int) / 2) (by omega)
  obtain ⟨v, V⟩ : ∃ v, Hid (v = is' % 65536) := ⟨_, Lib.hid rfl⟩
  have v0 : 0 ≤ v := by have := V.out; omega
  have v1 : v ≤ 65535 := by have := V.out; omega
  obtain ⟨i, hi⟩ : ∃ i, i = k * 2 := ⟨_, rfl⟩
  have hi1 : i + 1 < N := by omega
  have hi2 : i % 2 = 0 := by omega
  obtain ⟨a, haa⟩ : ∃ a, a = X.getD i 0 := ⟨_, rfl⟩
  obtain ⟨b, hbb⟩ : ∃ b, b = X.getD (i + 1) 0 := ⟨_, rfl⟩
  have ab := getD_bd X bX i
  have bb := getD_bd X bX (i + 1)
  rw [← haa] at ab; rw [← hbb] at bb
  obtain ⟨a0, a1⟩ := ab
  obtain ⟨b0, b1⟩ := bb
  have hple := pair_le X bX i (by rw [hXl]; exact hi1) hi2
  have htp := tot_put2 X i v (by rw [hXl]; exact hi1) hi2
  rw [← haa, ← hbb] at hple htp
  have tb := fo_bd (tot 0 X) (tot_bd0 X bX).1
  obtain ⟨s, hs⟩ : ∃ s, s = 65535 - fo (tot 0 X) := ⟨_, rfl⟩
  obtain ⟨s0, s1⟩ : 0 ≤ s ∧ s ≤ 65535 := by omega
  obtain ⟨r, hrr⟩ : ∃ r, r = mended s (a * 256 + b) v := ⟨_, rfl⟩
  obtain ⟨q, hq⟩ : ∃ q, q = 65535 - fo (tot 0 (put2 X i v)) := ⟨_, rfl⟩
  obtain ⟨y, hy⟩ : ∃ y, y = fo (tot 0 (put2 X i v)) := ⟨_, rfl⟩
  -- the two ways at the end
  have hend : (r == q) = true ∨ (r == q) = false ∧ (y == 0) = true := by
    rw [hrr, hq, hy, mended, hs, htp]
    by_cases hz : tot 0 X - (256 * a + b) + v = 0
    · right
      have e := mended_no (tot 0 X) (a * 256 + b) v (by omega) (by omega) (by omega) v0 v1 (by omega)
      rw [e, hz]; decide
    · left
      have e := mended_yes (tot 0 X) (a * 256 + b) v (by omega) (by omega) (by omega) v0 v1 (by omega)
      rw [e, beq_iff_eq]; congr 3; omega
  have hor := or8 a b a0 (by omega) b0 b1
  have HE := Lib.hid hend
  have HA := Lib.hid ha; have HN := Lib.hid hn; have HNN := Lib.hid hN
  have HX := Lib.hid hx; have HXX := Lib.hid hX; have HXL := Lib.hid hxl; have HXXL := Lib.hid hXl
  have BX := Lib.hid bX; have HI := Lib.hid hi; have HI2 := Lib.hid hi2
  have Ha := Lib.hid haa; have Hb := Lib.hid hbb; have HS := Lib.hid hs; have HR := Lib.hid hrr; have HQ := Lib.hid hq; have HY := Lib.hid hy
  have HOR := Lib.hid hor
  clear hend ha hn hN hx hX hxl hXl bX hi hi2 haa hbb hs hrr hq hy hple htp tb hor
  go_enter Try.func9, Try.ntmps9
  go_wp2_with fail
  refine (octets_any A n c 600 p za _ HA.out HN.out hc (by omega) (by omega) hp1 hp2 P3.out P4.out).mono ?_
  rintro e w1 ⟨A1, c1, rfl, ho1, hb1⟩
  rw [← HX.out] at ho1
  have O1 := Lib.hid ho1
  clear ho1
  go_wp2_with (first
    | (at_builtin; refine wpList_appB rfl _ (.tmp 14) (.tmp 15) rfl w.heap.size A1 p c1 x rfl (O1.out.below ((Below.refl _ _).alloc (Nat.le_refl _) _)) _ 2 2 [1, 2] rfl (bs_new w1 _ _ _ (by simp) rfl _ rfl) rfl N HNN.out.symm (by omega) (by have := hb1.size; simp; omega) ?_; intro A2 c2 w2 ho2 hb2; rw [← HXX.out] at ho2; have O2 := Lib.hid ho2; clear ho2))
  refine (picked_n at' ((N : Int) / 2) k _ K hat0 hat1 (by omega) (by omega)).mono ?_
  rintro e w' ⟨rfl, rfl⟩
  go_wp2_with fail
  refine (picked_v is' 65536 v _ V his0 his1 (by omega) (by omega)).mono ?_
  rintro e w' ⟨rfl, rfl⟩
  have hk2 : k * 2 + 1 < N := by omega
  have hv : Hid (0 ≤ v / 256 ∧ v / 256 ≤ 255) := Lib.hid (by omega)
  have hv2 : Hid (0 ≤ v % 256 ∧ v % 256 ≤ 255) := Lib.hid (by omega)
  go_wp2_with (at_builtin; refine wpList_appB rfl w2 (.const (.slice none 0 0)) (.tmp 25) rfl w2.heap.size none 0 0 [] rfl (OwnB.nil _ _) A2 N c2 X rfl O2.out.bs HXXL.out N (by omega) (by omega) (Nat.le_refl _) ?_; intro A3 c3 w3 ho3 hb3; obtain ⟨g, rfl, hg0, hg1⟩ := ho3.some_ (by omega); have hc1 := ho3.cell (k * 2) (by omega); have hf1 := ho3.soft (k * 2); have hp1 := ho3.put (k * 2) (v / 256) hv.out; have hc2 := hp1.1.cell (k * 2 + 1) hk2; have hf2 := hp1.1.soft (k * 2 + 1); have hp2 := hp1.1.put (k * 2 + 1) (v % 256) hv2.out; have HP := Lib.hid (And.intro hp1.2 hp2); clear ho3 hp1 hp2)
  generalize hw5 : ((w3.setCell ⟨g, k * 2, none⟩ (.int .u8 (v / 256))).setCell ⟨g, k * 2 + 1, none⟩ (.int .u8 (v % 256))) = w5
  have hO5 : OwnB w5 w2.heap.size (some ⟨g, 0, none⟩) N c3 (put2 X i v) := by
    have h := HP.out.2.1
    rw [hw5] at h
    unfold put2; rw [HI.out]; exact h
  have hB5 : Below w2.heap.size w2 w5 := by
    have h := hb3.trans (HP.out.1.trans HP.out.2.2)
    rw [hw5] at h
    exact h
  have hX5 : Bs w5 A2 X := O2.out.bs.below hB5
  have hX6 := O2.out.below hB5
  obtain ⟨g2, hg2, _, _⟩ := hX6.some_ (by omega)
  subst hg2
  have hca : w5.cell? ⟨g2, k * 2, none⟩ = some (.int .u8 a) := by have := hX6.cell (k * 2) (by omega); rw [← HI.out, ← Ha.out] at this; rw [← HI.out]; exact this
  have hcb : w5.cell? ⟨g2, k * 2 + 1, none⟩ = some (.int .u8 b) := by have := hX6.cell (k * 2 + 1) (by omega); rw [← HI.out, ← Hb.out] at this; rw [← HI.out]; exact this
  have O5 := Lib.hid hO5; have B5 := Lib.hid hB5; have X5 := Lib.hid hX5
  clear hw5 hO5 hB5 hX5 hX6 hc1 hf1 hc2 hf2 HP hb3 hg0 hg1
  go_cut [11, 12] (fun u e wc => u = .int .i64 r ∧ e = .int .i64 0 ∧ Below w5.heap.size w5 wc)
  case first =>
    have h0 : 0 ≤ a * 256 + b ∧ a * 256 + b ≤ 65535 := by omega
    obtain ⟨q0, q1⟩ := h0
    have n0 : (0 : Int) ≤ (k : Int) * 2 := by omega
    have n00 : (k : Int) * 2 < N := by omega
    have n1 : (0 : Int) ≤ (k : Int) * 2 + 1 := by omega
    have n11 : (k : Int) * 2 + 1 < N := by omega
    have n2 : ((k : Int) * 2).toNat = k * 2 := by omega
    have n3 : ((k : Int) * 2 + 1).toNat = k * 2 + 1 := by omega
    have n4 : IntKind.i64.wrap ((k : Int) * 2 + 1) = (k : Int) * 2 + 1 := IntWalk.i64_in _ (by omega)
    have n5 : IntKind.i64.wrap (a * 256) = a * 256 := IntWalk.i64_in _ (by omega)
    have n7 : IntKind.i64.wrap a = a := IntWalk.i64_in _ (by omega)
    have n8 : IntKind.i64.wrap b = b := IntWalk.i64_in _ (by omega)
    have n6 := HOR.out
    have XD : Hid (Bs w5.drew (some ⟨g2, 0, none⟩) X) := Lib.hid (X5.out.below (Below.refl _ _).drew)
    go_region_law (first | (go_simp; go_at_call 14; refine (sum_v _ _ _ X s _ HS XD.out HXXL.out (by omega)).mono ?_; rintro e w' ⟨rfl, rfl⟩) | (go_simp; go_at_call 17; (with_reducible refine (update_v s (a * 256 + b) v r _ HR s0 s1 q0 q1 v0 v1).mono ?_); rintro e w6 ⟨rfl, hb6⟩))
    all_goals
      go_wp2_with fail
      go_meet
      exact ⟨rfl, rfl, (Below.refl _ _).drew.trans hb6⟩
  case rest =>
    obtain ⟨rfl, rfl, hb6⟩ := hcut
    have HB := Lib.hid (bthen (bthen' (bthen' (bthen hb1 ((Below.refl _ _).alloc (Nat.le_refl _) _)) (Nat.le_refl _) hb2) (Nat.le_trans hb1.size (by have := hb2.size; simp at this; omega)) B5.out) hb6)
    have O6 := Lib.hid (O5.out.below hb6)
    have X6 := Lib.hid (X5.out.below hb6)
    rcases HE.out with z | ⟨z, z2⟩
    · go_wp2_with (first
        | (go_at_call 20; refine (sure_any _).mono ?_; rintro e w7 ⟨rfl, hb7⟩)
        | (go_at_call 14; refine (sum_v _ _ _ (put2 X i v) q _ HQ (O6.out.below hb7).bs O6.out.2.1 (by omega)).mono ?_; rintro e w' ⟨rfl, rfl⟩))
      go_ret
      exact ⟨by simp, bthen HB.out hb7⟩
    · go_wp2_with (first
        | (go_at_call 20; refine (sure_any _).mono ?_; rintro e w7 ⟨rfl, hb7⟩)
        | (go_at_call 14; refine (sum_v _ _ _ (put2 X i v) q _ HQ (O6.out.below hb7).bs O6.out.2.1 (by omega)).mono ?_; rintro e w' ⟨rfl, rfl⟩)
        | (go_at_call 12; refine (fold_v _ _ _ (put2 X i v) y _ HY (O6.out.below hb7).bs O6.out.2.1 (by omega)).mono ?_; rintro e w' ⟨rfl, rfl⟩))
      go_ret
      exact ⟨by simp, bthen HB.out hb7⟩

end Go.Proofs.Ytkipjdohobklhaa
