/-
  The walk of packthreadkeep's InetTurned over this seat's translation.
-/
import Derived.Test.YtkipjdohobklhaaInetKeep
import Derived.Test.YtkipjdohobklhaaInetMath3
import Derived.Test.YtkipjdohobklhaaPicked
import Derived.Test.YtkipjdohobklhaaBytes2
import Derived.WalkKit
import Derived.Handy
import Derived.Lib.Hide
import Derived.Outline
import Derived.OwnWalk
import Derived.Deep.RegionLaw
import Derived.Deep.DeepCutAuto
import Derived.RegionTactic
import Derived.IntWalk
namespace Go.Proofs.Ytkipjdohobklhaa
open Go.RowKit
set_option linter.unusedVariables false

theorem OwnB.cut {w : World} {base : Nat} {A : Option Addr} {n c : Nat} {zs : List Int} (h : OwnB w base A n c zs) (m : Nat) (hm : m ≤ n) : OwnB w base A m c (zs.take m) := by
  refine ⟨fun z hz => h.1 z (List.mem_of_mem_take hz), by rw [List.length_take, h.2.1]; omega, ?_⟩
  refine ⟨by rw [List.length_map, List.length_take, h.2.1]; omega, ?_⟩
  rcases h.2.2.2 with ⟨hv, hn⟩ | ⟨g, cap, cur, hv, hg, hh, hc, hcm, hcs, ht⟩
  · injection hv with hA _ hcc
    subst hA; subst hcc
    exact .inl ⟨by rw [show m = 0 by omega], by omega⟩
  · injection hv with hA _ hcc
    subst hA; subst hcc
    refine .inr ⟨g, _, cur, rfl, hg, hh, by omega, hcm, hcs, ?_⟩
    rw [List.map_take, ← ht, List.take_take, Nat.mul_one, Nat.mul_one, Nat.min_eq_left hm]

theorem own_cap {w : World} {base : Nat} {e : TypeId} {A : Option Addr} {n c : Nat} {vs : List Value} {size : Nat} (h : w.ownsRow base e size (.slice A n c) n vs) : n ≤ c := by
  rcases h.2 with ⟨hv, hn⟩ | ⟨g, cap, cur, hv, _, _, hc, _⟩
  · omega
  · injection hv with _ _ hcc; omega

/-- what the loop of InetTurned keeps -/
def Turning (wx : World) (X : List Int) (h t : Nat) (v i : Value) (wr : World) : Prop :=
  ∃ (k : Nat) (A3 : Option Addr) (c3 : Nat) (Y : List Int), k ≤ h ∧ i = .int .i64 k ∧ v = .slice A3 (2 * k) c3 ∧ OwnB wr wx.heap.size A3 (2 * k) c3 Y ∧ tot 0 Y = rot X h t k ∧ Below wx.heap.size wx wr

set_option maxRecDepth 100000 in
set_option maxHeartbeats 2000000 in
theorem walkInetTurned (A : Option Addr) (n c : Nat) (za : List Int) (tu at' is' : Int) (w : World)
    (ha : Bs w A za) (hn : za.length = n) (hc : n ≤ c) (hr : c ≤ 140737488351232) (htu0 : -9223372036854775808 ≤ tu) (htu1 : tu ≤ 9223372036854775807) (hat0 : -9223372036854775808 ≤ at') (hat1 : at' ≤ 9223372036854775807) (his0 : -9223372036854775808 ≤ is') (his1 : is' ≤ 9223372036854775807) :
    Calls Try.prog 10 #[.slice A n c, .int .i64 tu, .int .i64 at', .int .i64 is'] w fun e w' => e = .returned (.bool true) ∧ Below w.heap.size w w' := by
  obtain ⟨p, hp1, hp2, P3, P4⟩ := least n 400
  obtain ⟨x, hx⟩ : ∃ x, x = za.take p := ⟨_, rfl⟩
  have hxl : x.length = p := by rw [hx, List.length_take]; omega
  obtain ⟨N, hN⟩ : ∃ N, N = p + 2 := ⟨_, rfl⟩
  obtain ⟨X0, hX0⟩ : ∃ X, X = x ++ [3, 4] := ⟨_, rfl⟩
  have hX0l : X0.length = N := by rw [hX0, List.length_append, hxl, hN]; rfl
  have bX0 : ∀ z ∈ X0, 0 ≤ z ∧ z ≤ 255 := by
    intro z hz; rw [hX0] at hz; rcases List.mem_append.1 hz with h | h
    · rw [hx] at h; exact ha.1 z (List.mem_of_mem_take h)
    · simp at h; omega
  obtain ⟨h, hh⟩ : ∃ h, h = N / 2 := ⟨_, rfl⟩
  obtain ⟨M, hM⟩ : ∃ M, M = 2 * h := ⟨_, rfl⟩
  have hMN : M ≤ N := by omega
  have hN3 : N ≤ 402 := by omega
  have h0 : 1 ≤ h := by omega
  have h1 : h ≤ 201 := by omega
  obtain ⟨X, hX⟩ : ∃ X, X = X0.take M := ⟨_, rfl⟩
  have hXl : X.length = M := by rw [hX, List.length_take, hX0l]; omega
  have bX : ∀ z ∈ X, 0 ≤ z ∧ z ≤ 255 := fun z hz => bX0 z (by rw [hX] at hz; exact List.mem_of_mem_take hz)
  have e1 : (N : Int) - (N : Int) % 2 = (M : Int) := by omega
  have e2 : (M : Int) / 2 = (h : Int) := by omega
  have hM0 : M ≤ 402 := by omega
  have hM1 : 2 ≤ M := by omega
  obtain ⟨t, T, ht⟩ := pick_nat tu (h : Int) (by omega)
  have HA := Lib.hid ha; have HN := Lib.hid hn; have HNN := Lib.hid hN
  have HX := Lib.hid hx; have HX0 := Lib.hid hX0; have HXL := Lib.hid hxl; have HX0L := Lib.hid hX0l; have HXX := Lib.hid hX; have HXXL := Lib.hid hXl
  have BX := Lib.hid bX; have HH := Lib.hid hh; have HM := Lib.hid hM
  have E1 := Lib.hid e1; have E2 := Lib.hid e2
  clear ha hn hN hx hX0 hxl hX0l bX0 hh hM hX hXl bX e1 e2
  go_enter Try.func10, Try.ntmps10
  go_wp2_with fail
  refine (octets_any A n c 400 p za _ HA.out HN.out hc (by omega) (by omega) hp1 hp2 P3.out P4.out).mono ?_
  rintro e w1 ⟨A1, c1, rfl, ho1, hb1⟩
  rw [← HX.out] at ho1
  have O1 := Lib.hid ho1
  clear ho1
  go_upto_region 2 with (at_builtin; refine wpList_appB rfl _ (.tmp 21) (.tmp 22) rfl w.heap.size A1 p c1 x rfl (O1.out.below ((Below.refl _ _).alloc (Nat.le_refl _) _)) _ 2 2 [3, 4] rfl (bs_new w1 _ _ _ (by simp) rfl _ rfl) rfl N HNN.out.symm (by omega) (by have := hb1.size; simp; omega) ?_; intro A2 c2 w2 ho2 hb2; rw [← HX0.out] at ho2; have hc2 : N ≤ c2 := (own_cap ho2.2.2); have O2 := Lib.hid ho2; clear ho2)
  have e1 := E1.out
  have e2 := E2.out
  go_wp2_with fail
  have hOX : OwnB w2 w.heap.size A2 M c2 X := by have := O2.out.cut M hMN; rw [← HXX.out] at this; exact this
  obtain ⟨g2, hg2, _, _⟩ := hOX.some_ (by omega)
  subst hg2
  have OX := Lib.hid hOX
  clear hOX O2 O1 e1 e2
  go_loopw [11, 12] (fun v i wr => Turning w2 X h t v i wr) (fun _ i _ => h - (intOf i).toNat)
  case atStart => exact ⟨0, none, 0, [], Nat.zero_le _, rfl, rfl, OwnB.nil _ _, (rot_zero X h t (by omega)).symm, Below.refl _ _⟩
  case round =>
    obtain ⟨k, A3, c3, Y, hk, rfl, rfl, ho3, htot, hb3⟩ := hrel
    have O3 := Lib.hid ho3
    have HT := Lib.hid htot
    clear ho3 htot
    by_cases hlt : k < h
    · obtain ⟨j, hj⟩ : ∃ j, j = (k + t) % h := ⟨_, rfl⟩
      have hjh : j < h := by rw [hj]; exact Nat.mod_lt _ (by omega)
      have hj2 : ((k : Int) + (t : Int)) % (h : Int) = (j : Int) := by rw [hj, Int.natCast_emod, Int.natCast_add]
      have J := Lib.hid hj
      have hjM : 2 * j + 1 < M := by have := HM.out; omega
      have hxr := OX.out.below (hb3)
      obtain ⟨a, haa⟩ : ∃ a, a = X.getD (2 * j) 0 := ⟨_, rfl⟩
      obtain ⟨b, hbb⟩ : ∃ b, b = X.getD (2 * j + 1) 0 := ⟨_, rfl⟩
      have ab := getD_bd X BX.out (2 * j)
      have bb := getD_bd X BX.out (2 * j + 1)
      have hca := hxr.cell (2 * j) (by omega)
      have hcb := hxr.cell (2 * j + 1) (by omega)
      rw [← haa] at ab hca; rw [← hbb] at bb hcb
      have HB2 : Hid (∀ z ∈ [a, b], 0 ≤ z ∧ z ≤ 255) := Lib.hid (by intro z hz; simp at hz; omega)
      have HR : Hid (tot 0 ([a, b] ++ Y) = rot X h t (k + 1)) := Lib.hid (by
        rw [tot_cons2, rot_step X h t k (by omega) hlt (by rw [HXXL.out]; exact HM.out), ← J.out, ← haa, ← hbb, HT.out])
      have HY3 := Lib.hid O3.out.bs
      clear hj haa hbb hxr ab bb
      go_upto_region 9 with (go_at_call 21; refine (picked_n tu (h : Int) t _ T htu0 htu1 (by omega) (by omega)).mono ?_; rintro e w' ⟨rfl, rfl⟩)
      have hsz : w2.heap.size ≤ wr.heap.size := hb3.size
      have n0 : (0 : Int) ≤ 2 * (j : Int) := by omega
      have n00 : 2 * (j : Int) < M := by omega
      have n1 : (0 : Int) ≤ 2 * (j : Int) + 1 := by omega
      have n11 : 2 * (j : Int) + 1 < M := by omega
      have n2 : (2 * (j : Int)).toNat = 2 * j := by omega
      have n3 : (2 * (j : Int) + 1).toNat = 2 * j + 1 := by omega
      have n4 : IntKind.i64.wrap (2 * (j : Int)) = 2 * (j : Int) := IntWalk.i64_in _ (by omega)
      have n5 : IntKind.i64.wrap (2 * (j : Int) + 1) = 2 * (j : Int) + 1 := IntWalk.i64_in _ (by omega)
      have n6 : 2 * (k + 1) ≤ 1000000000 := by omega
      have n7 : 2 + 2 * k = 2 * (k + 1) := by omega
      have N7 := Lib.hid n7
      clear n7
      go_region_law (first
        | (refine step_appB rfl (wr.drew.alloc (.cells #[.int .u8 a, .int .u8 b] 5)) (.const (.slice none 0 0)) (.tmp 58) rfl wr.heap.size none 0 0 [] rfl (OwnB.nil _ _) (some ⟨wr.heap.size, 0, none⟩) 2 2 [a, b] (by simp [Act.eval]) (bs_new wr.drew _ _ _ HB2.out rfl _ rfl) rfl 2 rfl (by decide) (by simp) ?_; intro A5 c5 w5 ho5 hb5; have O5 := Lib.hid ho5; have B5 := Lib.hid (((Below.refl wr.heap.size wr).drew.alloc (Nat.le_refl _) _).trans hb5); clear ho5 hb5)
        | (refine step_appB rfl w5 (.tmp 59) (.tmp 60) rfl wr.heap.size A5 2 c5 [a, b] (by simp [Act.eval]) O5.out A3 (2 * k) c3 Y (by simp [Act.eval]) (HY3.out.below B5.out) O3.out.2.1 (2 * (k + 1)) N7.out n6 B5.out.size ?_; intro A6 c6 w6 ho6 hb6; have O6 := Lib.hid ho6; have B6 := Lib.hid hb6; clear ho6 hb6))
      all_goals
        clear n0 n00 n1 n11 n2 n3 n4 n5 hj2
        have HB6 : Hid (Below w2.heap.size w2 w6) := Lib.hid ((hb3.trans (B5.out.mono hsz)).trans (B6.out.mono hsz))
        go_wp2_with fail
        go_roundw
        case rel => exact ⟨k + 1, A6, c6, [a, b] ++ Y, by omega, by go_num, rfl, O6.out.base hsz, HR.out, HB6.out⟩
        case measure => simp [intOf]; omega
    · obtain rfl : k = h := by omega
      obtain ⟨k1, K1, hk1⟩ := pick_nat at' (k : Int) (by omega)
      obtain ⟨v, V⟩ : ∃ v, Hid (v = is' % 65536) := ⟨_, Lib.hid rfl⟩
      have v0 : 0 ≤ v := by have := V.out; omega
      have v1 : v ≤ 65535 := by have := V.out; omega
      have hi1 : k1 * 2 + 1 < M := by have := HM.out; omega
      have hi2 : k1 * 2 % 2 = 0 := by omega
      obtain ⟨a, haa⟩ : ∃ a, a = X.getD (k1 * 2) 0 := ⟨_, rfl⟩
      obtain ⟨b, hbb⟩ : ∃ b, b = X.getD (k1 * 2 + 1) 0 := ⟨_, rfl⟩
      have ab := getD_bd X BX.out (k1 * 2)
      have bb := getD_bd X BX.out (k1 * 2 + 1)
      rw [← haa] at ab; rw [← hbb] at bb
      obtain ⟨a0, a1⟩ := ab
      obtain ⟨b0, b1⟩ := bb
      have hple := pair_le X BX.out (k1 * 2) (by rw [HXXL.out]; exact hi1) hi2
      have htp := tot_put2 X (k1 * 2) v (by rw [HXXL.out]; exact hi1) hi2
      rw [← haa, ← hbb] at hple htp
      obtain ⟨u, huu⟩ : ∃ u, u = a * 256 + b := ⟨_, rfl⟩
      have u0 : 0 ≤ u := by omega
      have u1 : u ≤ 65535 := by omega
      have hseen := seen (tot 0 X) u v u0 u1 (by omega) v0 v1
      rw [show tot 0 X - u + v = tot 0 (put2 X (k1 * 2) v) by omega] at hseen
      obtain ⟨fx, hfx⟩ : ∃ f, f = fo (tot 0 X) := ⟨_, rfl⟩
      obtain ⟨fz, hfz⟩ : ∃ f, f = fo (tot 0 (put2 X (k1 * 2) v)) := ⟨_, rfl⟩
      rw [← hfx, ← hfz] at hseen
      have hfy : fx = fo (tot 0 Y) := by rw [hfx, HT.out, rot_full X k t (by omega) (by rw [HXXL.out]; exact HM.out)]
      have bfx : 0 ≤ fx ∧ fx ≤ 65535 := by rw [hfx]; exact fo_bd _ (tot_bd0 X BX.out).1
      have bfz : 0 ≤ fz ∧ fz ≤ 65535 := by rw [hfz]; exact fo_bd _ (tot_bd0 _ (put2_bd X BX.out _ v v0 v1)).1
      have hor := or8 a b a0 (by omega) b0 b1
      rw [← huu] at hor
      have SE := Lib.hid hseen; have FX := Lib.hid hfx; have FZ := Lib.hid hfz; have FY := Lib.hid hfy; have HU := Lib.hid huu; have HOR := Lib.hid hor
      have Ha := Lib.hid haa; have Hb := Lib.hid hbb; have HI2 := Lib.hid hi2
      clear hseen hfx hfz hfy huu hor haa hbb hi2 hple htp
      have hv : Hid (0 ≤ v / 256 ∧ v / 256 ≤ 255) := Lib.hid (by omega)
      have hv2 : Hid (0 ≤ v % 256 ∧ v % 256 ≤ 255) := Lib.hid (by omega)
      have X3 := Lib.hid (OX.out.below hb3)
      have BW := Lib.hid (bthen (bthen' (bthen hb1 ((Below.refl _ _).alloc (Nat.le_refl _) _)) (Nat.le_refl _) hb2) hb3)
      clear hb3
      go_wp2_with fail
      refine (picked_n at' (k : Int) k1 _ K1 hat0 hat1 (by omega) (by omega)).mono ?_
      rintro e w' ⟨rfl, rfl⟩
      go_wp2_with fail
      refine (picked_v is' 65536 v _ V his0 his1 (by omega) (by omega)).mono ?_
      rintro e w' ⟨rfl, rfl⟩
      go_upto_region 15 with (at_builtin; refine wpList_appB rfl wr (.const (.slice none 0 0)) (.tmp 68) rfl wr.heap.size none 0 0 [] rfl (OwnB.nil _ _) (some ⟨g2, 0, none⟩) M c2 X rfl X3.out.bs HXXL.out M (by omega) (by omega) (Nat.le_refl _) ?_; intro A4 c4 w4 ho4 hb4; obtain ⟨g, rfl, hg0, hg1⟩ := ho4.some_ (by omega); have hc1 := ho4.cell (k1 * 2) (by omega); have hf1 := ho4.soft (k1 * 2); have hp1 := ho4.put (k1 * 2) (v / 256) hv.out; have hcc2 := hp1.1.cell (k1 * 2 + 1) hi1; have hf2 := hp1.1.soft (k1 * 2 + 1); have hp2 := hp1.1.put (k1 * 2 + 1) (v % 256) hv2.out; have HP := Lib.hid (And.intro hp1.2 hp2); clear ho4 hp1 hp2)
      generalize hw5 : ((w4.setCell ⟨g, k1 * 2, none⟩ (.int .u8 (v / 256))).setCell ⟨g, k1 * 2 + 1, none⟩ (.int .u8 (v % 256))) = w5
      have hO5 : OwnB w5 wr.heap.size (some ⟨g, 0, none⟩) M c4 (put2 X (k1 * 2) v) := by
        have h := HP.out.2.1
        rw [hw5] at h
        unfold put2; exact h
      have hB5 : Below wr.heap.size wr w5 := by
        have h := hb4.trans (HP.out.1.trans HP.out.2.2)
        rw [hw5] at h
        exact h
      have hX6 := X3.out.below hB5
      have hca : w5.cell? ⟨g2, k1 * 2, none⟩ = some (.int .u8 a) := by have := hX6.cell (k1 * 2) (by omega); rw [← Ha.out] at this; exact this
      have hcb : w5.cell? ⟨g2, k1 * 2 + 1, none⟩ = some (.int .u8 b) := by have := hX6.cell (k1 * 2 + 1) (by omega); rw [← Hb.out] at this; exact this
      have O5 := Lib.hid hO5; have B5 := Lib.hid hB5; have X5 := Lib.hid hX6.bs
      have Y5 := Lib.hid (O3.out.bs.below hB5)
      clear hw5 hO5 hB5 hX6 hc1 hf1 hcc2 hf2 HP hb4 hg0 hg1
      go_cut [17] (fun s17 wc => s17 = .int .i64 u ∧ Below w5.heap.size w5 wc)
      case first =>
        have n0 : (0 : Int) ≤ (k1 : Int) * 2 := by omega
        have n00 : (k1 : Int) * 2 < M := by omega
        have n1 : (0 : Int) ≤ (k1 : Int) * 2 + 1 := by omega
        have n11 : (k1 : Int) * 2 + 1 < M := by omega
        have n2 : ((k1 : Int) * 2).toNat = k1 * 2 := by omega
        have n3 : ((k1 : Int) * 2 + 1).toNat = k1 * 2 + 1 := by omega
        have n4 : IntKind.i64.wrap ((k1 : Int) * 2 + 1) = (k1 : Int) * 2 + 1 := IntWalk.i64_in _ (by omega)
        have n5 : IntKind.i64.wrap (a * 256) = a * 256 := IntWalk.i64_in _ (by omega)
        have n7 : IntKind.i64.wrap a = a := IntWalk.i64_in _ (by omega)
        have n8 : IntKind.i64.wrap b = b := IntWalk.i64_in _ (by omega)
        have n6 := HOR.out
        go_region
        all_goals
          go_wp2_with fail
          go_meet
          exact ⟨rfl, (Below.refl _ _).drew⟩
      case rest =>
        obtain ⟨rfl, hb6⟩ := hcut
        have HB := Lib.hid (bthen (bthen BW.out B5.out) hb6)
        have O6 := Lib.hid (O5.out.below hb6)
        have X6 := Lib.hid (X5.out.below hb6)
        have Y6 := Lib.hid (Y5.out.below hb6)
        have YL := Lib.hid O3.out.2.1
        have ZL := Lib.hid O6.out.2.1
        have Z6 := Lib.hid O6.out.bs
        obtain ⟨bx0, bx1⟩ := bfx
        obtain ⟨bz0, bz1⟩ := bfz
        rcases SE.out with ⟨z1, z2⟩ | ⟨z1, z2, z3, z4⟩ | ⟨z1, z2, z3, z4, z5⟩ | ⟨z1, z2, z3, z4, z5⟩ | ⟨z1, z2, z3, z4, z5, z6⟩ | ⟨z1, z2, z3, z4, z5⟩ | ⟨z1, z2, z3⟩
        case' inr.inr.inl => subst z5
        case' inr.inr.inr.inr.inl => subst z6
        all_goals
          clear SE
          go_wp2_with (first
            | (go_at_call 20; refine (sure_any _).mono ?_; rintro e w7 ⟨rfl, hb7⟩)
            | (go_at_call_of 12 (Value.slice (some ⟨g, 0, none⟩) M c4); (with_reducible refine (fold_v _ _ _ (put2 X (k1 * 2) v) _ _ FZ Z6.out ZL.out (by omega)).mono ?_); rintro e w' ⟨rfl, rfl⟩)
            | (go_at_call_of 12 (Value.slice (some ⟨g, 0, none⟩) M c4); (with_reducible refine (fold_v _ _ _ (put2 X (k1 * 2) v) _ _ FZ (Z6.out.below hb7) ZL.out (by omega)).mono ?_); rintro e w' ⟨rfl, rfl⟩)
            | (go_at_call_of 12 (Value.slice (some ⟨g2, 0, none⟩) M c2); (with_reducible refine (fold_v _ _ _ X _ _ FX X6.out HXXL.out (by omega)).mono ?_); rintro e w' ⟨rfl, rfl⟩)
            | (go_at_call_of 12 (Value.slice (some ⟨g2, 0, none⟩) M c2); (with_reducible refine (fold_v _ _ _ X _ _ FX (X6.out.below hb7) HXXL.out (by omega)).mono ?_); rintro e w' ⟨rfl, rfl⟩)
            | (go_at_call 12; (with_reducible refine (fold_v _ _ _ Y _ _ FY (Y6.out.below hb7) YL.out (by omega)).mono ?_); rintro e w' ⟨rfl, rfl⟩))
          go_ret
          exact ⟨by simp, bthen HB.out hb7⟩

end Go.Proofs.Ytkipjdohobklhaa
