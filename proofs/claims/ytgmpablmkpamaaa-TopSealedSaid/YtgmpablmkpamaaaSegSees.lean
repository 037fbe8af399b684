/-
  The walk of SegSees: a byte that is changed is seen.
-/
import Derived.Test.YtgmpablmkpamaaaSegMake
import Derived.Test.YtgmpablmkpamaaaSegFixed
namespace Go.Proofs.Ytgmpablmkpamaaa
open Go.RowKit Go.Shelf
set_option linter.unusedVariables false
set_option linter.unusedSimpArgs false

theorem xor_u8_nat (a b : Nat) (ha : a < 256) (hb : b < 256) : bits .xor .u8 (a : Int) (b : Int) = ((a ^^^ b : Nat) : Int) := by
  have hx : a ^^^ b < 2 ^ 8 := Nat.xor_lt_two_pow (by omega) (by omega)
  have h1 : (BitVec.ofInt 8 (a : Int)).toNat = a := by
    rw [BitVec.ofInt_natCast, BitVec.toNat_ofNat]; exact Nat.mod_eq_of_lt (by omega)
  have h2 : (BitVec.ofInt 8 (b : Int)).toNat = b := by
    rw [BitVec.ofInt_natCast, BitVec.toNat_ofNat]; exact Nat.mod_eq_of_lt (by omega)
  show IntKind.u8.wrap ((BitVec.ofInt 8 (a : Int) ^^^ BitVec.ofInt 8 (b : Int)).toNat : Int) = _
  rw [BitVec.toNat_xor, h1, h2, IntKind.wrap_u8]
  omega
theorem xor_u8 (x y : Int) (h0 : 0 ≤ x) (h1 : x ≤ 255) (h2 : 0 ≤ y) (h3 : y ≤ 255) : ∃ v, bits .xor .u8 x y = v ∧ 0 ≤ v ∧ v ≤ 255 ∧ (y = 0 → v = x) ∧ (y ≠ 0 → v ≠ x) := by
  obtain ⟨a, rfl⟩ : ∃ a : Nat, x = a := ⟨x.toNat, by omega⟩
  obtain ⟨b, rfl⟩ : ∃ b : Nat, y = b := ⟨y.toNat, by omega⟩
  have hx : a ^^^ b < 2 ^ 8 := Nat.xor_lt_two_pow (by omega) (by omega)
  refine ⟨_, xor_u8_nat a b (by omega) (by omega), by omega, by omega, fun h => ?_, fun h e => ?_⟩
  · have : b = 0 := by omega
    subst this; simp
  · have e' : a ^^^ b = a := by omega
    have : b = 0 := by
      have h5 : a ^^^ (a ^^^ b) = a ^^^ a := congrArg (a ^^^ ·) e'
      rw [← Nat.xor_assoc, Nat.xor_self, Nat.zero_xor] at h5
      exact h5
    omega

set_option maxRecDepth 100000 in
set_option maxHeartbeats 8000000 in
theorem walkSegSees (a b c flags : Int) (A : Option Addr) (n cc : Nat) (zs : List Int) (Dd : Option Addr) (nd cd : Nat) (ds : List Int) (at_ by_ : Int) (w : World) (a1 : -9223372036854775808 ≤ a) (a2 : a ≤ 9223372036854775807) (b1 : -9223372036854775808 ≤ b) (b2 : b ≤ 9223372036854775807) (c1 : -9223372036854775808 ≤ c) (c2' : c ≤ 9223372036854775807) (f1' : -9223372036854775808 ≤ flags) (f2' : flags ≤ 9223372036854775807)
    (hz : Is w A zs) (hn : zs.length = n) (hncc : n ≤ cc) (hcc47 : cc ≤ 17592186043904) (hd : Bs w Dd ds) (hnd : ds.length = nd) (hcd : nd ≤ cd) (hcd47 : cd ≤ 140737488351232) (t1 : -9223372036854775808 ≤ at_) (t2 : at_ ≤ 9223372036854775807) (y1 : 0 ≤ by_) (y2 : by_ ≤ 255) :
    Calls Try.prog 6 #[.int .i64 a, .int .i64 b, .int .i64 c, .int .i64 flags, .slice A n cc, .slice Dd nd cd, .int .i64 at_, .int .u8 by_] w fun e w' => e = .returned (.bool true) ∧ Below w.heap.size w w' := by
  have HSG : Hid (Calls Try.prog 15 #[.int .i64 a, .int .i64 b, .int .i64 c, .int .i64 flags, .slice A n cc, .slice Dd nd cd] w (RetSeg flags w)) := Lib.hid (seg_any a b c flags A n cc zs Dd nd cd ds w a1 a2 b1 b2 c1 c2' f1' f2' hz hn (by omega) hd hnd hcd (by omega))
  have HZ : Hid (∀ w' : World, SegIs w' zeroS none 0 none 0) := Lib.hid (fun _ => ⟨Rs.nil _ _, rfl, bs_nil _ _, rfl⟩)
  have HSM : Hid (∀ (w' : World), Calls Try.prog 16 #[.agg #[.int .i64 0, .int .i64 0, .int .i64 0, .bool false, .bool false, .bool false, .bool false, .slice none 0 0, .slice none 0 0], .agg #[.int .i64 0, .int .i64 0, .int .i64 0, .bool false, .bool false, .bool false, .bool false, .slice none 0 0, .slice none 0 0]] w' fun e w'' => e = .returned (.bool true) ∧ Below w'.heap.size w' w'') := Lib.hid (fun w' => seg_keep zeroS none 0 0 none 0 0 none 0 none 0 w' (HZ.out w') (HZ.out w') (by omega) (by omega))
  clear hz hn hncc hcc47 hd hnd hcd hcd47
  go_enter Try.func6, Try.ntmps6
  go_upto_region 5 with (first
    | (go_at_call 15; refine HSG.out.mono ?_; rintro e w1 ⟨seq, ack, win, f0, f1, f2, f3, l, da, A1, q, k1, D1, m, d1, rfl, ho1, hf1, _, hb1⟩; obtain ⟨N, hN⟩ : ∃ N, 10 + 4 * q + m = N := ⟨_, rfl⟩; obtain ⟨X, hX⟩ : ∃ X, X = bytesOf ⟨seq, ack, win, f0, f1, f2, f3, l, da⟩ := ⟨_, rfl⟩; have hq3 := (fault_zero hf1).2.2.2.1; have hm3 := (fault_zero hf1).2.2.2.2.1; have hq4 : q ≤ 3 := (by rw [← ho1.1.1]; exact hq3); have hm4 : m ≤ 64 := (by rw [← ho1.2.2.1]; exact hm3); have hN10 : 10 ≤ N := (by omega); have hN86 : N ≤ 100 := (by omega); have HEN : Hid (Calls Try.prog 9 #[.agg #[.int .i64 seq, .int .i64 ack, .int .i64 win, .bool f0, .bool f1, .bool f2, .bool f3, .slice A1 q k1, .slice D1 m d1]] w1 (RetE w1 N X)) := Lib.hid (by rw [hX]; exact encode_ok ⟨seq, ack, win, f0, f1, f2, f3, l, da⟩ A1 q k1 D1 m d1 N w1 ho1.is hf1 hN); have HCX : Hid (codeD X = 0) := Lib.hid (by rw [hX]; exact code_bytes _ hf1 ho1.2.1); have HDX : Hid (dec X = ⟨seq, ack, win, f0, f1, f2, f3, l, da⟩) := Lib.hid (by rw [hX]; exact dec_bytes _ hf1); have HQL : Hid (l.length = q ∧ da.length = m) := Lib.hid ⟨ho1.1.1, ho1.2.2.1⟩; have HB1 := Lib.hid hb1; clear ho1 hf1 hb1 hN hX hq3 hm3)
    | (go_at_call 9; refine HEN.out.mono ?_; rintro e w2 ⟨A2, k2, rfl, ho2, hb2⟩; have HO2 := Lib.hid ho2; have HB2 := Lib.hid (bthen HB1.out hb2); clear ho2 hb2)
    | (at_builtin; refine wpList_appB rfl _ (.const (.slice none 0 0)) (.tmp 40) rfl w.heap.size none 0 0 [] rfl (OwnB.nil _ _) A2 N k2 X rfl HO2.out.bs HO2.out.2.1 N (by omega) (by omega) HB2.out.size ?_; intro A3 k3 w3 ho3 hb3 _; have HO3 := Lib.hid ho3; have HB3 := Lib.hid (HB2.out.trans hb3); clear ho3 hb3))
  obtain ⟨j, hj, hjN⟩ := pick_nat at_ N (by omega)
  have ho3 : OwnB w3 w.heap.size A3 N k3 X := HO3.out
  obtain ⟨g, rfl, hg0, hg1⟩ := ho3.some_ (by omega)
  have hjl : j < N := by omega
  have r0 := ho3.cell j hjl; have r1 := ho3.soft j
  have hcap := ho3.cap
  have hbx := getD_bd X ho3.1 j
  obtain ⟨x, hx⟩ : ∃ x, x = X.getD j 0 := ⟨_, rfl⟩
  rw [← hx] at r0 hbx
  obtain ⟨v, hv, v0, v1, ve, vn⟩ := xor_u8 x by_ hbx.1 hbx.2 y1 y2
  have hjI : (j : Int) < (N : Int) := by omega
  obtain ⟨hp1, hp2⟩ := ho3.put j v ⟨v0, v1⟩
  have HP1 := Lib.hid hp1; have HP2 := Lib.hid hp2; have HX := Lib.hid hx
  have hXN : X.length = N := ho3.2.1
  have hXb := ho3.1
  clear ho3 hx hp1 hp2
  by_cases hby : by_ = 0
  · have hset : X.set j v = X := by
      rw [ve hby, HX.out]
      apply List.ext_getElem
      · simp
      · intro i h1 h2
        rw [List.getElem_set]
        split
        · rename_i e; subst e; exact getD_eq X j h2
        · rfl
    have HDD : Hid (∀ w' : World, OwnB w' w.heap.size (some ⟨g, 0, none⟩) N k3 (X.set j v) → Calls Try.prog 12 #[.slice (some ⟨g, 0, none⟩) N k3] w' fun e w'' => ∃ Ad cd D d, e = .returned (.tuple #[.agg #[.int .i64 seq, .int .i64 ack, .int .i64 win, .bool f0, .bool f1, .bool f2, .bool f3, .slice Ad q cd, .slice D m d], .int .i64 0]) ∧ Below w'.heap.size w' w'') := Lib.hid (fun w' h => by
      rw [hset] at h
      refine (decode_good (some ⟨g, 0, none⟩) N k3 X seq ack win f0 f1 f2 f3 l da q m w' h.bs hXN hcap (by omega) HCX.out HDX.out HQL.out.1 HQL.out.2).mono ?_
      rintro e w'' ⟨Ad, cd, D, d, h1, _, h3⟩
      exact ⟨Ad, cd, D, d, h1, h3⟩)
    have zb : (by_ == 0) = true := by rw [beq_iff_eq]; exact hby
    clear hXN hXb hset ve vn hby
    go_wp2_with (first
      | (go_at_call 17; (refine (picked_n at_ N j _ hj t1 t2 (by omega) (by omega)).mono ?_); rintro e w' ⟨rfl, rfl⟩)
      | (go_at_call 12; refine (HDD.out _ HP1.out).mono ?_; rintro e w5 ⟨Ad, cd, D, d, rfl, hb5⟩; have HB5 := Lib.hid (bthen (HB3.out.trans HP2.out) hb5); clear hb5))
    go_ret
    exact ⟨by simp, HB5.out.alloc HB5.out.size _⟩
  · have hcode : codeD (X.set j v) = 6 := changed X hXb HCX.out j (by omega) v ⟨v0, v1⟩ (by rw [← HX.out]; exact vn hby)
    have HDD : Hid (∀ w' : World, OwnB w' w.heap.size (some ⟨g, 0, none⟩) N k3 (X.set j v) → Calls Try.prog 12 #[.slice (some ⟨g, 0, none⟩) N k3] w' fun e w'' => e = .returned (.tuple #[.agg #[.int .i64 0, .int .i64 0, .int .i64 0, .bool false, .bool false, .bool false, .bool false, .slice none 0 0, .slice none 0 0], .int .i64 6]) ∧ Below w'.heap.size w' w'') := Lib.hid (fun w' h => decode_bad (some ⟨g, 0, none⟩) N k3 (X.set j v) 6 w' h.bs (by rw [List.length_set]; exact hXN) hcap (by omega) hcode (by decide))
    have zb : (by_ == 0) = false := by rw [beq_eq_false_iff_ne]; exact hby
    clear hXN hXb hcode ve vn
    go_wp2_with (first
      | (go_at_call 17; (refine (picked_n at_ N j _ hj t1 t2 (by omega) (by omega)).mono ?_); rintro e w' ⟨rfl, rfl⟩)
      | (go_at_call 12; refine (HDD.out _ HP1.out).mono ?_; rintro e w5 ⟨rfl, hb5⟩; have HB5 := Lib.hid (bthen (HB3.out.trans HP2.out) hb5); clear hb5)
      | (go_at_call 16; refine (HSM.out _).mono ?_; rintro e w6 ⟨rfl, hb6⟩; have HB6 := Lib.hid (bthen (HB5.out.alloc HB5.out.size _) hb6); clear hb6))
    go_ret
    exact ⟨by simp, HB6.out⟩

end Go.Proofs.Ytgmpablmkpamaaa
