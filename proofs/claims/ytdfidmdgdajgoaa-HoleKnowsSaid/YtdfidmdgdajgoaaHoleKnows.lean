/-
  The walk of HoleKnows.
-/
import Derived.Test.YtdfidmdgdajgoaaHoleMath3
import Derived.Deep.RegionLaw
namespace Go.Proofs.Ytdfidmdgdajgoaa
open Go.RowKit
set_option linter.unusedVariables false

theorem ownI_new (w : World) (base : Nat) (hb : base ≤ w.heap.size) (zs : List Int) (n : Nat) (cs : Array Value) (h0 : ∀ z ∈ zs, -9223372036854775808 ≤ z ∧ z ≤ 9223372036854775807) (hcs : cs = (zs.map (Value.int .i64)).toArray) (hn : zs.length = n) (hm : n ≤ 1000000) (b : Nat) (hbb : b = w.heap.size) :
    OwnI (w.alloc (.cells cs 3)) base (some ⟨b, 0, none⟩) n n zs := by
  subst hbb; subst hcs
  refine ⟨h0, hn, ?_⟩
  have := World.ownsRow_lit (base := base) (e := 3) (size := 1) w (zs.map (Value.int .i64)).toArray n hb (by simp only [maxLen]; omega) (by simp [hn])
  simpa using this

theorem Two.drew {w : World} {b : Nat} {x : Rg} (h : Two w b x) : Two w.drew b x := ⟨h.c0, h.c1, h.f0, h.f1, h.lt⟩
theorem boxed_first (wr w8 : World) (hb8 : Below (wr.alloc (.cells #[.int .i64 0, .int .i64 0] 25)).drew.heap.size (wr.alloc (.cells #[.int .i64 0, .int .i64 0] 25)).drew w8) : Two w8 wr.heap.size (0, 0) ∧ Below wr.heap.size wr w8 :=
  ⟨((two_new wr 25 (0, 0)).drew).below hb8, (((ba1 wr (.cells #[.int .i64 0, .int .i64 0] 25)).drew).trans (hb8.mono (by simp)))⟩

def Knows1 (w : World) (zs : List Int) (m : Nat) (t7 t8 : Value) (wr : World) : Prop :=
  ∃ (k : Nat) (A3 : Option Addr) (c3 : Nat), k ≤ 12 ∧ 2 * k ≤ m ∧ t8 = .int .i64 (2 * (k : Int)) ∧ t7 = .slice A3 (2 * k) c3 ∧ OwnI wr w.heap.size A3 (2 * k) c3 (zs.take (2 * k)) ∧ Below w.heap.size w wr
def Knows2 (w : World) (P : List Rg) (n t : Nat) (t10 t11 : Value) (wr : World) : Prop :=
  ∃ (i : Nat) (A4 : Option Addr) (c4 : Nat) (Y : List Int), i ≤ n ∧ t11 = .int .i64 i ∧ t10 = .slice A4 (2 * i) c4 ∧ OwnI wr w.heap.size A4 (2 * i) c4 Y ∧ (∀ r, r ∈ pairsOf Y ↔ ∃ j, j < i ∧ P[(j + t) % n]? = some r) ∧ Below w.heap.size w wr

def Knows3 (w : World) (P : List Rg) (n : Nat) (x : Int) (t20 t21 : Value) (wr : World) : Prop :=
  ∃ (e : Nat) (q : Bool), e ≤ n ∧ t21 = .int .i64 e ∧ t20 = .bool q ∧ IsIt q (inR (P.take e) x) ∧ Below w.heap.size w wr

set_option maxRecDepth 100000 in
set_option maxHeartbeats 20000000 in
theorem walkHoleKnows (A : Option Addr) (m c : Nat) (zs : List Int) (tu pl : Int) (w : World) (hb : Is w A zs) (hn : zs.length = m) (hc : m ≤ c) (hr : c ≤ 17592186043904)
    (ht0 : -9223372036854775808 ≤ tu) (ht1 : tu ≤ 9223372036854775807) (hp0 : -9223372036854775808 ≤ pl) (hp1 : pl ≤ 9223372036854775807) :
    Calls Try.prog 7 #[.slice A m c, .int .i64 tu, .int .i64 pl] w fun e w' => e = .returned (.bool true) ∧ Below w.heap.size w w' := by
  have HB := Lib.hid hb; have HN := Lib.hid hn
  clear hb hn
  go_enter Try.func7, Try.ntmps7
  go_wp2
  go_loopw [7, 8] (fun a i wr => Knows1 w zs m a i wr) (fun _ i _ => m + 1 - (intOf i).toNat)
  case atStart => exact ⟨0, none, 0, by omega, by omega, rfl, rfl, OwnI.nil _ _, Below.refl _ _⟩
  case round =>
    obtain ⟨k, A3, c3, hk, hkm, rfl, rfl, ho3, hb3⟩ := hrel
    have O3 := Lib.hid ho3
    clear ho3
    by_cases hlt : 2 * k + 1 < m ∧ k < 12
    · obtain ⟨hlt, hk12⟩ := hlt
      obtain ⟨a, b, ha, hb, hd⟩ := drop_two zs k (by rw [HN.out]; exact hlt)
      obtain ⟨bl, o, rfl, hbs, hc1, ha1, ha2⟩ := (HB.out.below hb3).at (2 * k) a ha
      obtain ⟨bl', o', hA, _, hc2, hb1, hb2⟩ := (HB.out.below hb3).at (2 * k + 1) b hb
      obtain ⟨rfl, rfl⟩ : bl = bl' ∧ o = o' := by injection hA with hA; injection hA with h1 h2 h3; exact ⟨h1, h2⟩
      clear hA
      have hY : zs.take (2 * (k + 1)) = zs.take (2 * k) ++ [a, b] := by
        rw [show 2 * (k + 1) = 2 * k + 1 + 1 by omega, List.take_add_one, List.take_add_one, ha, hb]
        simp
      have HY := Lib.hid hY
      have AB : Hid (∀ z ∈ [a, b], -9223372036854775808 ≤ z ∧ z ≤ 9223372036854775807) := Lib.hid (by intro z hz; simp at hz; omega)
      clear ha hb hd hY
      have n0 : (0 : Int) ≤ 2 * (k : Int) := by omega
      have n00 : 2 * (k : Int) < m := by omega
      have n1 : (0 : Int) ≤ 2 * (k : Int) + 1 := by omega
      have n11 : 2 * (k : Int) + 1 < m := by omega
      have n2 : (2 * (k : Int)).toNat = 2 * k := by omega
      have n3' : (2 * (k : Int) + 1).toNat = 2 * k + 1 := by omega
      have n5 : IntKind.i64.wrap (2 * (k : Int) + 1) = 2 * (k : Int) + 1 := IntWalk.i64_in _ (by omega)
      have n6 : (2 * (k : Int)) < 24 := by omega
      have hN : 2 * k + 2 = 2 * (k + 1) := by omega
      have HNN := Lib.hid hN
      clear hN
      have hsz := hb3.size
      go_wp2_with fail
      go_region_law (refine step_appI rfl (wr.drew.alloc (.cells #[.int .i64 a, .int .i64 b] 3)) (.tmp 34) (.tmp 44) rfl w.heap.size A3 (2 * k) c3 (zs.take (2 * k)) (by simp [Act.eval]) (O3.out.below (((Below.refl wr.heap.size wr).drew).alloc (Nat.le_refl _) _)) (some ⟨wr.heap.size, 0, none⟩) 2 2 [a, b] (by simp [Act.eval]) (is_new wr.drew _ _ _ AB.out rfl _ rfl) rfl (2 * (k + 1)) HNN.out (by omega) (by simp; omega) ?_; intro A4 c4 w4 ho4 hb4 hs4; have O4 := Lib.hid ho4; have HB4 := Lib.hid hb4; clear ho4 hb4 hs4)
      all_goals
        clear n0 n00 n1 n11 n2 n3' n5 n6 hc1 hc2
        go_wp2_with fail
        go_roundw
        case rel => exact ⟨k + 1, A4, c4, by omega, by omega, by go_num, rfl, by rw [HY.out]; exact O4.out, (hb3.trans ((((Below.refl wr.heap.size wr).drew).alloc (Nat.le_refl _) _).mono hsz)).trans HB4.out⟩
        case measure => simp [intOf]; omega
    · obtain ⟨wo, rfl⟩ : ∃ wo, wo = wr := ⟨_, rfl⟩
      have ex : (¬ 2 * k + 1 < m) ∨ (2 * k + 1 < m ∧ ¬ k < 12) := by omega
      clear hlt
      obtain ⟨X, hX⟩ : ∃ X, X = zs.take (2 * k) := ⟨_, rfl⟩
      have hOX := O3.out
      rw [← hX] at hOX
      have hlX : X.length = 2 * k := hOX.2.1
      obtain ⟨P, hP⟩ : ∃ P, P = pairsOf X := ⟨_, rfl⟩
      have hlP : P.length = k := by rw [hP]; exact pairs_len k X hlX
      obtain ⟨t, htt⟩ : ∃ t, t = (tu % (k : Int)).toNat := ⟨_, rfl⟩
      have TT := Lib.hid htt
      obtain ⟨⟨d, o⟩, hs⟩ : ∃ s, s = heapOf X 12 := ⟨_, rfl⟩
      have hmay := heap_may X 12
      rw [← hs] at hmay
      simp only at hmay
      obtain ⟨p, hp⟩ : ∃ p, p = o.length := ⟨_, rfl⟩
      have hp16 : p ≤ 16 := by rw [hp]; exact (mayB_to hmay).2.2.1
      obtain ⟨x, hx⟩ : ∃ x, x = pl % 220 := ⟨_, rfl⟩
      have hx0 : 0 ≤ x := by omega
      have hq : 2 * (k : Int) / 2 = (k : Int) := by omega
      have OX := Lib.hid hOX; have LX := Lib.hid hlX; have HPP := Lib.hid hP; have LP := Lib.hid hlP; have HS := Lib.hid hs; have HP := Lib.hid hp; have HX := Lib.hid hx
      clear hOX hlX hP hlP htt hs hp hx O3 hX hmay
      rcases ex with e1 | ⟨e1, e2⟩
      all_goals
        have ez1 : ¬ 2 * (k : Int) + 1 < (m : Int) ∨ ¬ 2 * (k : Int) < 24 := by omega
        have EZ := Lib.hid ez1
        clear ez1
        go_wp2
        clear hq
        go_loopw [10, 11] (fun a i w5 => Knows2 wo P k t a i w5) (fun _ i _ => k - (intOf i).toNat)
        case atStart => exact ⟨0, none, 0, [], by omega, rfl, rfl, OwnI.nil _ _, by intro r; simp [pairsOf], Below.refl _ _⟩
        case round =>
          obtain ⟨i, A4, c4, Y, hik, rfl, rfl, ho4, hset, hb4⟩ := hrel
          have O4 := Lib.hid ho4; have HSET := Lib.hid hset
          clear ho4 hset
          by_cases hlt : i < k
          · obtain ⟨j, hj⟩ : ∃ j, j = (i + t) % k := ⟨_, rfl⟩
            have hjn : j < k := by rw [hj]; exact Nat.mod_lt _ (by omega)
            have hj2 : ((i : Int) + (t : Int)) % (k : Int) = (j : Int) := by rw [hj, Int.natCast_emod, Int.natCast_add]
            have T : Hid ((t : Int) = tu % (k : Int)) := Lib.hid (by rw [TT.out, Int.toNat_of_nonneg (Int.emod_nonneg _ (by omega))])
            have ht3 : (t : Int) < (k : Int) := by rw [T.out]; exact Int.emod_lt_of_pos _ (by omega)
            have J := Lib.hid hj
            clear hj
            obtain ⟨a, b, ha, hb, hd⟩ := drop_two X j (by rw [LX.out]; omega)
            obtain ⟨bl, o', hA3, hbs, hc1, ha1, ha2⟩ := (OX.out.is.below hb4).at (2 * j) a ha
            obtain ⟨bl', o'', hA, _, hc2, hb1, hb2⟩ := (OX.out.is.below hb4).at (2 * j + 1) b hb
            subst hA3
            obtain ⟨rfl, rfl⟩ : bl = bl' ∧ o' = o'' := by injection hA with hA; injection hA with h1 h2 h3; exact ⟨h1, h2⟩
            clear hA
            have hat := pairs_at j X a b ha hb
            rw [← HPP.out, J.out] at hat
            have hnx : ∀ r, r ∈ pairsOf ([a, b] ++ Y) ↔ ∃ j, j < i + 1 ∧ P[(j + t) % k]? = some r := by
              intro r
              simp only [List.cons_append, List.nil_append, pairsOf, List.mem_cons, HSET.out r]
              constructor
              · rintro (rfl | ⟨j, h1, h2⟩)
                · exact ⟨i, by omega, hat⟩
                · exact ⟨j, by omega, h2⟩
              · rintro ⟨j, h1, h2⟩
                by_cases hji : j = i
                · subst hji; rw [hat] at h2; injection h2 with h2; exact .inl h2.symm
                · exact .inr ⟨j, by omega, h2⟩
            have HNX := Lib.hid hnx
            have AB : Hid (∀ z ∈ [a, b], -9223372036854775808 ≤ z ∧ z ≤ 9223372036854775807) := Lib.hid (by intro z hz; simp at hz; omega)
            clear ha hb hd hat hnx
            have n0 : (0 : Int) ≤ 2 * (j : Int) := by omega
            have n00 : 2 * (j : Int) < 2 * k := by omega
            have n1 : (0 : Int) ≤ 2 * (j : Int) + 1 := by omega
            have n11 : 2 * (j : Int) + 1 < 2 * k := by omega
            have n2 : (2 * (j : Int)).toNat = 2 * j := by omega
            have n3' : (2 * (j : Int) + 1).toNat = 2 * j + 1 := by omega
            have n4 : IntKind.i64.wrap (2 * (j : Int)) = 2 * (j : Int) := IntWalk.i64_in _ (by omega)
            have n5 : IntKind.i64.wrap (2 * (j : Int) + 1) = 2 * (j : Int) + 1 := IntWalk.i64_in _ (by omega)
            have hN : 2 + 2 * i = 2 * (i + 1) := by omega
            have HNN := Lib.hid hN
            clear hN
            have hsz := hb4.size
            go_wp2_with (go_at_call 20; refine (picked_n tu (k : Int) t _ T ht0 ht1 (by omega) (by omega)).mono ?_; rintro e w' ⟨rfl, rfl⟩)
            go_region_law (refine step_appI rfl (wr.drew.alloc (.cells #[.int .i64 a, .int .i64 b] 3)) (.tmp 72) (.tmp 73) rfl wo.heap.size (some ⟨wr.heap.size, 0, none⟩) 2 2 [a, b] (by simp [Act.eval]) (ownI_new wr.drew _ hsz [a, b] 2 _ AB.out rfl rfl (by omega) _ rfl) A4 (2 * i) c4 Y (by simp [Act.eval]) (O4.out.below (((Below.refl wr.heap.size wr).drew).alloc (Nat.le_refl _) _)).is O4.out.2.1 (2 * (i + 1)) HNN.out (by omega) (by simp; omega) ?_; intro A6 c6 w6 ho6 hb6 hs6; have O6 := Lib.hid ho6; have HB6 := Lib.hid hb6; clear ho6 hb6 hs6)
            all_goals
              clear n0 n00 n1 n11 n2 n3' n4 n5 hc1 hc2 hj2
              go_wp2_with fail
              go_roundw
              case rel => exact ⟨i + 1, A6, c6, [a, b] ++ Y, by omega, by go_num, rfl, O6.out, HNX.out, (hb4.trans ((((Below.refl wr.heap.size wr).drew).alloc (Nat.le_refl _) _).mono hsz)).trans HB6.out⟩
              case measure => simp [intOf]; omega
          · obtain rfl : i = k := by omega
            obtain ⟨w5, rfl⟩ : ∃ w5, w5 = wr := ⟨_, rfl⟩
            have hk := knows i X Y LX.out O4.out.2.1 (by omega) (fun x => by rw [← HPP.out]; exact rot_set i t P (pairsOf Y) LP.out HSET.out x)
            rw [← HS.out, ← HPP.out] at hk
            obtain ⟨hk1, hk2⟩ := hk
            simp only at hk2
            have hcx : Came d o x ↔ inR P x := by rw [hk2 x]; exact ⟨fun h => h.elim (fun g => absurd g (by omega)) id, .inr⟩
            have HK1 := Lib.hid hk1.symm; have HCX := Lib.hid hcx
            clear hk1 hk2 hcx
            have hszo := hb4.size
            have HYX : Hid ((Y ++ X).length = 2 * i + 2 * i) := Lib.hid (by rw [List.length_append, O4.out.2.1, LX.out])
            go_wp2_with (first
              | (go_at_call 21; (with_reducible refine (heap_v A3 (2 * i) c3 12 _ X d o p _ HS.out HP.out (by omega) (OX.out.is.below hb4) LX.out (by omega) (by omega)).mono ?_); rintro e wa ⟨Aa, ca, rfl, hoa, hba⟩; have OA := Lib.hid hoa; have HBA := Lib.hid hba; clear hoa hba)
              | (at_builtin; refine wpList_appI rfl wa (.tmp 82) (.tmp 83) rfl wo.heap.size A4 (2 * i) c4 Y rfl (O4.out.below HBA.out) A3 (2 * i) c3 X rfl ((OX.out.is.below hb4).below HBA.out) LX.out (2 * i + 2 * i) rfl (by omega) (by have := HBA.out.size; omega) ?_; intro Ac cc wc hoc hbc hsc; have OC := Lib.hid hoc; have HBC := Lib.hid hbc; have OA2 := Lib.hid (OA.out.beside hsc (fun j k hj hk e => by have := (OA.out.lt j hj).1; have := (own_block O4.out.2.2 k hk).2; omega)); clear hoc hbc hsc)
              | (go_at_call 21; (with_reducible refine (heap_v Ac (2 * i + 2 * i) cc 24 _ (Y ++ X) d o p _ HK1.out HP.out (by omega) OC.out.is HYX.out (by omega) (by omega)).mono ?_); rintro e wd ⟨Ad, cd, rfl, hod, hbd⟩; have OD := Lib.hid hod; have HBD := Lib.hid hbd; clear hod hbd)
              | (go_at_call 22; (with_reducible refine (same_keep Aa p ca Ad cd o _ (OA2.out.rs.below HBD.out) OD.out.rs HP.out.symm (by omega)).mono ?_); rintro e we ⟨rfl, hbe⟩; have HBE := Lib.hid hbe; clear hbe)
              | (go_at_call 20; (with_reducible refine (picked_v pl 220 x _ HX hp0 hp1 (by omega) (by omega)).mono ?_); rintro e w' ⟨rfl, rfl⟩))
            have hWE : Below wo.heap.size wo we := ((hb4.trans (HBA.out.mono hszo)).trans HBC.out).trans ((HBD.out.trans (HBE.out.mono HBD.out.size)).mono (Nat.le_trans (Nat.le_trans hszo HBA.out.size) HBC.out.size))
            have OE := Lib.hid (((OA2.out.below HBD.out).rs).below HBE.out)
            have HWE := Lib.hid hWE
            clear hWE HBA HBC HBD HBE OA OA2 OC OD O4 HK1 HSET HS hb4
            go_loopw [20, 21] (fun q j wr => Knows3 we P i x q j wr) (fun _ j _ => i - (intOf j).toNat)
            case atStart => exact ⟨0, false, Nat.zero_le _, rfl, rfl, by simp [IsIt, inR_nil], Below.refl _ _⟩
            case round =>
              obtain ⟨e, q, hek, rfl, rfl, hq, hb7⟩ := hrel
              have HQ := Lib.hid hq
              clear hq
              by_cases hlt : e < i
              · obtain ⟨a, b, ha, hb, hd⟩ := drop_two X e (by rw [LX.out]; omega)
                obtain ⟨bl, o', hA3, hbs, hc1, ha1, ha2⟩ := ((OX.out.is.below HWE.out).below hb7).at (2 * e) a ha
                obtain ⟨bl', o'', hA, _, hc2, hb1, hb2⟩ := ((OX.out.is.below HWE.out).below hb7).at (2 * e + 1) b hb
                subst hA3
                obtain ⟨rfl, rfl⟩ : bl = bl' ∧ o' = o'' := by injection hA with hA; injection hA with h1 h2 h3; exact ⟨h1, h2⟩
                clear hA
                have hat := pairs_at e X a b ha hb
                rw [← HPP.out] at hat
                obtain ⟨r1, hr1⟩ : ∃ r, r = a % 170 := ⟨_, rfl⟩
                obtain ⟨r2, hr2⟩ : ∃ r, r = a % 170 + b % 30 := ⟨_, rfl⟩
                have htk : P.take (e + 1) = P.take e ++ [(r1, r2)] := by rw [List.take_add_one, hat]; simp [rgOf, hr1, hr2]
                have hin : ∀ p : Prop, (inR (P.take (e + 1)) x ↔ inR (P.take e) x ∨ (r1 ≤ x ∧ x < r2)) := fun _ => by rw [htk, inR_app, inR_one]
                have HIN := Lib.hid (hin True)
                have HR1 := Lib.hid hr1; have HR2 := Lib.hid hr2
                clear ha hb hd hat hr1 hr2 htk hin
                have n0 : (0 : Int) ≤ 2 * (e : Int) := by omega
                have n00 : 2 * (e : Int) < 2 * i := by omega
                have n1 : (0 : Int) ≤ 2 * (e : Int) + 1 := by omega
                have n11 : 2 * (e : Int) + 1 < 2 * i := by omega
                have n2 : (2 * (e : Int)).toNat = 2 * e := by omega
                have n3' : (2 * (e : Int) + 1).toNat = 2 * e + 1 := by omega
                have n4 : IntKind.i64.wrap (2 * (e : Int)) = 2 * (e : Int) := IntWalk.i64_in _ (by omega)
                have n5 : IntKind.i64.wrap (2 * (e : Int) + 1) = 2 * (e : Int) + 1 := IntWalk.i64_in _ (by omega)
                rcases q with _ | _
                · have hqn : ¬ inR (P.take e) x := fun h => by have := HQ.out.2 h; cases this
                  by_cases i1 : r1 ≤ x
                  · by_cases i2 : x < r2
                    · have NX : Hid (IsIt true (inR (P.take (e + 1)) x)) := Lib.hid (by simp only [IsIt, HIN.out]; simp [i1, i2])
                      go_wp2_with fail
                      go_region_law (first | (go_simp; go_at_call 23; (with_reducible refine (rangeOf_any a b r1 r2 _ HR1 HR2 ha1 ha2 hb1 hb2).mono ?_); rintro e w8 ⟨rfl, hb8⟩; have HB8 : Hid (Below wr.heap.size wr w8) := Lib.hid (((Below.refl wr.heap.size wr).drew).trans hb8); clear hb8) | (go_simp; go_at_call 23; (with_reducible refine (rangeOf_any a b r1 r2 _ HR1 HR2 ha1 ha2 hb1 hb2).mono ?_); rintro e w8 ⟨rfl, hb8⟩; obtain ⟨hT, hB8⟩ := boxed_first wr w8 hb8; have HB8 := Lib.hid hB8; have hq0 := hT.c0; have hq1 := hT.c1; have hq2 := hT.f0; have hq3 := hT.f1; simp only at hq0 hq1; clear hb8 hB8 hT))
                      all_goals
                        clear n0 n00 n1 n11 n2 n3' n4 n5 hc1 hc2
                        go_wp2_with fail
                        go_roundw
                        case rel => exact ⟨e + 1, true, by omega, by go_num, by first | rfl | (simp; omega), NX.out, (by first | exact bthen (bthen hb7 HB8.out) (ba1 _ _) | exact (bthen (bthen hb7 HB8.out) (ba1 _ _)).drew | exact ((bthen hb7 HB8.out).setCell hb7.size _).setCell hb7.size _ | exact (((bthen hb7 HB8.out).setCell hb7.size _).setCell hb7.size _).drew)⟩
                        case measure => simp [intOf]; omega
                    · have NX : Hid (IsIt false (inR (P.take (e + 1)) x)) := Lib.hid (by simp only [IsIt, HIN.out]; simp [hqn, i1, i2])
                      go_wp2_with fail
                      go_region_law (first | (go_simp; go_at_call 23; (with_reducible refine (rangeOf_any a b r1 r2 _ HR1 HR2 ha1 ha2 hb1 hb2).mono ?_); rintro e w8 ⟨rfl, hb8⟩; have HB8 : Hid (Below wr.heap.size wr w8) := Lib.hid (((Below.refl wr.heap.size wr).drew).trans hb8); clear hb8) | (go_simp; go_at_call 23; (with_reducible refine (rangeOf_any a b r1 r2 _ HR1 HR2 ha1 ha2 hb1 hb2).mono ?_); rintro e w8 ⟨rfl, hb8⟩; obtain ⟨hT, hB8⟩ := boxed_first wr w8 hb8; have HB8 := Lib.hid hB8; have hq0 := hT.c0; have hq1 := hT.c1; have hq2 := hT.f0; have hq3 := hT.f1; simp only at hq0 hq1; clear hb8 hB8 hT))
                      all_goals
                        clear n0 n00 n1 n11 n2 n3' n4 n5 hc1 hc2
                        go_wp2_with fail
                        go_roundw
                        case rel => exact ⟨e + 1, false, by omega, by go_num, by first | rfl | (simp; omega), NX.out, (by first | exact bthen (bthen hb7 HB8.out) (ba1 _ _) | exact (bthen (bthen hb7 HB8.out) (ba1 _ _)).drew | exact ((bthen hb7 HB8.out).setCell hb7.size _).setCell hb7.size _ | exact (((bthen hb7 HB8.out).setCell hb7.size _).setCell hb7.size _).drew)⟩
                        case measure => simp [intOf]; omega
                  · have NX : Hid (IsIt false (inR (P.take (e + 1)) x)) := Lib.hid (by simp only [IsIt, HIN.out]; simp [hqn, i1])
                    go_wp2_with fail
                    go_region_law (first | (go_simp; go_at_call 23; (with_reducible refine (rangeOf_any a b r1 r2 _ HR1 HR2 ha1 ha2 hb1 hb2).mono ?_); rintro e w8 ⟨rfl, hb8⟩; have HB8 : Hid (Below wr.heap.size wr w8) := Lib.hid (((Below.refl wr.heap.size wr).drew).trans hb8); clear hb8) | (go_simp; go_at_call 23; (with_reducible refine (rangeOf_any a b r1 r2 _ HR1 HR2 ha1 ha2 hb1 hb2).mono ?_); rintro e w8 ⟨rfl, hb8⟩; obtain ⟨hT, hB8⟩ := boxed_first wr w8 hb8; have HB8 := Lib.hid hB8; have hq0 := hT.c0; have hq1 := hT.c1; have hq2 := hT.f0; have hq3 := hT.f1; simp only at hq0 hq1; clear hb8 hB8 hT))
                    all_goals
                      clear n0 n00 n1 n11 n2 n3' n4 n5 hc1 hc2
                      go_wp2_with fail
                      go_roundw
                      case rel => exact ⟨e + 1, false, by omega, by go_num, by first | rfl | (simp; omega), NX.out, (by first | exact bthen (bthen hb7 HB8.out) (ba1 _ _) | exact (bthen (bthen hb7 HB8.out) (ba1 _ _)).drew | exact ((bthen hb7 HB8.out).setCell hb7.size _).setCell hb7.size _ | exact (((bthen hb7 HB8.out).setCell hb7.size _).setCell hb7.size _).drew)⟩
                      case measure => simp [intOf]; omega
                · have hqn : inR (P.take e) x := HQ.out.1 rfl
                  have NX : Hid (IsIt true (inR (P.take (e + 1)) x)) := Lib.hid (by simp only [IsIt, HIN.out]; simp [hqn])
                  go_wp2_with fail
                  go_region_law (first | (go_simp; go_at_call 23; (with_reducible refine (rangeOf_any a b r1 r2 _ HR1 HR2 ha1 ha2 hb1 hb2).mono ?_); rintro e w8 ⟨rfl, hb8⟩; have HB8 : Hid (Below wr.heap.size wr w8) := Lib.hid (((Below.refl wr.heap.size wr).drew).trans hb8); clear hb8) | (go_simp; go_at_call 23; (with_reducible refine (rangeOf_any a b r1 r2 _ HR1 HR2 ha1 ha2 hb1 hb2).mono ?_); rintro e w8 ⟨rfl, hb8⟩; obtain ⟨hT, hB8⟩ := boxed_first wr w8 hb8; have HB8 := Lib.hid hB8; have hq0 := hT.c0; have hq1 := hT.c1; have hq2 := hT.f0; have hq3 := hT.f1; simp only at hq0 hq1; clear hb8 hB8 hT))
                  all_goals
                    clear n0 n00 n1 n11 n2 n3' n4 n5 hc1 hc2
                    go_wp2_with fail
                    go_roundw
                    case rel => exact ⟨e + 1, true, by omega, by go_num, by first | rfl | (simp; omega), NX.out, (by first | exact bthen (bthen hb7 HB8.out) (ba1 _ _) | exact (bthen (bthen hb7 HB8.out) (ba1 _ _)).drew | exact ((bthen hb7 HB8.out).setCell hb7.size _).setCell hb7.size _ | exact (((bthen hb7 HB8.out).setCell hb7.size _).setCell hb7.size _).drew)⟩
                    case measure => simp [intOf]; omega
              · obtain rfl : e = i := by omega
                have HF : Hid (IsIt q (Came d o x)) := Lib.hid (by
                  have := HQ.out
                  rw [List.take_of_length_le (by rw [LP.out]; exact Nat.le_refl _)] at this
                  unfold IsIt at this ⊢
                  rw [HCX.out]; exact this)
                go_wp2_with (go_at_call 24; (with_reducible refine (has_any d Aa p ca o x q _ HF (OE.out.below hb7) HP.out.symm hp16).mono ?_); rintro e w' ⟨rfl, rfl⟩)
                go_ret
                exact ⟨by simp, (hb3.trans (HWE.out.mono hb3.size)).trans (hb7.mono (Nat.le_trans hb3.size HWE.out.size))⟩

end Go.Proofs.Ytdfidmdgdajgoaa
