/-
  packthreadkeep.TreeRoom.
-/
import Derived.Test.YtdekpmidaleipaaDoorTLast
import Derived.Test.YtdekpmidaleipaaDoorTRoomMath
import Derived.Deep.DeepCutAuto
import Derived.Deep.CutBlock
import Derived.Deep.RegionHeld3
import Derived.BigRegion
import Derived.RegionTactic
namespace Go.Proofs.YtdekpmidaleipaaDoor
open Go.RowKit Go.Maps
set_option linter.unusedVariables false
set_option linter.unusedSimpArgs false

def abc : Byt := [97, 98, 99, 100, 101, 102, 103, 104, 105, 106, 107, 108, 109, 110, 111, 112, 113, 114, 115, 116, 117, 118, 119, 120, 121, 122]
theorem abc_at : ∀ j, j < 26 → (abc.drop j).take 1 = [UInt8.ofNat (97 + j)] := by
  have : ∀ j : Fin 26, (abc.drop j.val).take 1 = [UInt8.ofNat (97 + j.val)] := by decide
  exact fun j hj => this ⟨j, hj⟩
theorem rp_text (i : Nat) (hi : i < 60) : (⟨#[47, 122]⟩ : ByteArray) ++ (tx abc).extract (i % 26) (i % 26 + 1) ++ (tx abc).extract (i / 26) (i / 26 + 1) = tx (rp i) := by
  have h0 : (⟨#[47, 122]⟩ : ByteArray) = tx [47, 122] := rfl
  rw [h0, tx_cut, tx_cut, Nat.add_sub_cancel_left, Nat.add_sub_cancel_left, abc_at _ (Nat.mod_lt _ (by omega)), abc_at _ (by omega), tx_app, tx_app]
  rfl
def mks (k : Nat) : List Acv := (makes k).map plainA
theorem mks_succ (k : Nat) : mks (k + 1) = mks k ++ [plainA (mkA k)] := by unfold mks; rw [makes_succ, List.map_append]; rfl
theorem mks_len (k : Nat) : (mks k).length = k := by unfold mks makes; simp
theorem mks_map (k : Nat) : (mks k).map Acv.a = makes k := plain_map _
theorem mks_at (k i : Nat) (h : i < k) : (mks k)[i]? = some (plainA (mkA i)) := by
  unfold mks makes
  rw [List.getElem?_map, List.getElem?_map, List.getElem?_range h]; rfl
theorem plain_1 (w : World) (S : Nat → Prop) (a : Ac) (h : a.data = []) : AcI1 w S (plainA a) :=
  ⟨⟨by show Ls byS w none a.data; rw [h]; exact Ls.nil _ _, by show a.data.length = 0; rw [h]; rfl, by show ∀ z ∈ a.data, _; rw [h]; simp⟩, Clear.none _⟩

theorem acIn_app {w : World} {a b : List Acv} (h : AcIn w a) (k : AcIn w b) : AcIn w (a ++ b) := fun x hx => (List.mem_append.1 hx).elim (h x) (k x)
/-- what the acts come to is a tree -/
theorem acts_tree2 {w : World} {xs : List Acv} {S : Nat → Prop} (hi : AcI w S xs) (hl : LoA xs) : WF (actsT root0 (xs.map Acv.a)) ∧ LoT (actsT root0 (xs.map Acv.a)) := by
  refine ⟨actsT_wf _ wf_root fun a ha => ?_, actsT_lo _ lo_root fun a ha => ?_⟩
  · obtain ⟨x, hx, rfl⟩ := List.mem_map.1 ha
    exact (hi x hx).1.2.2
  · obtain ⟨x, hx, rfl⟩ := List.mem_map.1 ha
    exact hl x hx

set_option maxRecDepth 100000 in
set_option maxHeartbeats 8000000 in
theorem treeRoom_any (L : Option Addr) (n c : Nat) (l : List Jv) (p : Int) (w : World) (hb : Ls jbS w L l) (hl : l.length = n) (hin : JIn w l) (hn : n ≤ 100000000000000) :
    Calls Tryd.prog 8 #[.slice L n c, .int .i64 p] w fun e w' => e = .returned (.bool true) ∧ Below w.heap.size w w' := by
  have HB := Lib.hid hb
  have HN := Lib.hid hl
  have HI := Lib.hid hin
  clear hb hl hin
  go_enter Tryd.func8, Tryd.ntmps8
  go_upto_block 1 with (go_at_call 9; refine (acts_any L n c 30 l w HB.out HN.out HI.out hn (by omega)).mono ?_; rintro e w1 ⟨k1, A1, c1, xs, rfl, hk, ho1, hi1, hb1, hlo1⟩; have HO1 := Lib.hid ho1; have HI1 := Lib.hid hi1; have HB1 := Lib.hid hb1; have HLO := Lib.hid hlo1; clear ho1 hi1 hb1 hlo1)
  have habc : (⟨#[97, 98, 99, 100, 101, 102, 103, 104, 105, 106, 107, 108, 109, 110, 111, 112, 113, 114, 115, 116, 117, 118, 119, 120, 121, 122]⟩ : ByteArray) = tx abc := rfl
  rw [habc]
  have hsz : (tx abc).size = 26 := rfl
  have HXL : Hid (xs.length = k1) := Lib.hid HO1.out.1
  go_loopw [5, 7] (fun o iv wr => ∃ (i N c : Nat) (A : Option Addr), iv = .int .i64 (i : Int) ∧ i ≤ 60 ∧ N = k1 + i ∧ o = .slice A N c ∧ OwnL acS 36 wr w.heap.size A N c (xs ++ mks i) ∧ AcI wr (fun j => (Value.slice A N c).ownBlock = some j) (xs ++ mks i) ∧ Below w.heap.size w wr) (fun _ iv _ => 60 - (intOf iv).toNat)
  case atStart => exact ⟨0, k1, c1, A1, rfl, Nat.zero_le _, rfl, rfl, by show OwnL acS _ _ _ _ _ _ (xs ++ []); rw [List.append_nil]; exact HO1.out, by show AcI _ _ (xs ++ []); rw [List.append_nil]; exact HI1.out, HB1.out⟩
  case round =>
    obtain ⟨i, N, c2, A2, rfl, hi, hN, rfl, ho2, hi2, hb2⟩ := hrel
    have HO2 := Lib.hid ho2
    have HI2 := Lib.hid hi2
    have HB2 := Lib.hid hb2
    have HNN := Lib.hid hN
    have hNb : N ≤ 90 := by omega
    clear ho2 hi2 hb2 hN
    by_cases hlt : i < 60
    · have hii : decide ((i : Int) < 60) = true := by simp; omega
      have hr1 : (i : Int).tmod 26 = ((i % 26 : Nat) : Int) := by rw [Int.tmod_eq_emod_of_nonneg (by omega)]; omega
      have hr2 : (i : Int).tdiv 26 = ((i / 26 : Nat) : Int) := by rw [Int.tdiv_eq_ediv_of_nonneg (by omega)]; omega
      have hr3 : (i : Int) % 26 = ((i % 26 : Nat) : Int) := by omega
      have hr4 : (i : Int) / 26 = ((i / 26 : Nat) : Int) := by omega
      have hq1 : i % 26 < 26 := Nat.mod_lt _ (by omega)
      have hq2 : i / 26 < 26 := by omega
      have hw1 : IntKind.i64.wrap (((i % 26 : Nat) : Int) + 1) = ((i % 26 + 1 : Nat) : Int) := by rw [IntKind.wrap_i64]; omega
      have hw2 : IntKind.i64.wrap (((i / 26 : Nat) : Int) + 1) = ((i / 26 + 1 : Nat) : Int) := by rw [IntKind.wrap_i64]; omega
      have hw3 : IntKind.i64.wrap ((i % 26 : Nat) : Int) = ((i % 26 : Nat) : Int) := by rw [IntKind.wrap_i64]; omega
      have hw4 : IntKind.i64.wrap ((i / 26 : Nat) : Int) = ((i / 26 : Nat) : Int) := by rw [IntKind.wrap_i64]; omega
      have HST := Lib.hid (rp_text i hlt)
      obtain ⟨a1, ha1⟩ : ∃ a, a = i % 26 := ⟨_, rfl⟩
      obtain ⟨a2, ha2⟩ : ∃ a, a = i / 26 := ⟨_, rfl⟩
      rw [← ha1] at hr1 hr3 hq1 hw1 hw3 HST
      rw [← ha2] at hr2 hr4 hq2 hw2 hw4 HST
      have b1 : 0 ≤ (a1 : Int) + 1 := by omega
      have b2 : (a1 : Int) + 1 ≤ 26 := by omega
      have b3 : (a1 : Int) ≤ (a1 : Int) + 1 := by omega
      have b4 : 0 ≤ (a2 : Int) + 1 := by omega
      have b5 : (a2 : Int) + 1 ≤ 26 := by omega
      have b6 : (a2 : Int) ≤ (a2 : Int) + 1 := by omega
      have b7 : ¬ 9223372036854775807 < 2 + (min (a1 + 1) 26 - a1) := by omega
      have b8 : ¬ 9223372036854775807 < 2 + (min (a1 + 1) 26 - a1) + (min (a2 + 1) 26 - a2) := by omega
      have HEI : Hid (AcI wr (fun j => (Value.slice A2 N c2).ownBlock = some j) (xs ++ mks i ++ [plainA (mkA i)])) := Lib.hid (HI2.out.app (plain_1 _ _ _ rfl))
      clear ha1 ha2
      have HCE : Hid (#[.int .i64 2, .string ((⟨#[47, 122]⟩ : ByteArray) ++ (tx abc).extract a1 (a1 + 1) ++ (tx abc).extract a2 (a2 + 1)), .string ⟨#[]⟩, .int .i64 0, .int .i64 0, .slice none 0 0] = (acS.flat [plainA (mkA i)]).toArray) := Lib.hid (by rw [HST.out]; rfl)
      have HLS := Lib.hid ((ls_new (F := acS) wr 36 [plainA (mkA i)] _ HCE.out wr.heap.size rfl).below (Below.refl _ _).drew)
      go_upto_region 6 with fail
      go_region_law (first
        | ((with_reducible refine step_appL (F := acS) rfl _ (.tmp 22) (.tmp 40) 24 rfl _ 80 Tryd.underlying24 acInfo rfl w.heap.size A2 N c2 (xs ++ mks i) (by first | rfl | simp [Act.eval, Act.put]) (HO2.out.below (ba1 wr _).drew) (some ⟨wr.heap.size, 0, none⟩) 1 1 [plainA (mkA i)] (by first | rfl | simp [Act.eval, Act.put]) HLS.out rfl (N + 1) rfl (by omega) (by omega) (by have := HB2.out.size; simp; omega) ?_); intro A3 c3 w3 ho3 hb3 hs3; have HO3 := Lib.hid ho3; have HB3 := Lib.hid hb3; have HS3 := Lib.hid hs3; clear ho3 hb3 hs3))
      go_wp2_with fail
      have HMS : Hid (xs ++ mks i ++ [plainA (mkA i)] = xs ++ mks (i + 1)) := Lib.hid (by rw [mks_succ, List.append_assoc])
      refine ⟨⟨i + 1, N + 1, c3, A3, by go_num, by omega, by have := HNN.out; omega, rfl, by rw [← HMS.out]; exact HO3.out, ?_, (HB2.out.alloc HB2.out.size _).drew.trans HB3.out⟩, by simp [intOf]; omega⟩
      rw [← HMS.out]
      exact AcI.only (HEI.out.new (ba1 _ _).drew) (HS3.out.only HB3.out) (fun j hj => .inl hj) (fun j hj => HS3.out.own j hj)
    · have hii : decide ((i : Int) < 60) = false := by simp; omega
      obtain rfl : i = 60 := by omega
      have hT := acts_tree2 HI1.out HLO.out
      have hlv : liveN (actsT root0 (xs.map Acv.a)) ≤ 31 := by
        have h1 := live_le (actsT root0 (xs.map Acv.a))
        have h2 := actsT_len (xs.map Acv.a) root0
        rw [List.length_map, HXL.out] at h2
        have h3 : root0.length = 1 := rfl
        omega
      obtain ⟨K, hK, hcode, ra, rb, rc, hlast, hca, hcb, hcc⟩ := room hT.1 hT.2 hlv
      have HCODE := Lib.hid hcode
      have HLAST := Lib.hid hlast
      have HC3 := Lib.hid (And.intro hca (And.intro hcb hcc))
      have HACT : Hid ((xs ++ mks 60).map Acv.a = xs.map Acv.a ++ makes 60) := Lib.hid (by rw [List.map_append, mks_map])
      have HNL : Hid ((seenT root0 ((xs ++ mks 60).map Acv.a)).length = N) := Lib.hid (by rw [seenT_len, List.length_map, HO2.out.1])
      obtain ⟨w2, hw2⟩ : ∃ w2, w2 = wr := ⟨_, rfl⟩
      subst hw2
      clear hcode hlast hca hcb hcc hT hlv
      go_upto_region 8 with (go_at_call 15; refine (grown_any A2 N c2 (xs ++ mks 60) w2 (by omega) HO2.out.ls HO2.out.1 HI2.out.acin).mono ?_; rintro e w3 ⟨A3, c3, m3, ys, rfl, hm3, ho3, hs3, -, hb3⟩; have HM3 := Lib.hid hm3; have HO3 := Lib.hid ho3; have HS3 := Lib.hid hs3; have HB3 := Lib.hid hb3; clear hm3 ho3 hs3 hb3)
      obtain rfl : m3 = N := HM3.out.trans HNL.out
      have HAT : Hid (∀ j, j < 60 → ∃ y : Sv, ys[k1 + j]? = some y ∧ y.s.code = if j ≤ K then 0 else 9) := Lib.hid (fun j hj => by
        obtain ⟨s, h1, h2⟩ := HCODE.out j hj
        have h3 : (seenT root0 ((xs ++ mks 60).map Acv.a))[k1 + j]? = some s := by
          rw [HACT.out, seenT_app, List.getElem?_append_right (by rw [seenT_len, List.length_map, HXL.out]; omega), seenT_len, List.length_map, HXL.out, Nat.add_sub_cancel_left]
          exact h1
        rw [← HS3.out, List.getElem?_map] at h3
        rcases hy : ys[k1 + j]? with _ | y
        · rw [hy] at h3; cases h3
        · rw [hy] at h3
          injection h3 with h3
          exact ⟨y, rfl, by rw [h3]; exact h2⟩)
      have HNK : Hid (m3 = k1 + 60) := Lib.hid HNN.out
      obtain ⟨b3, rfl⟩ : ∃ b3, A3 = some ⟨b3, 0, none⟩ := by
        rcases HO3.out.addr with ⟨-, h0, -⟩ | ⟨g, h0, -⟩
        · have := HNK.out; omega
        · exact ⟨g, h0⟩
      have hb3l := (HO3.out.lt b3 rfl).2
      have HCELL : Hid (∀ j, j < 60 → w3.cell? ⟨b3, (k1 + j) * 5, none⟩ = some (.int .i64 (if j ≤ K then 0 else 9))) := Lib.hid (fun j hj => by
        obtain ⟨y, h1, h2⟩ := HAT.out j hj
        obtain ⟨b, o, hA, -, hc⟩ := HO3.out.ls.at (k1 + j) y h1
        injection hA with hA; injection hA with e1 e2
        subst e1; subst e2
        have := hc 0 (.int .i64 y.s.code) rfl
        rw [h2] at this
        simpa [seS] using this)
      have q59 := HCELL.out 59 (by omega)
      rw [if_neg (by omega)] at q59
      have hw59 : IntKind.i64.wrap ((m3 : Int) - 1) = ((k1 + 59 : Nat) : Int) := by have := HNK.out; rw [IntKind.wrap_i64]; omega
      have hw60 : IntKind.i64.wrap ((m3 : Int) - 60) = (k1 : Int) := by have := HNK.out; rw [IntKind.wrap_i64]; omega
      have hlen59 : k1 + 59 < m3 := by have := HNK.out; omega
      go_upto_block 1 with fail
      clear q59 hw59 hlen59
      obtain ⟨b2, rfl⟩ : ∃ b2, A2 = some ⟨b2, 0, none⟩ := by
        rcases HO2.out.addr with ⟨-, h0, -⟩ | ⟨g, h0, -⟩
        · have := HNK.out; omega
        · exact ⟨g, h0⟩
      go_loopw [10, 11] (fun mv iv wr => ∃ j : Nat, j ≤ 60 ∧ iv = .int .i64 ((k1 + j : Nat) : Int) ∧ mv = .int .i64 (if j = 0 then -1 else ((k1 + min (j - 1) K : Nat) : Int)) ∧ wr = w3) (fun _ iv _ => m3 - (intOf iv).toNat)
      case atStart => exact ⟨0, Nat.zero_le _, rfl, rfl, rfl⟩
      case round =>
        obtain ⟨j, hj, rfl, rfl, rfl⟩ := hrel
        by_cases hjl : j < 60
        · have hji : decide (((k1 + j : Nat) : Int) < (m3 : Int)) = true := by have := HNK.out; simp; omega
          have hjl3 : k1 + j < m3 := by have := HNK.out; omega
          have hwj : IntKind.i64.wrap (((k1 + j : Nat) : Int) + 1) = ((k1 + (j + 1) : Nat) : Int) := by rw [IntKind.wrap_i64]; omega
          have qj := HCELL.out j hjl
          by_cases hjK : j ≤ K
          · rw [if_pos hjK] at qj
            have HMV : Hid (((k1 + j : Nat) : Int) = (if j + 1 = 0 then -1 else ((k1 + min (j + 1 - 1) K : Nat) : Int))) := Lib.hid (by rw [if_neg (by omega), Nat.add_sub_cancel, Nat.min_eq_left hjK])
            obtain ⟨mv, hmv⟩ : ∃ mv : Int, mv = (if j = 0 then -1 else ((k1 + min (j - 1) K : Nat) : Int)) := ⟨_, rfl⟩
            rw [← hmv]
            clear hmv hjK
            go_wp2_with fail
            exact ⟨⟨j + 1, by omega, by go_num, by rw [← HMV.out]; try go_num, trivial⟩, by simp [intOf]; omega⟩
          · rw [if_neg hjK] at qj
            have HMV : Hid ((if j = 0 then -1 else ((k1 + min (j - 1) K : Nat) : Int)) = (if j + 1 = 0 then -1 else ((k1 + min (j + 1 - 1) K : Nat) : Int))) := Lib.hid (by rw [if_neg (by omega), if_neg (by omega), Nat.min_eq_right (by omega), Nat.min_eq_right (by omega)])
            obtain ⟨mv, hmv⟩ : ∃ mv : Int, mv = (if j = 0 then -1 else ((k1 + min (j - 1) K : Nat) : Int)) := ⟨_, rfl⟩
            rw [← hmv] at HMV ⊢
            clear hmv hjK
            go_wp2_with fail
            exact ⟨⟨j + 1, by omega, by go_num, by rw [← HMV.out], trivial⟩, by simp [intOf]; omega⟩
        · obtain rfl : j = 60 := by omega
          have hji : decide (((k1 + 60 : Nat) : Int) < (m3 : Int)) = false := by have := HNK.out; simp; omega
          have hmv : (if 60 = 0 then (-1 : Int) else ((k1 + min (60 - 1) K : Nat) : Int)) = ((k1 + K : Nat) : Int) := by rw [if_neg (by omega), Nat.min_eq_right (by omega)]
          rw [hmv]
          clear hmv hjl
          have hneg : ¬ (((k1 : Int) + (K : Int)) < 0) := by omega
          have hji2 : ¬ ((k1 : Int) + 60 < (m3 : Int)) := by have := HNK.out; omega
          have hkl : k1 + K < m3 := by have := HNK.out; omega
          have hel : (xs ++ mks 60)[k1 + K]? = some (plainA (mkA K)) := by
            rw [List.getElem?_append_right (by rw [HXL.out]; omega), HXL.out, Nat.add_sub_cancel_left]
            exact mks_at 60 K (by omega)
          have HO4 := Lib.hid (HO2.out.below HB3.out)
          obtain ⟨b', o', hA', hbl, hcc⟩ := HO4.out.ls.at (k1 + K) _ hel
          injection hA' with hA'; injection hA' with e1 e2
          subst e1; subst e2
          have f1 := hcc 1 (.string (tx (rp K))) rfl
          simp only [acS, Nat.zero_add] at f1
          clear hcc hel
          obtain ⟨w4, hw4⟩ : ∃ w4, w4 = wr.alloc (.cells #[.int .i64 8, .string (tx (rp K)), .string ⟨#[]⟩, .int .i64 0, .int .i64 0, .slice none 0 0] 36) := ⟨_, rfl⟩
          obtain ⟨q4, hq4⟩ : ∃ q4, q4 = wr.heap.size := ⟨_, rfl⟩
          have HW4 := Lib.hid hw4
          have HQ4 := Lib.hid hq4
          clear hw4 hq4
          go_upto_region 19 with fail
          rw [← HW4.out, ← HQ4.out]
          have HX4 : Hid (Bx 36 w4 q4 #[.int .i64 8, .string (tx (rp K)), .string ⟨#[]⟩, .int .i64 0, .int .i64 0, .slice none 0 0]) := Lib.hid (by rw [HW4.out, HQ4.out]; exact bx_new _ _ _)
          have HB4 : Hid (Below wr.heap.size wr w4) := Lib.hid (by rw [HW4.out]; exact ba1 _ _)
          have HO5 := Lib.hid (HO4.out.below HB4.out)
          have HOL5 : Hid ((xs ++ mks 60).length = m3) := Lib.hid HO2.out.1
          obtain ⟨ys3, hys⟩ : ∃ ys3 : List Acv, ys3 = [plainA ⟨8, rp K, [], 0, 0, []⟩, plainA ⟨1, zzP, [], 0, 0, []⟩, plainA ⟨1, 47 :: zzzN, [], 0, 0, []⟩] := ⟨_, rfl⟩
          have HY3 : Hid (ys3.length = 3) := Lib.hid (by rw [hys]; rfl)
          have HCE : Hid (#[.int .i64 8, .string (tx (rp K)), .string ⟨#[]⟩, .int .i64 0, .int .i64 0, .slice none 0 0, .int .i64 1, .string ⟨#[47, 122, 122]⟩, .string ⟨#[]⟩, .int .i64 0, .int .i64 0, .slice none 0 0, .int .i64 1, .string ⟨#[47, 122, 122, 122]⟩, .string ⟨#[]⟩, .int .i64 0, .int .i64 0, .slice none 0 0] = (acS.flat ys3).toArray) := Lib.hid (by rw [hys]; rfl)
          have HYI : Hid (∀ wx, AcIn wx ys3) := Lib.hid (fun wx => by rw [hys]; exact plain_in wx [⟨8, rp K, [], 0, 0, []⟩, ⟨1, zzP, [], 0, 0, []⟩, ⟨1, 47 :: zzzN, [], 0, 0, []⟩] (by simp))
          have HYM : Hid (ys3.map Acv.a = [⟨8, rp K, [], 0, 0, []⟩, ⟨1, zzP, [], 0, 0, []⟩, ⟨1, 47 :: zzzN, [], 0, 0, []⟩]) := Lib.hid (by rw [hys]; rfl)
          have HSLW := Lib.hid (fun wx : World => ls_new (F := acS) wx 36 ys3 _ HCE.out wx.heap.size rfl)
          have HII : Hid (AcIn w4 (xs ++ mks 60)) := Lib.hid ((HI2.out.acin.below HB3.out).below HB4.out)
          obtain ⟨M, hM⟩ : ∃ M, M = m3 + 3 := ⟨_, rfl⟩
          have HM := Lib.hid hM
          have hMb : M ≤ 300 := by have := HNK.out; omega
          have HLL : Hid ((xs ++ mks 60 ++ ys3).length = M) := Lib.hid (by rw [List.length_append, HO2.out.1, HY3.out, HM.out])
          have HSE : Hid (seenT root0 ((xs ++ mks 60 ++ ys3).map Acv.a) = seenT root0 ((xs ++ mks 60).map Acv.a) ++ [ra, rb, rc]) := Lib.hid (by
            rw [List.map_append, seenT_app, HYM.out, ← HLAST.out, ← actsT_app, ← HACT.out])
          have HSL : Hid ((seenT root0 ((xs ++ mks 60).map Acv.a)).length = m3) := Lib.hid (by rw [seenT_len, List.length_map, HO2.out.1])
          obtain ⟨I1, hI1⟩ : ∃ I, I = m3 + 1 := ⟨_, rfl⟩
          obtain ⟨I2, hI2⟩ : ∃ I, I = m3 + 2 := ⟨_, rfl⟩
          have HI1' := Lib.hid hI1
          have HI2' := Lib.hid hI2
          have hwA : IntKind.i64.wrap ((M : Int) - 3) = (m3 : Int) := by rw [IntKind.wrap_i64]; omega
          have hwB : IntKind.i64.wrap ((M : Int) - 2) = (I1 : Int) := by rw [IntKind.wrap_i64]; omega
          have hwC : IntKind.i64.wrap ((M : Int) - 1) = (I2 : Int) := by rw [IntKind.wrap_i64]; omega
          have hlA : m3 < M := by omega
          have hlB : I1 < M := by omega
          have hlC : I2 < M := by omega
          clear hI1 hI2
          obtain ⟨u0, g0, g1, g2, g3, g4, g5, -⟩ := HX4.out.all6
          clear hys hM f1 hbl hb3l
          go_region_law (first
            | ((with_reducible refine step_appL (F := acS) rfl w4.drew (.const (.slice none 0 0)) (.tmp 84) 24 rfl _ 80 Tryd.underlying24 acInfo rfl w4.heap.size none 0 0 [] (by first | rfl | simp [Act.eval, Act.put]) (OwnL.nil _ _) (some ⟨b2, 0, none⟩) m3 c2 (xs ++ mks 60) (by first | rfl | simp [Act.eval, Act.put]) (HO5.out.below (Below.refl _ _).drew).ls HOL5.out m3 (by omega) (by omega) (by omega) (Nat.le_refl _) ?_); intro A7 c7 w7 ho7 hb7 _; rw [List.nil_append] at ho7; have HO7 := Lib.hid ho7; have HB7 : Hid (Below w4.heap.size w4 w7) := Lib.hid ((Below.refl _ _).drew.trans hb7); clear ho7 hb7; obtain ⟨u0, g0, g1, g2, g3, g4, g5, -⟩ := (HX4.out.below HB7.out).all6)
            | ((with_reducible refine step_appL (F := acS) rfl (w4.alloc (.cells #[.int .i64 8, .string (tx (rp K)), .string ⟨#[]⟩, .int .i64 0, .int .i64 0, .slice none 0 0, .int .i64 1, .string ⟨#[47, 122, 122]⟩, .string ⟨#[]⟩, .int .i64 0, .int .i64 0, .slice none 0 0, .int .i64 1, .string ⟨#[47, 122, 122, 122]⟩, .string ⟨#[]⟩, .int .i64 0, .int .i64 0, .slice none 0 0] 36)).drew (.const (.slice none 0 0)) (.tmp 84) 24 rfl _ 80 Tryd.underlying24 acInfo rfl (w4.alloc (.cells #[.int .i64 8, .string (tx (rp K)), .string ⟨#[]⟩, .int .i64 0, .int .i64 0, .slice none 0 0, .int .i64 1, .string ⟨#[47, 122, 122]⟩, .string ⟨#[]⟩, .int .i64 0, .int .i64 0, .slice none 0 0, .int .i64 1, .string ⟨#[47, 122, 122, 122]⟩, .string ⟨#[]⟩, .int .i64 0, .int .i64 0, .slice none 0 0] 36)).drew.heap.size none 0 0 [] (by first | rfl | simp [Act.eval, Act.put]) (OwnL.nil _ _) (some ⟨b2, 0, none⟩) m3 c2 (xs ++ mks 60) (by first | rfl | simp [Act.eval, Act.put]) (HO5.out.below (ba1 _ _).drew).ls HOL5.out m3 (by omega) (by omega) (by omega) (Nat.le_refl _) ?_); intro A8 c8 w8 ho8 hb8 _; rw [List.nil_append] at ho8; have HO8 := Lib.hid ho8; have HZ8 := Lib.hid hb8.size; have HB8 : Hid (Below w4.heap.size w4 w8) := Lib.hid (bthen (ba1 _ _).drew hb8); have HL8 := Lib.hid (((HSLW.out w4).below (Below.refl _ _).drew).below hb8); clear ho8 hb8)
            | ((with_reducible refine step_appL (F := acS) rfl (w7.alloc (.cells #[.int .i64 8, .string (tx (rp K)), .string ⟨#[]⟩, .int .i64 0, .int .i64 0, .slice none 0 0, .int .i64 1, .string ⟨#[47, 122, 122]⟩, .string ⟨#[]⟩, .int .i64 0, .int .i64 0, .slice none 0 0, .int .i64 1, .string ⟨#[47, 122, 122, 122]⟩, .string ⟨#[]⟩, .int .i64 0, .int .i64 0, .slice none 0 0] 36)) (.tmp 85) (.tmp 89) 24 rfl _ 80 Tryd.underlying24 acInfo rfl w4.heap.size A7 m3 c7 (xs ++ mks 60) (by first | rfl | simp [Act.eval, Act.put]) (HO7.out.below (ba1 _ _)) (some ⟨w7.heap.size, 0, none⟩) 3 3 ys3 (by first | rfl | simp [Act.eval, Act.put]) (HSLW.out w7) HY3.out M HM.out.symm (by omega) (by omega) (by have := HB7.out.size; simp; omega) ?_); intro A9 c9 w9 ho9 hb9 _; have HO9 := Lib.hid ho9; have HB9 : Hid (Below w4.heap.size w4 w9) := Lib.hid ((HB7.out.alloc HB7.out.size _).trans hb9); clear ho9 hb9)
            | ((with_reducible refine step_appL (F := acS) rfl w8 (.tmp 85) (.tmp 89) 24 rfl _ 80 Tryd.underlying24 acInfo rfl (w4.alloc (.cells #[.int .i64 8, .string (tx (rp K)), .string ⟨#[]⟩, .int .i64 0, .int .i64 0, .slice none 0 0, .int .i64 1, .string ⟨#[47, 122, 122]⟩, .string ⟨#[]⟩, .int .i64 0, .int .i64 0, .slice none 0 0, .int .i64 1, .string ⟨#[47, 122, 122, 122]⟩, .string ⟨#[]⟩, .int .i64 0, .int .i64 0, .slice none 0 0] 36)).drew.heap.size A8 m3 c8 (xs ++ mks 60) (by first | rfl | simp [Act.eval, Act.put]) HO8.out (some ⟨w4.heap.size, 0, none⟩) 3 3 ys3 (by first | rfl | simp [Act.eval, Act.put]) HL8.out HY3.out M HM.out.symm (by omega) (by omega) HZ8.out ?_); intro A9 c9 w9 ho9 hb9 _; have HO9 := Lib.hid (ho9.base (show w4.heap.size ≤ _ by simp)); have HB9 : Hid (Below w4.heap.size w4 w9) := Lib.hid (HB8.out.trans (hb9.mono (by simp))); clear ho9 hb9)
            | (go_simp; go_at_call 15; (with_reducible refine (grown_any A9 M c9 (xs ++ mks 60 ++ ys3) w9 hMb HO9.out.ls HLL.out (acIn_app (HII.out.below HB9.out) (HYI.out w9))).mono ?_); rintro e w10 ⟨B1, d1, r1, zs, rfl, hr1, ho10, hs10, -, hb10⟩; have HR1 := Lib.hid hr1; have HO10 := Lib.hid ho10; have HS10 := Lib.hid hs10; have HB10 : Hid (Below w4.heap.size w4 w10) := Lib.hid (bthen HB9.out hb10); clear hr1 ho10 hs10 hb10))
          all_goals
            clear u0 g0 g1 g2 g3 g4 g5
            obtain rfl : r1 = M := by
              rw [HR1.out, HSE.out, List.length_append, HSL.out]
              exact HM.out.symm
            have HGET : Hid (∀ (j : Nat) (s : Sn), ([ra, rb, rc] : List Sn)[j]? = some s → ∃ y : Sv, zs[m3 + j]? = some y ∧ y.s = s) := Lib.hid (fun j s hj => by
              have h3 : (seenT root0 ((xs ++ mks 60 ++ ys3).map Acv.a))[m3 + j]? = some s := by
                rw [HSE.out, List.getElem?_append_right (by rw [HSL.out]; omega), HSL.out, Nat.add_sub_cancel_left]
                exact hj
              rw [← HS10.out, List.getElem?_map] at h3
              rcases hy : zs[m3 + j]? with _ | y
              · rw [hy] at h3; cases h3
              · rw [hy] at h3
                injection h3 with h3
                exact ⟨y, rfl, h3⟩)
            obtain ⟨b9, rfl⟩ : ∃ b9, B1 = some ⟨b9, 0, none⟩ := by
              rcases HO10.out.addr with ⟨-, h0, -⟩ | ⟨g, h0, -⟩
              · omega
              · exact ⟨g, h0⟩
            have HCL : Hid (∀ (j : Nat) (s : Sn), ([ra, rb, rc] : List Sn)[j]? = some s → w10.cell? ⟨b9, (m3 + j) * 5, none⟩ = some (.int .i64 s.code)) := Lib.hid (fun j s hj => by
              obtain ⟨y, h1, h2⟩ := HGET.out j s hj
              obtain ⟨b, o, hA, -, hc⟩ := HO10.out.ls.at (m3 + j) y h1
              injection hA with hA; injection hA with e1 e2
              subst e1; subst e2
              have := hc 0 (.int .i64 y.s.code) rfl
              rw [h2] at this
              simpa [seS] using this)
            have v0 : w10.cell? ⟨b9, m3 * 5, none⟩ = some (.int .i64 0) := by rw [← HC3.out.1]; exact HCL.out 0 ra rfl
            have v1 : w10.cell? ⟨b9, I1 * 5, none⟩ = some (.int .i64 0) := by rw [HI1'.out, ← HC3.out.2.1]; exact HCL.out 1 rb rfl
            have v2 : w10.cell? ⟨b9, I2 * 5, none⟩ = some (.int .i64 9) := by rw [HI2'.out, ← HC3.out.2.2]; exact HCL.out 2 rc rfl
            have hb9 := (HO10.out.lt b9 rfl).2
            have HFIN : Hid (Below w.heap.size w w10) := Lib.hid (bthen (bthen (bthen HB2.out HB3.out) HB4.out) HB10.out)
            go_wp2_with fail
            go_ret
            exact ⟨rfl, HFIN.out⟩
theorem walkTreeRoom (A : Option Addr) (n c : Nat) (z : List Jv) (p : Int) (w : World) (hb : Ls jbS w A z) (hn : z.length = n) (hc : n ≤ c) (hr : c ≤ 3518437208782) (hi : JIn w z) :
    Calls Tryd.prog 8 #[.slice A n c, .int .i64 p] w fun e w' => e = .returned (.bool true) ∧ Below w.heap.size w w' := treeRoom_any A n c z p w hb hn hi (by omega)

end Go.Proofs.YtdekpmidaleipaaDoor
