/-
  packthreadkeep.TimerOf: a timer behind samples and backs may be.
-/
import Derived.Test.YtoidpnmllmkaeaaRto4
import Derived.Test.YtoidpnmllmkaeaaInts
import Derived.Test.YtoidpnmllmkaeaaPicked
import Derived.Deep.RegionHeld3
import Derived.Laws.NewBlocks
import Derived.Deep.DeepCutAuto
namespace Go.Proofs.Ytoidpnmllmkaeaa
open Go.RowKit
set_option linter.unusedVariables false
set_option linter.unusedSimpArgs false

/-- what TimerOf answers -/
def RetTm (w : World) (e : Ending) (w' : World) : Prop :=
  ∃ s v t b, Tm s v t b ∧ e = .returned (.tuple #[.agg #[.int .i64 s, .int .i64 v, .int .i64 t, .int .i64 b], .bool true]) ∧ Below w.heap.size w w'
/-- the state of its loop: the timer lies at B -/
def TmI (w : World) (n B : Nat) (e i : Value) (wr : World) : Prop :=
  ∃ (k : Nat) (s v t b : Int), k ≤ n ∧ i = .int .i64 k ∧ e = .int .i64 0 ∧ Tm s v t b ∧ Box4 wr B s v t b ∧ Box4 wr w.heap.size 0 0 0 0 ∧ Below w.heap.size w wr

theorem tmI_store {w w3 : World} {n B k : Nat} {a0 a1 a2 a3 s v t b : Int} (hT : Box4 w3 B a0 a1 a2 a3) (hR : Box4 w3 w.heap.size 0 0 0 0) (hb : Below w.heap.size w w3) (hBw : w.heap.size < B) (hk : k + 1 ≤ n) (hm : Tm s v t b) :
    TmI w n B (.int .i64 0) (.int .i64 ((k + 1 : Nat) : Int)) ((((w3.setCell ⟨B, 0, none⟩ (.int .i64 s)).setCell ⟨B, 1, none⟩ (.int .i64 v)).setCell ⟨B, 2, none⟩ (.int .i64 t)).setCell ⟨B, 3, none⟩ (.int .i64 b)) :=
  ⟨k + 1, s, v, t, b, hk, rfl, rfl, hm, hT.store _ _ _ _, (((hR.other (by omega) _).other (by omega) _).other (by omega) _).other (by omega) _, below_store4 hb (by omega) _ _ _ _⟩
theorem tmI_alloc {w wr : World} {n B : Nat} {e i : Value} (h : TmI w n B e i wr) (o : Obj) : TmI w n B e i (wr.alloc o) := by
  obtain ⟨k, s, v, t, b, hk, hi, he, hm, hbt, hbr, hbw⟩ := h
  exact ⟨k, s, v, t, b, hk, hi, he, hm, hbt.below (ba1 _ _), hbr.below (ba1 _ _), hbw.alloc hbw.size _⟩
theorem tmI_kept {w w3 : World} {n B k : Nat} {s v t b : Int} (hT : Box4 w3 B s v t b) (hR : Box4 w3 w.heap.size 0 0 0 0) (hb : Below w.heap.size w w3) (hk : k + 1 ≤ n) (hm : Tm s v t b) :
    TmI w n B (.int .i64 0) (.int .i64 ((k + 1 : Nat) : Int)) w3 := ⟨k + 1, s, v, t, b, hk, rfl, rfl, hm, hT, hR, hb⟩

/-- behind a sample -/
def TmC (w : World) (B : Nat) (S V T : Int) (e : Value) (wc : World) : Prop := e = .int .i64 0 ∧ Box4 wc B S V T 0 ∧ Box4 wc w.heap.size 0 0 0 0 ∧ Below w.heap.size w wc
theorem four_other {w : World} {B S : Nat} {a b c d : Int} (h : Box4 w B a b c d) (hS : ¬ B = S) (v0 v1 v2 v3 : Value) :
    Box4 ((((w.setCell ⟨S, 0, none⟩ v0).setCell ⟨S, 1, none⟩ v1).setCell ⟨S, 2, none⟩ v2).setCell ⟨S, 3, none⟩ v3) B a b c d := (((h.other hS _).other hS _).other hS _).other hS _

theorem first7 (w : World) : Calls Try.prog 13 #[.int .i64 7] w fun e w' => e = .returned (.tuple #[.agg #[.int .i64 56, .int .i64 14, .int .i64 200, .int .i64 0], .int .i64 0]) ∧ Below w.heap.size w w' :=
  first_ok 7 200 w (by omega) (by omega) (by decide)

set_option maxHeartbeats 1000000 in
theorem timerOf_any (A : Option Addr) (n c : Nat) (zs : List Int) (lim : Int) (w : World) (hb : Is w A zs) (hn : zs.length = n) (h47 : n ≤ 17592186043904) :
    Calls Try.prog 19 #[.slice A n c, .int .i64 lim] w (RetTm w) := by
  have HB := Lib.hid hb
  have HN := Lib.hid hn
  clear hb hn
  go_enter Try.func19, Try.ntmps19
  go_wp2_with (go_at_call 13; (refine (first7 _).mono ?_); rintro e w1 ⟨rfl, hb1⟩; have HB1 : Hid (Below w.heap.size w w1) := Lib.hid (bthen (ba1 _ _) hb1); have HR1 : Hid (Box4 w1 w.heap.size 0 0 0 0) := Lib.hid ((box4_new w 0 0 0 0).below hb1); clear hb1)
  obtain ⟨B, hB⟩ : ∃ B, B = w1.heap.size := ⟨_, rfl⟩
  obtain ⟨w2, hw2⟩ : ∃ w2, w2 = w1.alloc (.cells #[.int .i64 56, .int .i64 14, .int .i64 200, .int .i64 0] 23) := ⟨_, rfl⟩
  have HT2 : Hid (Box4 w2 B 56 14 200 0) := Lib.hid (by rw [hw2, hB]; exact box4_new w1 _ _ _ _)
  have HR2 : Hid (Box4 w2 w.heap.size 0 0 0 0) := Lib.hid (by rw [hw2]; exact HR1.out.below (ba1 _ _))
  have HB2 : Hid (Below w.heap.size w w2) := Lib.hid (by rw [hw2]; exact HB1.out.alloc HB1.out.size _)
  have hBw : w.heap.size < B := by rw [hB]; exact HR1.out.cells.1
  rw [← hw2, ← hB]
  clear hw2 hB
  go_loopw [7, 8] (fun e i wr => TmI w n B e i wr) (fun _ i _ => n - (intOf i).toNat)
  case atStart => exact ⟨0, 56, 14, 200, 0, Nat.zero_le _, rfl, rfl, ⟨by omega, by omega, by omega, by omega, by omega, by omega, by omega, by omega⟩, HT2.out, HR2.out, HB2.out⟩
  case round =>
    obtain ⟨k, s, v, t, b, hk, rfl, rfl, hm, hbt, hbr, hbw⟩ := hrel
    have HM := Lib.hid hm; have HT := Lib.hid hbt; have HR := Lib.hid hbr; have HW := Lib.hid hbw
    have hne : ¬ B = w.heap.size := by omega
    clear HB1 HR1 HT2 HR2 HB2 hbt hbr hbw
    obtain ⟨lT, cT0, cT1, cT2, cT3, fT⟩ := (HT.out).cells; have fT0 := fT 0; have fT1 := fT 1; have fT2 := fT 2; have fT3 := fT 3; clear fT
    obtain ⟨lR, cR0, cR1, cR2, cR3, fR⟩ := (HR.out).cells; have fR0 := fR 0; have fR1 := fR 1; have fR2 := fR 2; have fR3 := fR 3; clear fR
    by_cases hlt : k < n
    · by_cases hlim : (k : Int) < lim
      · obtain ⟨z, hz⟩ : ∃ z, zs[k]? = some z := ⟨_, List.getElem?_eq_getElem (by rw [HN.out]; exact hlt)⟩
        obtain ⟨ab, ao, rfl, hab0, hcz0, z0, z1⟩ := HB.out.at k z hz
        have hcz := (HW.out.cell (p := ⟨ab, ao + k, none⟩) hab0).trans hcz0
        have hab : ab < wr.heap.size := Nat.lt_of_lt_of_le hab0 HW.out.size
        have hne3 : ¬ ab = B := by omega
        clear hcz0
        clear hz
        by_cases hneg : z < 0
        · by_cases hfull : b < 12
          · obtain ⟨T, hT⟩ : ∃ T, T = back' t := ⟨_, rfl⟩
            have HM' : Hid (Tm s v T (b + 1)) := Lib.hid (by rw [hT]; exact back_tm hm hfull)
            have hb0 := hm.b0
            have HK := Lib.hid hfull; have HTT := Lib.hid hT
            clear hT hm
            go_wp2_with (go_at_call 17; (refine (back_ok s v t b T _ HM.out HK.out HTT.out).mono ?_); rintro e w3 ⟨rfl, hb3⟩; have HB3 : Hid (Below w.heap.size w w3) := Lib.hid (bthen HW.out hb3); have HT3 := Lib.hid (HT.out.below hb3); have HR3 := Lib.hid (HR.out.below hb3); clear hb3; obtain ⟨lX, cX0, cX1, cX2, cX3, fX⟩ := (HT3.out).cells; have fX0 := fX 0; have fX1 := fX 1; have fX2 := fX 2; have fX3 := fX 3; clear fX)
            exact ⟨tmI_alloc (tmI_store HT3.out HR3.out HB3.out hBw hlt HM'.out) _, by simp [intOf]; omega⟩
          · obtain rfl : b = 12 := by have := hm.b1; omega
            clear hm hfull
            go_wp2_with (go_at_call 17; (refine (back_full s v t 12 _ HM.out (by omega)).mono ?_); rintro e w3 ⟨rfl, hb3⟩; have HB3 : Hid (Below w.heap.size w w3) := Lib.hid (bthen HW.out hb3); have HT3 := Lib.hid (HT.out.below hb3); have HR3 := Lib.hid (HR.out.below hb3); clear hb3; obtain ⟨lX, cX0, cX1, cX2, cX3, fX⟩ := (HT3.out).cells; have fX0 := fX 0; have fX1 := fX 1; have fX2 := fX 2; have fX3 := fX 3; clear fX)
            exact ⟨tmI_alloc (tmI_kept HT3.out HR3.out HB3.out hlt HM.out) _, by simp [intOf]; omega⟩
        · obtain ⟨x, hx⟩ : ∃ x, x = z % 1048577 := ⟨_, rfl⟩
          have HX : Hid (0 ≤ x ∧ x ≤ 1048576) := Lib.hid (by omega)
          obtain ⟨S, hS⟩ : ∃ S, S = srtt' s x := ⟨_, rfl⟩
          obtain ⟨V, hV⟩ : ∃ V, V = var' s v x := ⟨_, rfl⟩
          obtain ⟨T, hT⟩ : ∃ T, T = wait' s v x := ⟨_, rfl⟩
          have HM' : Hid (Tm S V T 0) := Lib.hid (by rw [hS, hV, hT]; exact next_tm hm HX.out.1 HX.out.2)
          have HZ := Lib.hid hx; have HS := Lib.hid hS; have HV := Lib.hid hV; have HTT := Lib.hid hT
          have k0 : (0 : Int) ≤ (k : Int) := Int.natCast_nonneg _
          have k1 : (k : Int) < (n : Int) := by omega
          clear hx hS hV hT hm
          have HNX : Hid (∀ w', Below w.heap.size w w' → Calls Try.prog 15 #[.agg #[.int .i64 s, .int .i64 v, .int .i64 t, .int .i64 b], .int .i64 x] w' fun e w'' => e = .returned (.tuple #[.agg #[.int .i64 S, .int .i64 V, .int .i64 T, .int .i64 0], .int .i64 0]) ∧ Below w'.heap.size w' w'') := Lib.hid fun w' _ => next_ok s v t b x S V T w' HM.out HX.out HS.out HV.out HTT.out
          have HD : Hid (Below w.heap.size w wr.drew) := Lib.hid HW.out.drew
          go_upto_region 11 with fail
          go_region_law (first
            | (go_simp; go_at_call 20; (with_reducible refine (picked_v z 1048577 x _ HZ z0 z1 (by omega) (by omega)).mono ?_); rintro e w3 ⟨rfl, rfl⟩)
            | (go_simp; go_at_call 15; (with_reducible refine (HNX.out wr.drew HD.out).mono ?_); rintro e w3 ⟨rfl, hb3⟩; have HB3 : Hid (Below w.heap.size w w3) := Lib.hid (bthen HD.out hb3); have HT3 : Hid (Box4 w3 B s v t b) := Lib.hid ((hb3.block B lT).trans HT.out); have HR3 : Hid (Box4 w3 w.heap.size 0 0 0 0) := Lib.hid ((hb3.block _ lR).trans HR.out); clear hb3; obtain ⟨lX, cX0, cX1, cX2, cX3, fX⟩ := (HT3.out).cells; have fX0 := fX 0; have fX1 := fX 1; have fX2 := fX 2; have fX3 := fX 3; clear fX))
          all_goals
            go_wp2
            exact ⟨tmI_store HT3.out HR3.out HB3.out hBw hlt HM'.out, by simp [intOf]; omega⟩
      · clear hm
        have HMY : Hid (∀ w', Below w.heap.size w w' → Calls Try.prog 11 #[.agg #[.int .i64 s, .int .i64 v, .int .i64 t, .int .i64 b]] w' fun e w'' => e = .returned (.bool true) ∧ Below w'.heap.size w' w'') := Lib.hid fun w' _ => may_ok s v t b w' HM.out
        have HD : Hid (Below w.heap.size w wr.drew) := Lib.hid HW.out.drew
        go_upto_region 12 with fail
        go_region_law (first
          | (go_simp; go_at_call 11; (with_reducible refine (HMY.out wr.drew HD.out).mono ?_); rintro e w3 ⟨rfl, hb3⟩; have HB3 : Hid (Below w.heap.size w w3) := Lib.hid (bthen HD.out hb3); have HR3 : Hid (Box4 w3 w.heap.size 0 0 0 0) := Lib.hid ((hb3.block _ lR).trans HR.out); have HT3 : Hid (Box4 w3 B s v t b) := Lib.hid ((hb3.block B lT).trans HT.out); clear hb3; obtain ⟨lX, cX0, cX1, cX2, cX3, fX⟩ := (HT3.out).cells; have fX0 := fX 0; have fX1 := fX 1; have fX2 := fX 2; have fX3 := fX 3; clear fX; obtain ⟨lY, cY0, cY1, cY2, cY3, fY⟩ := (HR3.out).cells; have fY0 := fY 0; have fY1 := fY 1; have fY2 := fY 2; have fY3 := fY 3; clear fY))
        all_goals
          go_wp2
          obtain ⟨wf, hwf⟩ : ∃ wf, wf = ((((w3.setCell ⟨w.heap.size, 0, none⟩ (.int .i64 s)).setCell ⟨w.heap.size, 1, none⟩ (.int .i64 v)).setCell ⟨w.heap.size, 2, none⟩ (.int .i64 t)).setCell ⟨w.heap.size, 3, none⟩ (.int .i64 b)) := ⟨_, rfl⟩
          have hf : Box4 wf w.heap.size s v t b := by rw [hwf]; exact HR3.out.store _ _ _ _
          have hbf : Below w.heap.size w wf := by rw [hwf]; exact below_store4 HB3.out (Nat.le_refl _) _ _ _ _
          obtain ⟨-, r0, r1, r2, r3, -⟩ := hf.cells
          rw [← hwf]
          exact end_ret (v := .tuple #[.agg #[.int .i64 s, .int .i64 v, .int .i64 t, .int .i64 b], .bool true]) (by simp [results, Try.results19, go_sem, r0, r1, r2, r3]) ⟨s, v, t, b, HM.out, rfl, hbf⟩
    · clear hm
      have HMY : Hid (∀ w', Below w.heap.size w w' → Calls Try.prog 11 #[.agg #[.int .i64 s, .int .i64 v, .int .i64 t, .int .i64 b]] w' fun e w'' => e = .returned (.bool true) ∧ Below w'.heap.size w' w'') := Lib.hid fun w' _ => may_ok s v t b w' HM.out
      have HD : Hid (Below w.heap.size w wr.drew) := Lib.hid HW.out.drew
      go_upto_region 12 with fail
      go_region_law (first
        | (go_simp; go_at_call 11; (with_reducible refine (HMY.out wr.drew HD.out).mono ?_); rintro e w3 ⟨rfl, hb3⟩; have HB3 : Hid (Below w.heap.size w w3) := Lib.hid (bthen HD.out hb3); have HR3 : Hid (Box4 w3 w.heap.size 0 0 0 0) := Lib.hid ((hb3.block _ lR).trans HR.out); have HT3 : Hid (Box4 w3 B s v t b) := Lib.hid ((hb3.block B lT).trans HT.out); clear hb3; obtain ⟨lX, cX0, cX1, cX2, cX3, fX⟩ := (HT3.out).cells; have fX0 := fX 0; have fX1 := fX 1; have fX2 := fX 2; have fX3 := fX 3; clear fX; obtain ⟨lY, cY0, cY1, cY2, cY3, fY⟩ := (HR3.out).cells; have fY0 := fY 0; have fY1 := fY 1; have fY2 := fY 2; have fY3 := fY 3; clear fY))
      all_goals
        go_wp2
        obtain ⟨wf, hwf⟩ : ∃ wf, wf = ((((w3.setCell ⟨w.heap.size, 0, none⟩ (.int .i64 s)).setCell ⟨w.heap.size, 1, none⟩ (.int .i64 v)).setCell ⟨w.heap.size, 2, none⟩ (.int .i64 t)).setCell ⟨w.heap.size, 3, none⟩ (.int .i64 b)) := ⟨_, rfl⟩
        have hf : Box4 wf w.heap.size s v t b := by rw [hwf]; exact HR3.out.store _ _ _ _
        have hbf : Below w.heap.size w wf := by rw [hwf]; exact below_store4 HB3.out (Nat.le_refl _) _ _ _ _
        obtain ⟨-, r0, r1, r2, r3, -⟩ := hf.cells
        rw [← hwf]
        exact end_ret (v := .tuple #[.agg #[.int .i64 s, .int .i64 v, .int .i64 t, .int .i64 b], .bool true]) (by simp [results, Try.results19, go_sem, r0, r1, r2, r3]) ⟨s, v, t, b, HM.out, rfl, hbf⟩

end Go.Proofs.Ytoidpnmllmkaeaa
