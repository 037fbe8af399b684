/-
  Whether a request has something that its Kind does not name.
-/
import Derived.Test.YtelfnlocgknpjaaMWipe
import Derived.Deep.CutBlock
namespace Go.Proofs.Ytelfnlocgknpjaa
open Go.RowKit
set_option linter.unusedVariables false
set_option linter.unusedSimpArgs false

def PV.nz : PV → Bool
  | .n v => v != 0
  | .t s => !s.isEmpty
  | .d _ m _ _ => decide (0 < m)
/-- the places that a kind names -/
def named (kd : Int) (o : Nat) : Bool := (partsOf 0 kd).any fun p => p.adr.off == o
def moreB (f : Nat → PV) (kd : Int) : Bool := [2, 3, 4, 5, 6, 7, 8].any fun o => !named kd o && (f o).nz
theorem parts_off (B : Nat) (kd : Int) : (partsOf B kd).map (fun p => p.adr.off) = (partsOf 0 kd).map (fun p => p.adr.off) := by
  unfold partsOf namedBy
  repeat' split
  all_goals rfl
theorem named_iff (B : Nat) (kd : Int) (o : Nat) : named kd o = true ↔ ∃ p ∈ partsOf B kd, p.adr.off = o := by
  have h : named kd o = ((partsOf 0 kd).map fun p => p.adr.off).any (· == o) := by unfold named; rw [List.any_map]; rfl
  rw [h, ← parts_off B kd, List.any_eq_true]
  constructor
  · rintro ⟨x, hx, he⟩
    obtain ⟨p, hp, rfl⟩ := List.mem_map.1 hx
    exact ⟨p, hp, by simpa using he⟩
  · rintro ⟨p, hp, rfl⟩
    exact ⟨_, List.mem_map_of_mem hp, by simp⟩
theorem wiped_nz {B : Nat} {kd : Int} {ps : List Pt} {f f' σ : Nat → PV} {j : Nat} (hps : ps = partsOf B kd) (hj : ps.length ≤ j) (hsig : ∀ (j : Nat) (p : Pt), ps[j]? = some p → σ j = f' p.adr.off) (hz : ∀ (x : Nat) (p : Pt), x < j → ps[x]? = some p → σ x = zeroOf p) (hoth : ∀ o, (∀ p ∈ ps, p.adr.off ≠ o) → f' o = f o) :
    ∀ o, (f' o).nz = (!named kd o && (f o).nz) := fun o => by
  rcases hn : named kd o with _ | _
  · have : f' o = f o := hoth o fun p hp e => by
      have := (named_iff B kd o).2 ⟨p, hps ▸ hp, e⟩
      rw [hn] at this; cases this
    rw [this]; rfl
  · obtain ⟨p, hp, rfl⟩ := (named_iff B kd o).1 hn
    rw [← hps] at hp
    obtain ⟨x, hx⟩ := List.getElem?_of_mem hp
    have hxl : x < ps.length := (List.getElem?_eq_some_iff.1 hx).1
    rw [← hsig x p hx, hz x p (by omega) hx]
    cases p <;> rfl
/-- the round of the wiping -/
def WpI (T : Nat → Prop) (I : World → (Nat → PV) → Prop) (w : World) (ps : List Pt) (i : Value) (wr : World) : Prop :=
  ∃ (j : Nat) (σ : Nat → PV), j ≤ ps.length ∧ i = .int .i64 j ∧ Only T w wr ∧ I wr σ ∧ ∀ (x : Nat) (p : Pt), x < j → ps[x]? = some p → σ x = zeroOf p
set_option maxRecDepth 100000 in
set_option maxHeartbeats 8000000 in
theorem hasMore_any (f : Nat → PV) (kd : Int) (w : World) (h0 : f 0 = .n kd) (hkd : 1 ≤ kd ∧ kd ≤ 10) (ht : Typed f) (hok : (f 8).ok (fun k => k = w.heap.size) w) :
    Calls Try.prog 45 #[.agg (rqC f)] w fun e w' => e = .returned (.bool (moreB f kd)) ∧ Below w.heap.size w w' := by
  obtain ⟨w1, hw1⟩ : ∃ w1, w1 = w.alloc (.cells #[(f 0).cell, (f 1).cell, (f 2).cell, (f 3).cell, (f 4).cell, (f 5).cell, (f 6).cell, (f 7).cell, (f 8).cell] 24) := ⟨_, rfl⟩
  obtain ⟨B, hB⟩ : ∃ B, B = w.heap.size := ⟨_, rfl⟩
  have HB1 : Hid (Below w.heap.size w w1) := Lib.hid (by rw [hw1]; exact ba1 _ _)
  have HX : Hid (Bx 24 w1 B (rqC f)) := Lib.hid (by rw [hw1, hB]; exact bx_new _ _ _)
  have HBV := Lib.hid hB
  have hlb := HX.out.lt
  have hc0 : w1.cell? ⟨B, 0, none⟩ = some (.int .i64 kd) := by
    have := HX.out.cell 0 _ (rqC_at f 0 (by omega))
    rw [h0] at this; exact this
  have HOF := Lib.hid (ofReq_any B kd w1 hlb hc0)
  have HI1 : Hid (RqI B (partsOf B kd) f w1 (fun j => match (partsOf B kd)[j]? with | some p => f p.adr.off | none => .n 0)) := Lib.hid ⟨f, HX.out, ht, fun j p h => by simp only [h], fun o _ => rfl, by rw [hB]; exact okBelow hok HB1.out⟩
  have HFM := Lib.hid (rq_fm B (partsOf B kd) (good_parts B kd) f)
  have HKD := Lib.hid hkd
  have H0 := Lib.hid h0
  clear hok ht hc0 hlb hB hkd h0
  show Calls Try.prog 45 #[.agg #[(f 0).cell, (f 1).cell, (f 2).cell, (f 3).cell, (f 4).cell, (f 5).cell, (f 6).cell, (f 7).cell, (f 8).cell]] w _
  go_enter Try.func45, Try.ntmps45
  go_upto_region 1 with fail
  rw [← hw1, ← HBV.out]
  clear hw1
  have HOF2 : Hid (Calls Try.prog 29 #[.pointer (some ⟨B, 0, none⟩)] w1 fun e w' => Below w1.heap.size w1 w' ∧ ∃ P k d, e = .returned (.slice P k d) ∧ k = (partsOf B kd).length ∧ OwnL ptS 74 w' w1.heap.size P k d (partsOf B kd)) := Lib.hid (HOF.out.mono fun e w' h => ⟨h.1, by have h2 := h.2; rw [if_pos HKD.out] at h2; exact h2⟩)
  go_upto_block 1 with (go_at_call 29; refine HOF2.out.mono ?_; rintro e w2 ⟨hb2, P, k, d, rfl, hk, ho2⟩; have HB2 := Lib.hid hb2; have HK := Lib.hid hk.symm; have HO2 := Lib.hid ho2; clear hb2 hk ho2)
  have HI2 := Lib.hid (HFM.out.new _ _ _ HI1.out HB2.out)
  have HPC : Hid (Clear (· = B) P) := Lib.hid (clear_of_own HO2.out.2 (fun x hx => .inl (by have := HX.out.lt; omega)))
  have hk8 : k ≤ 8 := by
    have h1 : (partsOf B kd).length ≤ 8 := by
      unfold partsOf namedBy
      repeat' split
      all_goals simp
    have := HK.out; omega
  obtain ⟨ps, hps⟩ : ∃ ps, ps = partsOf B kd := ⟨_, rfl⟩
  rw [← hps] at HFM HI2 HK HO2
  have HPS := Lib.hid hps
  clear hps
  go_loopw [7] (fun iv wr => WpI (· = B) (RqI B ps f) w2 ps iv wr) (fun iv _ => k - (intOf iv).toNat)
  case atStart => exact ⟨0, _, Nat.zero_le _, rfl, Only.refl _ _, HI2.out, fun x p h => by omega⟩
  case round =>
    obtain ⟨j, σ, hj, rfl, hon, hIr, hz⟩ := hrel
    rw [HK.out] at hj
    have HON := Lib.hid hon
    have HIR := Lib.hid hIr
    have HZ := Lib.hid hz
    clear hon hIr hz
    by_cases hlt : j < k
    · have hji : decide ((j : Int) < (k : Int)) = true := by simp; omega
      obtain ⟨p, hp⟩ : ∃ p, ps[j]? = some p := ⟨_, List.getElem?_eq_getElem (by rw [HK.out]; exact hlt)⟩
      obtain ⟨b, o, hPb, hbl, hcc⟩ := (HO2.out.ls.only HON.out HPC.out).at j p hp
      have f0 := hcc 0 (ptV p) rfl
      simp only [ptS, Nat.add_zero, Nat.mul_one] at f0
      have HCALL := Lib.hid (wipe_any HFM.out j p hp wr σ HIR.out)
      have HNX : Hid (∀ (x : Nat) (q : Pt), x < j + 1 → ps[x]? = some q → upd σ j (zeroOf p) x = zeroOf q) := Lib.hid (fun x q hx hq => by
        unfold upd
        by_cases e : x = j
        · subst e
          rw [if_pos rfl]
          rw [hp] at hq; injection hq with hq; rw [hq]
        · rw [if_neg e]; exact HZ.out x q (by omega) hq)
      subst hPb
      clear hcc
      rcases p with ⟨a, k1⟩ | a | a
      · have hm : ∀ w, (method 200 68 (.agg #[.pointer (some a), .int .i64 k1]) "packthread/msg.wipe").run Try.prog w = .ok (99, .agg #[.pointer (some a), .int .i64 k1]) w := fun w => by kernel_rfl
        simp only [ptV] at f0
        clear hp
        go_wp2_with (go_at_call 99; refine HCALL.out.mono ?_; rintro e w4 ⟨rfl, h3, h4⟩; have H3 := Lib.hid h3; have H4 := Lib.hid h4; clear h3 h4)
        exact ⟨⟨j + 1, _, by rw [HK.out]; omega, by go_num, HON.out.trans H3.out (fun _ h => .inl h), H4.out, HNX.out⟩, by simp [intOf]; omega⟩
      · have hm : ∀ w, (method 200 78 (.agg #[.pointer (some a)]) "packthread/msg.wipe").run Try.prog w = .ok (103, .agg #[.pointer (some a)]) w := fun w => by kernel_rfl
        simp only [ptV] at f0
        clear hp
        go_wp2_with (go_at_call 103; refine HCALL.out.mono ?_; rintro e w4 ⟨rfl, h3, h4⟩; have H3 := Lib.hid h3; have H4 := Lib.hid h4; clear h3 h4)
        exact ⟨⟨j + 1, _, by rw [HK.out]; omega, by go_num, HON.out.trans H3.out (fun _ h => .inl h), H4.out, HNX.out⟩, by simp [intOf]; omega⟩
      · have hm : ∀ w, (method 200 81 (.agg #[.pointer (some a)]) "packthread/msg.wipe").run Try.prog w = .ok (109, .agg #[.pointer (some a)]) w := fun w => by kernel_rfl
        simp only [ptV] at f0
        clear hp
        go_wp2_with (go_at_call 109; refine HCALL.out.mono ?_; rintro e w4 ⟨rfl, h3, h4⟩; have H3 := Lib.hid h3; have H4 := Lib.hid h4; clear h3 h4)
        exact ⟨⟨j + 1, _, by rw [HK.out]; omega, by go_num, HON.out.trans H3.out (fun _ h => .inl h), H4.out, HNX.out⟩, by simp [intOf]; omega⟩
    · have hji : decide ((j : Int) < (k : Int)) = false := by simp; omega
      obtain rfl : j = k := by omega
      obtain ⟨f', hx, hty, hsig, hoth, hdat⟩ := HIR.out
      have HXF := Lib.hid hx
      have HNZ : Hid (∀ o, (f' o).nz = (!named kd o && (f o).nz)) := Lib.hid (wiped_nz HPS.out (by rw [HK.out]; exact Nat.le_refl _) hsig HZ.out hoth)
      obtain ⟨s2, e2⟩ := hty.txt 2 (by omega)
      obtain ⟨s3, e3⟩ := hty.txt 3 (by omega)
      obtain ⟨v4, e4⟩ := hty.num 4 (by omega)
      obtain ⟨v5, e5⟩ := hty.num 5 (by omega)
      obtain ⟨v6, e6⟩ := hty.num 6 (by omega)
      obtain ⟨v7, e7⟩ := hty.num 7 (by omega)
      obtain ⟨D, m, dc, zs, e8⟩ := hty.dat
      have HMB : Hid (moreB f kd = (!s2.isEmpty || (!s3.isEmpty || (v4 != 0 || (v5 != 0 || (v6 != 0 || (v7 != 0 || decide (0 < m)))))))) := Lib.hid (by
        have n2 : (!s2.isEmpty) = (!named kd 2 && (f 2).nz) := by have := HNZ.out 2; rw [e2] at this; exact this
        have n3 : (!s3.isEmpty) = (!named kd 3 && (f 3).nz) := by have := HNZ.out 3; rw [e3] at this; exact this
        have n4 : (v4 != 0) = (!named kd 4 && (f 4).nz) := by have := HNZ.out 4; rw [e4] at this; exact this
        have n5 : (v5 != 0) = (!named kd 5 && (f 5).nz) := by have := HNZ.out 5; rw [e5] at this; exact this
        have n6 : (v6 != 0) = (!named kd 6 && (f 6).nz) := by have := HNZ.out 6; rw [e6] at this; exact this
        have n7 : (v7 != 0) = (!named kd 7 && (f 7).nz) := by have := HNZ.out 7; rw [e7] at this; exact this
        have n8 : (decide (0 < m)) = (!named kd 8 && (f 8).nz) := by have := HNZ.out 8; rw [e8] at this; exact this
        unfold moreB
        simp only [List.any_cons, List.any_nil]
        rw [← n2, ← n3, ← n4, ← n5, ← n6, ← n7, ← n8, Bool.or_false])
      have c2 : wr.cell? ⟨B, 2, none⟩ = some (.string (tx s2)) := by have := hx.cell 2 _ (rqC_at f' 2 (by omega)); rw [e2] at this; exact this
      have c3 : wr.cell? ⟨B, 3, none⟩ = some (.string (tx s3)) := by have := hx.cell 3 _ (rqC_at f' 3 (by omega)); rw [e3] at this; exact this
      have c4 : wr.cell? ⟨B, 4, none⟩ = some (.int .i64 v4) := by have := hx.cell 4 _ (rqC_at f' 4 (by omega)); rw [e4] at this; exact this
      have c5 : wr.cell? ⟨B, 5, none⟩ = some (.int .i64 v5) := by have := hx.cell 5 _ (rqC_at f' 5 (by omega)); rw [e5] at this; exact this
      have c6 : wr.cell? ⟨B, 6, none⟩ = some (.int .i64 v6) := by have := hx.cell 6 _ (rqC_at f' 6 (by omega)); rw [e6] at this; exact this
      have c7 : wr.cell? ⟨B, 7, none⟩ = some (.int .i64 v7) := by have := hx.cell 7 _ (rqC_at f' 7 (by omega)); rw [e7] at this; exact this
      have c8 : wr.cell? ⟨B, 8, none⟩ = some (.slice D m dc) := by have := hx.cell 8 _ (rqC_at f' 8 (by omega)); rw [e8] at this; exact this
      have hbl := hx.lt
      clear hx hty hsig hoth hdat e2 e3 e4 e5 e6 e7 e8
      have HBW : Hid (Below w.heap.size w wr) := Lib.hid (HB1.out.trans ((HB2.out.mono HB1.out.size).trans (HON.out.below (fun x hx => by have := HBV.out; omega) (Nat.le_trans HB1.out.size HB2.out.size))))
      go_upto_region 6 with fail
      go_wp2_with fail
      all_goals
        go_ret
        refine ⟨?_, HBW.out⟩
        rw [HMB.out]
        simp_all [tx_toList]

end Go.Proofs.Ytelfnlocgknpjaa
