/-
  The walks of FrameCuts and FrameLong.
-/
import Derived.Test.YtmeppeedbnnmjaaFrameKeep
namespace Go.Proofs.Ytmeppeedbnnmjaa
open Go.RowKit
set_option linter.unusedVariables false
set_option linter.unusedSimpArgs false

def FcX (w : World) (z0 : List Int) (got held at_ i : Value) (wr : World) : Prop :=
  ∃ (p j k r : Nat) (fs : List (List Int)) (rest : List Int) (A : Option Addr) (c : Nat) (ls : List Lv) (B : Option Addr) (d : Nat), p ≤ z0.length ∧ j ≤ p ∧ at_ = .int .i64 p ∧ i = .int .i64 j ∧ got = .slice A k c ∧ held = .slice B r d ∧
    pars (z0.take p) = some (fs, rest) ∧ k = fs.length ∧ r = rest.length ∧ OwnL lvS 22 wr w.heap.size A k c ls ∧ ls.map Lv.l = fs ∧ LI wr (fun j => j < w.heap.size ∨ (Value.slice A k c).ownBlock = some j) ls ∧
    OwnL byS 5 wr w.heap.size B r d rest ∧ Below w.heap.size w wr

set_option maxRecDepth 100000 in
set_option maxHeartbeats 2000000 in
theorem walkFrameCuts (L : Option Addr) (n c : Nat) (l : List Lv) (C : Option Addr) (cn cc : Nat) (cs : List Int) (w : World) (hl : Ls lvS w L l) (hn : l.length = n) (hc : n ≤ c) (hr : c ≤ 5864062014634) (hin : LIn w l) (hcs : Ls inS w C cs) (hcl : cs.length = cn) (hcc : cn ≤ cc) (hcr : cc ≤ 17592186043904) (hci : ∀ z ∈ cs, i64in z) :
    Calls Try.prog 6 #[.slice L n c, .slice C cn cc] w fun e w' => e = .returned (.bool true) ∧ Below w.heap.size w w' := by
  obtain ⟨ts, hts⟩ : ∃ ts, ts = cutd l 20 := ⟨_, rfl⟩
  have hsh : ∀ b ∈ ts, b.length ≤ 100 := by rw [hts]; exact cutd_short l 20
  have hoc : ∀ b ∈ ts, octs b := by rw [hts]; exact cutd_octs hin 20
  obtain ⟨k, hk⟩ : ∃ k, k = ts.length := ⟨_, rfl⟩
  have hk20 : k ≤ 20 := by rw [hk, hts, cutd, List.length_map, List.length_take]; omega
  obtain ⟨z0, hz0⟩ : ∃ z, z = wraps ts := ⟨_, rfl⟩
  obtain ⟨N, hN⟩ : ∃ k, k = (wraps ts).length := ⟨_, rfl⟩
  have hN1 : N ≤ 2080 := by rw [hN]; have := wraps_len hsh; omega
  have HKX := Lib.hid hk
  have HNX := Lib.hid hN
  have HW : Hid (Calls Try.prog 14 #[.slice L n c, .int .i64 20] w _) := Lib.hid (wrapped_v L n c 20 l w ts N k hts HNX HKX hl hn hin (by omega) (by omega))
  rw [← hz0] at HW HNX
  have HP : Hid (pars z0 = some (ts, [])) := Lib.hid (by rw [hz0]; exact pars_wraps0 ts (fun b hb => by have := hsh b hb; omega))
  have HOC : Hid (octs z0) := Lib.hid (by rw [hz0]; exact wraps_octs fun b hb => ⟨hoc b hb, by have := hsh b hb; omega⟩)
  have HFE : Hid (∀ t ∈ ts, t.length ≤ 140737488355328) := Lib.hid (fun t ht => by have := hsh t ht; omega)
  have HC := Lib.hid hcs
  have HCL := Lib.hid hcl
  have HCI := Lib.hid hci
  clear hl hn hin hts hsh hoc hk hN hz0 hcs hcl hci
  go_enter Try.func6, Try.ntmps6
  go_wp2_with (first
    | (go_at_call 14; refine HW.out.mono ?_; rintro e w1 ⟨hb1, A1, c1, l1, B1, d1, rfl, ho1, hol1, hm1, hl1⟩; have hcp1 := ho1.cap; have HB1 := Lib.hid hb1; have HO1 := Lib.hid ho1; have HOL1 := Lib.hid hol1; have HM1 := Lib.hid hm1; have HL1 := Lib.hid hl1; clear hb1 ho1 hol1 hm1 hl1)
    | (go_at_call 8; refine (wrap_ok (some ⟨w1.heap.size, 0, none⟩) 1 1 [9] _ (ls_new w1 _ _ _ rfl _ rfl) rfl (by omega)).mono ?_; rintro e w3 ⟨A3, c3, rfl, ho3, hb3⟩; have HB3 : Hid (Below w1.heap.size w1 w3) := Lib.hid (bthen (ba1 _ _) hb3); clear ho3 hb3))
  have HW3 : Hid (Below w.heap.size w w3) := Lib.hid (bthen HB1.out HB3.out)
  go_loopw [10, 11, 12, 13] (fun g h a i wr => FcX w3 z0 g h a i wr) (fun _ _ a _ _ => N - (intOf a).toNat)
  case atStart =>
    exact ⟨0, 0, 0, 0, [], [], none, 0, [], none, 0, Nat.zero_le _, Nat.le_refl _, rfl, rfl, rfl, rfl, by rw [List.take_zero, pars_short (by decide)], rfl, rfl, OwnL.nil _ _, rfl, LI.nil _ _, OwnL.nil _ _, Below.refl _ _⟩
  case round =>
    obtain ⟨p, j, gk, r, fs, rest, A, gc, ls, B, d, hp, hj, rfl, rfl, rfl, rfl, hpp, hgk, hrr, how, hls, hli, hre, hbw⟩ := hrel
    rw [← HNX.out] at hp
    have hpr := pars_rest _ _ (Nat.le_refl _) _ _ hpp
    have hr27 : r ≤ 1027 := by rw [hrr]; exact hpr.2.1
    have hgk2 : gk ≤ 2080 := by
      have := hpr.2.2.2.1
      rw [List.length_take, ← HNX.out] at this; omega
    have HOR : Hid (octs rest) := Lib.hid (hpr.2.2.2.2.2 (HOC.out.take p))
    have HPP := Lib.hid hpp
    have HGK := Lib.hid hgk
    have HRR := Lib.hid hrr
    have HOW := Lib.hid how
    have HLS := Lib.hid hls
    have HLI := Lib.hid hli
    have HRE := Lib.hid hre
    have HBW := Lib.hid hbw
    clear hpp hgk hrr how hls hli hre hbw hpr
    have hcw : Below w.heap.size w wr := HW3.out.trans (HBW.out.mono HW3.out.size)
    have HCW := Lib.hid hcw
    clear hcw
    by_cases hlt : p < N
    · have hlti : (p : Int) < (N : Int) := by omega
      have step : ∀ (q : Nat), 1 ≤ q → q ≤ 40 → ∀ (t : Nat), t = min (p + q) N → p < t ∧ t ≤ N ∧ Hid (z0.take t = z0.take p ++ (z0.drop p).take (t - p)) ∧ Hid (((z0.drop p).take (t - p)).length = t - p) ∧ Hid (∃ fs2 rest2 k2 r2, k2 = fs2.length ∧ r2 = rest2.length ∧ k2 ≤ 3107 ∧ pars (rest ++ (z0.drop p).take (t - p)) = some (fs2, rest2) ∧ pars (z0.take t) = some (fs ++ fs2, rest2)) := by
        intro q h1 h2 t ht
        have e1 : z0.take t = z0.take p ++ (z0.drop p).take (t - p) := by
          rw [show t = p + (t - p) by omega, List.take_add]; simp
        have e2 : ((z0.drop p).take (t - p)).length = t - p := by rw [List.length_take, List.length_drop, ← HNX.out]; omega
        refine ⟨by omega, by omega, Lib.hid e1, Lib.hid e2, Lib.hid ?_⟩
        rcases hq : pars (rest ++ (z0.drop p).take (t - p)) with _ | ⟨fs2, rest2⟩
        · exfalso
          have h3 : pars (z0.take t) = none := by rw [e1, pars_app' HPP.out, hq]
          have h4 := pars_none (z0.drop t) h3
          rw [List.take_append_drop, HP.out] at h4
          cases h4
        · have hpr := pars_rest _ _ (Nat.le_refl _) _ _ hq
          refine ⟨fs2, rest2, _, _, rfl, rfl, ?_, rfl, by rw [e1, pars_app' HPP.out, hq]⟩
          have := hpr.2.2.2.1
          rw [List.length_append, e2, ← HRR.out] at this
          omega
      have STEP := Lib.hid step
      clear step
      obtain ⟨g, rfl, hg0, hg1⟩ := HO1.out.somewhere (by omega)
      have HSL : Hid (∀ t, Ls byS wr (some ⟨g, p, none⟩) ((z0.drop p).take t)) := Lib.hid (fun t => by
        have := ((HO1.out.below HB3.out).below HBW.out).ls.drop1 rfl p
        rw [Nat.zero_add] at this
        exact this.take t)
      by_cases hjc : j < cn
      · have hjci : (j : Int) < (cn : Int) := by omega
        obtain ⟨x, hx⟩ : ∃ x, cs[j]? = some x := ⟨_, List.getElem?_eq_getElem (by rw [HCL.out]; exact hjc)⟩
        obtain ⟨cb, co, rfl, hcb, hcell⟩ := (HC.out.below HCW.out).at j x hx
        have g0 := hcell 0 (.int .i64 x) rfl
        simp only [inS, Nat.mul_one, Nat.add_zero] at g0
        obtain ⟨hx0, hx1⟩ := HCI.out x (List.mem_of_getElem? hx)
        obtain ⟨pk, HPK, hpk⟩ := pick_nat x 40 (by omega)
        obtain ⟨t, ht⟩ : ∃ t, t = min (p + (1 + pk)) N := ⟨_, rfl⟩
        obtain ⟨ht1, ht2, HT1, HT2, HT3⟩ := STEP.out (1 + pk) (by omega) (by omega) t ht
        have hti : (if (N : Int) < (p : Int) + (1 + (pk : Int)) then (N : Int) else (p : Int) + (1 + (pk : Int))) = (t : Int) := by split <;> omega
        clear hcell hx ht
        obtain ⟨fs2, rest2, k2, r2, hk2, hr2, hk2b, hq, hpt⟩ := HT3.out
        have HK2 := Lib.hid hk2
        have HR2 := Lib.hid hr2
        have HQ2 := Lib.hid hq
        have HPT := Lib.hid hpt
        have HSLt : Hid (Ls byS wr (some ⟨g, p, none⟩) ((z0.drop p).take (t - p))) := Lib.hid (HSL.out _)
        have HOT : Hid (octs ((z0.drop p).take (t - p))) := Lib.hid ((HOC.out.drop p).take _)
        clear hk2 hr2 hq hpt
        go_wp2_with (first
          | (go_at_call 18; (with_reducible refine (picked_n x 40 pk _ HPK hx0 hx1 (by omega) (by omega)).mono ?_); rintro e w5 ⟨rfl, rfl⟩)
          | (go_at_call 11; refine (feed_any B r d (some ⟨g, p, none⟩) (t - p) (c1 - p) rest ((z0.drop p).take (t - p)) wr HRE.out.ls HSLt.out HRR.out.symm HT2.out (by omega) (by omega) HOR.out HOT.out).mono ?_; rw [HQ2.out]; intro e w6 h6; obtain ⟨hb6, A6, c6, l6, B6, d6, rfl, ho6, hm6, hl6, hr6⟩ := feed_v wr fs2 rest2 k2 r2 HK2 HR2 h6; have HB6 := Lib.hid hb6; have HO6 := Lib.hid ho6; have HM6 := Lib.hid hm6; have HL6 := Lib.hid hl6; have HR6 := Lib.hid hr6; clear hb6 ho6 hm6 hl6 hr6 h6)
          | (at_builtin; refine wpList_appL (F := lvS) rfl _ (.tmp 75) (.tmp 76) 28 rfl _ 24 Try.underlying28 lvInfo rfl w3.heap.size A gk gc ls rfl (HOW.out.below HB6.out) A6 k2 c6 l6 rfl HO6.out.ls HO6.out.1 (gk + k2) rfl (by omega) (by omega) (by have := HBW.out.size; have := HB6.out.size; omega) ?_; intro A8 c8 w8 ho8 hb8 hs8; have HO8 := Lib.hid ho8; have HB8 := Lib.hid hb8; have HS8 := Lib.hid hs8; clear ho8 hb8 hs8))
        go_roundw
        case rel =>
          have z0' := HBW.out.size
          have z1 := HB6.out.size
          have z2 := HB8.out.size
          have hlt8 := fun j (hj : (Value.slice A gk gc).ownBlock = some j) => (HOW.out.lt j hj).2
          refine ⟨t, j + 1, gk + k2, r2, fs ++ fs2, rest2, A8, c8, ls ++ l6, B6, d6, by rw [← HNX.out]; exact ht2, by omega, rfl, by go_num, rfl, rfl, HPT.out, by rw [List.length_append, ← HGK.out, ← HK2.out], HR2.out, HO8.out, by rw [List.map_append, HLS.out, HM6.out], ?_, ?_, HBW.out.trans ((HB6.out.mono z0').trans HB8.out)⟩
          · refine LI.grown ((HLI.out.new HB6.out).app (LI.mono HL6.out fun j hj => ?_)) HB8.out HS8.out
            rcases hj with hj | hj
            · exact .inl (.inl (by omega))
            · exact .inl (.inl (hlt8 j hj))
          · refine (HR6.out.base z0').beside HS8.out (fun i j hi hj e => ?_)
            have h1 := (HR6.out.lt i hi).1
            have h2 := hlt8 j hj
            omega
        case measure => simp [intOf]; omega
      · have hjci : ¬ (j : Int) < (cn : Int) := by omega
        obtain ⟨t, ht⟩ : ∃ t, t = min (p + 7) N := ⟨_, rfl⟩
        obtain ⟨ht1, ht2, HT1, HT2, HT3⟩ := STEP.out 7 (by omega) (by omega) t ht
        have hti : (if (N : Int) < (p : Int) + 7 then (N : Int) else (p : Int) + 7) = (t : Int) := by split <;> omega
        clear ht
        obtain ⟨fs2, rest2, k2, r2, hk2, hr2, hk2b, hq, hpt⟩ := HT3.out
        have HK2 := Lib.hid hk2
        have HR2 := Lib.hid hr2
        have HQ2 := Lib.hid hq
        have HPT := Lib.hid hpt
        have HSLt : Hid (Ls byS wr (some ⟨g, p, none⟩) ((z0.drop p).take (t - p))) := Lib.hid (HSL.out _)
        have HOT : Hid (octs ((z0.drop p).take (t - p))) := Lib.hid ((HOC.out.drop p).take _)
        clear hk2 hr2 hq hpt
        go_wp2_with (first
          | (go_at_call 11; refine (feed_any B r d (some ⟨g, p, none⟩) (t - p) (c1 - p) rest ((z0.drop p).take (t - p)) wr HRE.out.ls HSLt.out HRR.out.symm HT2.out (by omega) (by omega) HOR.out HOT.out).mono ?_; rw [HQ2.out]; intro e w6 h6; obtain ⟨hb6, A6, c6, l6, B6, d6, rfl, ho6, hm6, hl6, hr6⟩ := feed_v wr fs2 rest2 k2 r2 HK2 HR2 h6; have HB6 := Lib.hid hb6; have HO6 := Lib.hid ho6; have HM6 := Lib.hid hm6; have HL6 := Lib.hid hl6; have HR6 := Lib.hid hr6; clear hb6 ho6 hm6 hl6 hr6 h6)
          | (at_builtin; refine wpList_appL (F := lvS) rfl _ (.tmp 75) (.tmp 76) 28 rfl _ 24 Try.underlying28 lvInfo rfl w3.heap.size A gk gc ls rfl (HOW.out.below HB6.out) A6 k2 c6 l6 rfl HO6.out.ls HO6.out.1 (gk + k2) rfl (by omega) (by omega) (by have := HBW.out.size; have := HB6.out.size; omega) ?_; intro A8 c8 w8 ho8 hb8 hs8; have HO8 := Lib.hid ho8; have HB8 := Lib.hid hb8; have HS8 := Lib.hid hs8; clear ho8 hb8 hs8))
        go_roundw
        case rel =>
          have z0' := HBW.out.size
          have z1 := HB6.out.size
          have z2 := HB8.out.size
          have hlt8 := fun j (hj : (Value.slice A gk gc).ownBlock = some j) => (HOW.out.lt j hj).2
          refine ⟨t, j + 1, gk + k2, r2, fs ++ fs2, rest2, A8, c8, ls ++ l6, B6, d6, by rw [← HNX.out]; exact ht2, by omega, rfl, by go_num, rfl, rfl, HPT.out, by rw [List.length_append, ← HGK.out, ← HK2.out], HR2.out, HO8.out, by rw [List.map_append, HLS.out, HM6.out], ?_, ?_, HBW.out.trans ((HB6.out.mono z0').trans HB8.out)⟩
          · refine LI.grown ((HLI.out.new HB6.out).app (LI.mono HL6.out fun j hj => ?_)) HB8.out HS8.out
            rcases hj with hj | hj
            · exact .inl (.inl (by omega))
            · exact .inl (.inl (hlt8 j hj))
          · refine (HR6.out.base z0').beside HS8.out (fun i j hi hj e => ?_)
            have h1 := (HR6.out.lt i hi).1
            have h2 := hlt8 j hj
            omega
        case measure => simp [intOf]; omega
    · have hlti : ¬ (p : Int) < (N : Int) := by omega
      have he : fs = ts ∧ rest = [] := by
        have := HPP.out
        rw [List.take_of_length_le (by rw [← HNX.out]; omega), HP.out] at this
        injection this with this; injection this with e1 e2
        exact ⟨e1.symm, e2.symm⟩
      obtain ⟨he1, he2⟩ := he
      have hr0 : r = 0 := by rw [HRR.out, he2]; rfl
      have hkk : gk = k := by rw [HGK.out, HKX.out, he1]
      have HE1 := Lib.hid he1
      clear he1 he2
      subst hr0; subst hkk
      go_wp2_with (go_at_call 16; refine (lists_keep A gk gc B1 d1 ls l1 ts wr _ _ HOW.out.ls ((HOL1.out.below HB3.out).below HBW.out).ls HLI.out ((HL1.out.new HB3.out).new HBW.out) (by rw [HLS.out, HE1.out]) HM1.out HKX.out.symm (by omega) HFE.out).mono ?_; rintro e w7 ⟨rfl, hb7⟩; have HB7 := Lib.hid hb7; clear hb7)
      go_ret
      exact ⟨rfl, bthen HCW.out HB7.out⟩

end Go.Proofs.Ytmeppeedbnnmjaa
