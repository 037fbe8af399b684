/-
  The program's tree: what is done to a file: cut, put, get.
  The program's tree: what is done to a file: put.
  The program's tree: what is done to a file: get.
-/
import Derived.Test.YthjpighlcalocaaGreatDoorTFileA
namespace Go.Proofs.YthjpighlcalocaaGreatDoor
open Go.RowKit
set_option linter.unusedVariables false
set_option linter.unusedSimpArgs false

/-- the box of the answer -/
def zeroS : Array Value := #[.int .i64 0, .int .i64 0, .int .i64 0, .slice none 0 0, .slice none 0 0]

set_option maxRecDepth 100000 in
set_option maxHeartbeats 4000000 in
theorem cut_any (pn : Nat) (a : Ac) (hk : a.kind ≠ 3 ∧ a.kind ≠ 4) (A : Option Addr) (n c : Nat) (l : List Int) (w : World) (hbx : Bx 75 w pn #[.slice A n c]) (ho : OwnL byS 5 w 0 A n c l) (hoff : Off pn (.slice A n c)) (hn : n ≤ 2048) :
    Calls Tryz.prog 71 #[.pointer (some ⟨pn, 0, none⟩), .int .i64 a.count] w (RetF w pn A n c (fileP l a)) := by
  have HO := Lib.hid ho
  have HBX := Lib.hid hbx
  have HOFF := Lib.hid hoff
  obtain ⟨g, hg⟩ : ∃ g, g = fileP l a := ⟨_, rfl⟩
  rw [← hg]
  unfold fileP at hg
  rw [if_neg hk.1, if_neg hk.2] at hg
  obtain ⟨ct, hct⟩ : ∃ ct, ct = a.count := ⟨_, rfl⟩
  rw [← hct] at hg ⊢
  have HIN := Lib.hid (fun wx => inFile_any ct wx)
  have hpl := hbx.lt
  clear hbx ho hoff hk hct
  by_cases hf : fits ct = false
  · rw [hf] at HIN
    have HG : Hid (g = (l, snE 2)) := Lib.hid (hg.trans (if_pos hf))
    clear hg hf
    go_enter Tryz.func71, Tryz.ntmps71
    go_wp2_with (go_at_call 86; refine (HIN.out _).mono ?_; rintro e w2 ⟨rfl, rfl⟩)
    refine end_ret (v := .agg (snV (svP (snE 2)))) (by unfold snV svP snE; simp [results, Tryz.results71, go_sem]; try rfl) ?_
    refine RetF.same HBX.out HO.out HG.out rfl rfl ?_
    exact ba1 _ _
  · have hf' : fits ct = true := by simpa using hf
    rw [hf'] at HIN
    obtain ⟨s, hs⟩ : ∃ s : Nat, ct = s := ⟨ct.toNat, by unfold fits at hf'; simp at hf'; omega⟩
    have hs2 : s ≤ 2048 := by unfold fits at hf'; simp at hf'; omega
    have HG : Hid (g = (resized l s, ⟨0, 0, (s : Nat), [], []⟩)) := Lib.hid (by rw [hg, if_neg hf, hs, Int.toNat_natCast, resized_len])
    subst hs
    clear hg hf hf'
    obtain ⟨q4, hq4⟩ : ∃ q, q = w.heap.size := ⟨_, rfl⟩
    obtain ⟨w1, hw1⟩ : ∃ w1, w1 = w.alloc (Obj.cells zeroS 31) := ⟨_, rfl⟩
    have HB1 : Hid (Below w.heap.size w w1) := Lib.hid (by rw [hw1]; exact ba1 _ _)
    have HX4 : Hid (Bx 31 w1 q4 zeroS) := Lib.hid (by rw [hw1, hq4]; exact bx_new _ _ _)
    have HRZ := Lib.hid (resize_any pn s A n c l w1 (HBX.out.below HB1.out) (HO.out.below HB1.out) HOFF.out (by omega) (by omega))
    have HS1 : Hid (w1.heap.size = q4 + 1) := Lib.hid (by rw [hw1, hq4]; simp)
    have HQ4 := Lib.hid hq4
    unfold zeroS at hw1
    go_enter Tryz.func71, Tryz.ntmps71
    go_upto_region 3 with (go_at_call 86; refine (HIN.out _).mono ?_; rintro e w2 ⟨rfl, rfl⟩)
    rw [← hw1, ← hq4]
    have hqp : ¬ q4 = pn := by omega
    have hpq : ¬ pn = q4 := by omega
    clear hw1 hq4 hpl
    go_upto_region 4 with (go_at_call 87; refine HRZ.out.mono ?_; rintro e w3 ⟨A3, c3, s3, rfl, hl3, hb3, ho3, hon3, hr3⟩; have HL3 := Lib.hid hl3; have HB3 := Lib.hid hb3; have HO3 := Lib.hid ho3; have HN3 := Lib.hid hon3; have HR3 := Lib.hid hr3; clear hl3 hb3 ho3 hon3 hr3)
    have hs3 : s3 = s := HL3.out.trans (resized_len l s)
    subst hs3
    have hq4o : ¬ (Value.slice A n c).ownBlock = some q4 := fun e => by have := (HO.out.lt q4 e).2; have := HQ4.out; omega
    have hx4 := HX4.out.only HN3.out (fun hs => by rcases hs with e | e; exact hqp e; exact hq4o e)
    have HX4' := Lib.hid hx4
    have hq43 : Hid (Off q4 (.slice A3 s3 c3)) := Lib.hid (fun k hk e => by
      rcases HR3.out k hk with g | g
      · exact hq4o (e ▸ g)
      · have := HS1.out; omega)
    unfold zeroS at hx4
    obtain ⟨d0, e0, e1, e2, e3, e4, f0, f1, f2, f3, f4⟩ := hx4.all5
    obtain ⟨p0, p1⟩ := HB3.out.one
    have HQW : Hid (w.heap.size ≤ q4) := Lib.hid (by rw [HQ4.out]; exact Nat.le_refl _)
    clear hx4
    go_wp2_with fail
    refine end_ret (v := .agg (snV (svP ⟨0, 0, (s3 : Nat), [], []⟩))) (by unfold snV svP; simp [results, Tryz.results71, go_sem, hpq, hqp, d0, e0, e1, e2, e3, e4, f0, f1, f2, f3, f4]; try rfl) ?_
    rw [HG.out]
    refine ⟨svP ⟨0, 0, (s3 : Nat), [], []⟩, A3, c3, s3, rfl, rfl, svOwn_p _ _ _ rfl rfl, (resized_len l s3).symm, HB3.out.other5 hpq _ _ _ _ _, HO3.out.set5 hq43.out _ _ _ _ _, ?_, ?_⟩
    · exact only_store5 ((only_new HB1.out).trans HN3.out (fun j hj => .inl hj)) (.inr HQW.out) _ _ _ _ _
    · intro k hk
      refine ⟨?_, svB_p _ k⟩
      rcases HR3.out k hk with g | g
      · exact .inl g
      · have := HB1.out.size; exact .inr (by omega)

end Go.Proofs.YthjpighlcalocaaGreatDoor

namespace Go.Proofs.YthjpighlcalocaaGreatDoor
open Go.RowKit
set_option linter.unusedVariables false
set_option linter.unusedSimpArgs false

set_option maxRecDepth 100000 in
set_option maxHeartbeats 4000000 in
theorem put_any (pn : Nat) (a : Ac) (hk : a.kind = 3) (D : Option Addr) (m dd : Nat) (A : Option Addr) (n c : Nat) (l : List Int) (w : World) (hbx : Bx 75 w pn #[.slice A n c]) (ho : OwnL byS 5 w 0 A n c l) (hoff : Off pn (.slice A n c)) (hn : n ≤ 2048)
    (hD : Ls byS w D a.data) (hm : a.data.length = m) (hcl : 0 < m → Clear (fun k => k = pn ∨ (Value.slice A n c).ownBlock = some k) D) :
    Calls Tryz.prog 69 #[.pointer (some ⟨pn, 0, none⟩), .int .i64 a.at_, .slice D m dd] w (RetF w pn A n c (fileP l a)) := by
  have HO := Lib.hid ho
  have HBX := Lib.hid hbx
  have HOFF := Lib.hid hoff
  have HD := Lib.hid hD
  have HCL := Lib.hid hcl
  have hnl := ho.1
  obtain ⟨ys, hys⟩ : ∃ ys, ys = a.data := ⟨_, rfl⟩
  rw [← hys] at HD hm
  have HM := Lib.hid hm
  obtain ⟨g, hg⟩ : ∃ g, g = fileP l a := ⟨_, rfl⟩
  rw [← hg]
  unfold fileP at hg
  rw [if_pos hk, ← hys] at hg
  obtain ⟨ct, hct⟩ : ∃ ct, ct = a.at_ := ⟨_, rfl⟩
  rw [← hct] at hg ⊢
  have HIN := Lib.hid (fun wx => inFile_any ct wx)
  have hpl := hbx.lt
  clear hbx ho hoff hk hct hD hcl hys
  by_cases hf : fits ct = false
  · rw [hf] at HIN
    have HG : Hid (g = (l, snE 2)) := Lib.hid (hg.trans (if_pos hf))
    clear hg hf hm hnl
    go_enter Tryz.func69, Tryz.ntmps69
    go_wp2_with (go_at_call 86; refine (HIN.out _).mono ?_; rintro e w2 ⟨rfl, rfl⟩)
    refine end_ret (v := .agg (snV (svP (snE 2)))) (by unfold snV svP snE; simp [results, Tryz.results69, go_sem]; try rfl) ?_
    refine RetF.same HBX.out HO.out HG.out rfl rfl ?_
    exact ba1 _ _
  · have hf' : fits ct = true := by simpa using hf
    rw [hf'] at HIN
    obtain ⟨k, hk⟩ : ∃ k : Nat, ct = k := ⟨ct.toNat, by unfold fits at hf'; simp at hf'; omega⟩
    have hk2 : k ≤ 2048 := by unfold fits at hf'; simp at hf'; omega
    rw [if_neg hf, hk] at hg
    subst hk
    have hw16 : IntKind.i64.wrap (2048 - (k : Int)) = 2048 - (k : Int) := by rw [IntKind.wrap_i64]; omega
    by_cases hov : 2048 - (k : Int) < ys.length
    · have HG : Hid (g = (l, snE 11)) := Lib.hid (hg.trans (if_pos hov))
      have hovi : 2048 - (k : Int) < (m : Int) := by omega
      clear hg hf hf' hm hnl hov
      go_enter Tryz.func69, Tryz.ntmps69
      go_wp2_with (go_at_call 86; refine (HIN.out _).mono ?_; rintro e w2 ⟨rfl, rfl⟩)
      refine end_ret (v := .agg (snV (svP (snE 11)))) (by unfold snV svP snE; simp [results, Tryz.results69, go_sem]; try rfl) ?_
      refine RetF.same HBX.out HO.out HG.out rfl rfl ?_
      exact ba1 _ _
    · obtain ⟨M, hM⟩ : ∃ M, M = max n (k + m) := ⟨_, rfl⟩
      have hM2 : n ≤ M ∧ k + m ≤ M ∧ M ≤ 2048 := by omega
      have HL : Hid (laid l k ys = (resized l M).take k ++ ys ++ (resized l M).drop (k + m)) := Lib.hid (by unfold laid; rw [hnl, hm, ← hM])
      have HLL : Hid ((laid l k ys).length = M) := Lib.hid (by
        rw [HL.out]
        simp only [List.length_append, List.length_take, List.length_drop, resized_len, hm]
        omega)
      have HG : Hid (g = (laid l k ys, ⟨0, 0, (M : Nat), [], []⟩)) := Lib.hid (by rw [hg, if_neg hov, Int.toNat_natCast, HLL.out])
      have hovi : ¬ 2048 - (k : Int) < (m : Int) := by omega
      have hw28 : IntKind.i64.wrap ((k : Int) + (m : Int)) = ((k + m : Nat) : Int) := by rw [IntKind.wrap_i64]; omega
      have hmax : (if (n : Int) < ((k + m : Nat) : Int) then ((k + m : Nat) : Int) else (n : Int)) = (M : Int) := by split <;> omega
      have hmax2 : (if ((k + m : Nat) : Int) < (n : Int) then (n : Int) else ((k + m : Nat) : Int)) = (M : Int) := by split <;> omega
      have hmax3 : max (n : Int) ((k + m : Nat) : Int) = (M : Int) := by omega
      obtain ⟨q6, hq6⟩ : ∃ q, q = w.heap.size := ⟨_, rfl⟩
      obtain ⟨w1, hw1⟩ : ∃ w1, w1 = w.alloc (Obj.cells zeroS 31) := ⟨_, rfl⟩
      have HB1 : Hid (Below w.heap.size w w1) := Lib.hid (by rw [hw1]; exact ba1 _ _)
      have HX6 : Hid (Bx 31 w1 q6 zeroS) := Lib.hid (by rw [hw1, hq6]; exact bx_new _ _ _)
      have HRZ := Lib.hid (resize_any pn M A n c l w1 (HBX.out.below HB1.out) (HO.out.below HB1.out) HOFF.out (by omega) (by omega))
      have HS1 : Hid (w1.heap.size = q6 + 1) := Lib.hid (by rw [hw1, hq6]; simp)
      have HQ6 := Lib.hid hq6
      obtain ⟨z0, z1⟩ := (HBX.out.below HB1.out).one
      have HW1 := Lib.hid hw1
      unfold zeroS at hw1
      clear hg hf hf' hov
      clear hmax hmax2 hmax3
      by_cases hlt : n < k + m
      · have hlti : (n : Int) < (k : Int) + (m : Int) := by omega
        have HRZ' : Hid (Calls Tryz.prog 87 #[.pointer (some ⟨pn, 0, none⟩), .int .i64 ((k : Int) + (m : Int))] w1 (RetZ w1 pn A n c (resized l M))) := Lib.hid (by
          have := HRZ.out
          rw [show (M : Int) = (k : Int) + (m : Int) by rw [hM]; omega] at this
          exact this)
        clear hM hlt
        go_enter Tryz.func69, Tryz.ntmps69
        go_upto_region 5 with (go_at_call 86; refine (HIN.out _).mono ?_; rintro e w2 ⟨rfl, rfl⟩)
        rw [← hw1, ← hq6]
        have hqp : ¬ q6 = pn := by omega
        have hpq : ¬ pn = q6 := by omega
        clear hw1 hq6 hpl
        go_upto_region 6 with (go_at_call 87; (with_reducible refine HRZ'.out.mono ?_); rintro e w3 ⟨A3, c3, s3, rfl, hl3, hb3, ho3, hon3, hr3⟩; have HL3 := Lib.hid hl3; have HB3 := Lib.hid hb3; have HO3 := Lib.hid ho3; have HN3 := Lib.hid hon3; have HR3 := Lib.hid hr3; clear hl3 hb3 ho3 hon3 hr3)
        have hs3 : s3 = M := HL3.out.trans (resized_len l M)
        subst hs3
        have hq6o : ¬ (Value.slice A n c).ownBlock = some q6 := fun e => by have := (HO.out.lt q6 e).2; have := HQ6.out; omega
        have hx6 := HX6.out.only HN3.out (fun hs => by rcases hs with e | e; exact hqp e; exact hq6o e)
        have hq63 : Hid (Off q6 (.slice A3 s3 c3)) := Lib.hid (fun k hk e => by
          rcases HR3.out k hk with g | g
          · exact hq6o (e ▸ g)
          · have := HS1.out; omega)
        have hp63 : Hid (Off pn (.slice A3 s3 c3)) := Lib.hid (fun k hk e => by
          rcases HR3.out k hk with g | g
          · exact HOFF.out k g e
          · have := HBX.out.lt; have := HB1.out.size; omega)
        have HQW : Hid (w.heap.size ≤ q6) := Lib.hid (by rw [HQ6.out]; exact Nat.le_refl _)
        have HD3 : Hid (Ls byS w3 D ys) := Lib.hid (by
          rcases Nat.eq_zero_or_pos m with h0 | h0
          · have : ys = [] := List.eq_nil_of_length_eq_zero (HM.out.trans h0)
            rw [this]; exact Ls.nil _ _
          · exact Cs.only (Cs.below HD.out HB1.out) HN3.out (HCL.out h0))
        have hcap3 := HO3.out.cap
        obtain ⟨Ad, dd3, hAd⟩ : ∃ Ad dd3, Ad = (if c3 = k then A3 else A3.map fun a => (⟨a.block, a.off + k, none⟩ : Addr)) ∧ dd3 = c3 - k := ⟨_, _, rfl, rfl⟩
        obtain ⟨w4, hrun, ho4, hon4, hsz4⟩ := own_copy HO3.out k D m dd ys HD3.out HM.out (by omega) 3 Ad dd3 (by
          rw [hAd.1]
          split
          · right; omega
          · left; rfl)
        have hb4 := HB3.out.only hon4 (fun hs => hp63.out pn hs rfl)
        have hx64 := hx6.only hon4 (fun hs => hq63.out q6 hs rfl)
        have HX64 := Lib.hid hx64
        obtain ⟨p0, p1⟩ := HB3.out.one
        have HB4 := Lib.hid hb4
        have HFIN : Hid (RetF w pn A n c g (.returned (.agg (snV (svP ⟨0, 0, (s3 : Nat), [], []⟩)))) (((((w4.setCell ⟨q6, 0, none⟩ (.int .i64 0)).setCell ⟨q6, 1, none⟩ (.int .i64 0)).setCell ⟨q6, 2, none⟩ (.int .i64 (s3 : Nat))).setCell ⟨q6, 3, none⟩ (.slice none 0 0)).setCell ⟨q6, 4, none⟩ (.slice none 0 0))) := Lib.hid (by
          rw [HG.out]
          refine ⟨svP ⟨0, 0, (s3 : Nat), [], []⟩, A3, c3, s3, rfl, rfl, svOwn_p _ _ _ rfl rfl, HLL.out.symm, hb4.other5 hpq _ _ _ _ _, ?_, ?_, ?_⟩
          · rw [HL.out]; exact ho4.set5 hq63.out _ _ _ _ _
          · refine only_store5 (((only_new HB1.out).trans HN3.out (fun j hj => .inl hj)).trans (T := fun j => (Value.slice A3 s3 c3).ownBlock = some j) hon4 (fun j hj => ?_)) (.inr HQW.out) _ _ _ _ _
            rcases HR3.out j hj with g | g
            · exact .inl (.inr g)
            · have := HB1.out.size; exact .inr (by omega)
          · intro j hj
            refine ⟨?_, svB_p _ j⟩
            rcases HR3.out j hj with g | g
            · exact .inl g
            · have := HB1.out.size; exact .inr (by omega))
        have hadr := HO3.out.addr
        have hks : (k : Int) ≤ (s3 : Int) := by omega
        have HON4 := Lib.hid hon4
        clear hx6 ho4 hon4 hsz4 hb4 hx64 HRZ HRZ' z0 z1
        rcases hadr with ⟨rfl, rfl, rfl⟩ | ⟨g3, rfl, -⟩
        · obtain rfl : k = 0 := by omega
          obtain ⟨hA1, hA2⟩ := hAd
          subst hA2
          rw [if_pos rfl] at hA1
          subst hA1
          rw [Nat.sub_self] at hrun
          have HRUN := Lib.hid hrun
          clear hrun
          clear hw16 hw28 hlti hovi hM2 hm hnl hq6o hcap3
          go_upto_region 7 with ((with_reducible show wpList _ _ _ (_ :: _) _ _); (refine wpList_copyN (o := ⟨some 38, _, _, _, _, _⟩) w3 rfl (.tmp 36) (.tmp 37) 28 28 rfl _ _ rfl rfl HRUN.out ?_))
          have hx64 := HX64.out
          unfold zeroS at hx64
          obtain ⟨d0, e0, e1, e2, e3, e4, f0, f1, f2, f3, f4⟩ := hx64.all5
          obtain ⟨p2, p3⟩ := HB4.out.one
          clear hx64 p0 p1 hks
          go_wp2_with fail
          have hfi := HFIN.out
          rw [show ((0 : Nat) : Int) = 0 from rfl] at hfi
          refine end_ret (v := .agg (snV (svP ⟨0, 0, 0, [], []⟩))) (by unfold snV svP; simp [results, Tryz.results69, go_sem, hpq, hqp, d0, e0, e1, e2, e3, e4, f0, f1, f2, f3, f4]; try rfl) ?_
          exact hfi
        · obtain ⟨hA1, hA2⟩ := hAd
          subst hA2
          by_cases hck : c3 = k
          · rw [if_pos hck] at hA1
            subst hA1
            obtain rfl : k = s3 := by omega
            subst hck
            rw [Nat.sub_self] at hrun
            have HRUN := Lib.hid hrun
            clear hrun
            clear hw16 hw28 hlti hovi hM2 hm hnl hq6o hcap3
            go_upto_region 7 with ((with_reducible show wpList _ _ _ (_ :: _) _ _); (refine wpList_copyN (o := ⟨some 38, _, _, _, _, _⟩) w3 rfl (.tmp 36) (.tmp 37) 28 28 rfl _ _ rfl rfl HRUN.out ?_))
            have hx64 := HX64.out
            unfold zeroS at hx64
            obtain ⟨d0, e0, e1, e2, e3, e4, f0, f1, f2, f3, f4⟩ := hx64.all5
            obtain ⟨p2, p3⟩ := HB4.out.one
            clear hx64 p0 p1 hks
            go_wp2_with fail
            refine end_ret (v := .agg (snV (svP ⟨0, 0, (c3 : Nat), [], []⟩))) (by unfold snV svP; simp [results, Tryz.results69, go_sem, hpq, hqp, d0, e0, e1, e2, e3, e4, f0, f1, f2, f3, f4]; try rfl) ?_
            with_reducible exact HFIN.out
          · rw [if_neg hck, Option.map_some] at hA1
            subst hA1
            rw [Nat.zero_add] at hrun
            have HRUN := Lib.hid hrun
            clear hrun
            clear hw16 hw28 hlti hovi hM2 hm hnl hq6o hcap3
            go_upto_region 7 with ((with_reducible show wpList _ _ _ (_ :: _) _ _); (refine wpList_copyN (o := ⟨some 38, _, _, _, _, _⟩) w3 rfl (.tmp 36) (.tmp 37) 28 28 rfl _ _ rfl rfl HRUN.out ?_))
            have hx64 := HX64.out
            unfold zeroS at hx64
            obtain ⟨d0, e0, e1, e2, e3, e4, f0, f1, f2, f3, f4⟩ := hx64.all5
            obtain ⟨p2, p3⟩ := HB4.out.one
            clear hx64 p0 p1 hks
            go_wp2_with fail
            refine end_ret (v := .agg (snV (svP ⟨0, 0, (s3 : Nat), [], []⟩))) (by unfold snV svP; simp [results, Tryz.results69, go_sem, hpq, hqp, d0, e0, e1, e2, e3, e4, f0, f1, f2, f3, f4]; try rfl) ?_
            with_reducible exact HFIN.out
      · have hlti : ¬ (n : Int) < (k : Int) + (m : Int) := by omega
        have HRZ' : Hid (Calls Tryz.prog 87 #[.pointer (some ⟨pn, 0, none⟩), .int .i64 (n : Int)] w1 (RetZ w1 pn A n c (resized l M))) := Lib.hid (by
          have := HRZ.out
          rw [show (M : Int) = (n : Int) by rw [hM]; omega] at this
          exact this)
        clear hM hlt
        go_enter Tryz.func69, Tryz.ntmps69
        go_upto_region 5 with (go_at_call 86; refine (HIN.out _).mono ?_; rintro e w2 ⟨rfl, rfl⟩)
        rw [← hw1, ← hq6]
        have hqp : ¬ q6 = pn := by omega
        have hpq : ¬ pn = q6 := by omega
        clear hw1 hq6 hpl
        go_upto_region 6 with (go_at_call 87; (with_reducible refine HRZ'.out.mono ?_); rintro e w3 ⟨A3, c3, s3, rfl, hl3, hb3, ho3, hon3, hr3⟩; have HL3 := Lib.hid hl3; have HB3 := Lib.hid hb3; have HO3 := Lib.hid ho3; have HN3 := Lib.hid hon3; have HR3 := Lib.hid hr3; clear hl3 hb3 ho3 hon3 hr3)
        have hs3 : s3 = M := HL3.out.trans (resized_len l M)
        subst hs3
        have hq6o : ¬ (Value.slice A n c).ownBlock = some q6 := fun e => by have := (HO.out.lt q6 e).2; have := HQ6.out; omega
        have hx6 := HX6.out.only HN3.out (fun hs => by rcases hs with e | e; exact hqp e; exact hq6o e)
        have hq63 : Hid (Off q6 (.slice A3 s3 c3)) := Lib.hid (fun k hk e => by
          rcases HR3.out k hk with g | g
          · exact hq6o (e ▸ g)
          · have := HS1.out; omega)
        have hp63 : Hid (Off pn (.slice A3 s3 c3)) := Lib.hid (fun k hk e => by
          rcases HR3.out k hk with g | g
          · exact HOFF.out k g e
          · have := HBX.out.lt; have := HB1.out.size; omega)
        have HQW : Hid (w.heap.size ≤ q6) := Lib.hid (by rw [HQ6.out]; exact Nat.le_refl _)
        have HD3 : Hid (Ls byS w3 D ys) := Lib.hid (by
          rcases Nat.eq_zero_or_pos m with h0 | h0
          · have : ys = [] := List.eq_nil_of_length_eq_zero (HM.out.trans h0)
            rw [this]; exact Ls.nil _ _
          · exact Cs.only (Cs.below HD.out HB1.out) HN3.out (HCL.out h0))
        have hcap3 := HO3.out.cap
        obtain ⟨Ad, dd3, hAd⟩ : ∃ Ad dd3, Ad = (if c3 = k then A3 else A3.map fun a => (⟨a.block, a.off + k, none⟩ : Addr)) ∧ dd3 = c3 - k := ⟨_, _, rfl, rfl⟩
        obtain ⟨w4, hrun, ho4, hon4, hsz4⟩ := own_copy HO3.out k D m dd ys HD3.out HM.out (by omega) 3 Ad dd3 (by
          rw [hAd.1]
          split
          · right; omega
          · left; rfl)
        have hb4 := HB3.out.only hon4 (fun hs => hp63.out pn hs rfl)
        have hx64 := hx6.only hon4 (fun hs => hq63.out q6 hs rfl)
        have HX64 := Lib.hid hx64
        obtain ⟨p0, p1⟩ := HB3.out.one
        have HB4 := Lib.hid hb4
        have HFIN : Hid (RetF w pn A n c g (.returned (.agg (snV (svP ⟨0, 0, (s3 : Nat), [], []⟩)))) (((((w4.setCell ⟨q6, 0, none⟩ (.int .i64 0)).setCell ⟨q6, 1, none⟩ (.int .i64 0)).setCell ⟨q6, 2, none⟩ (.int .i64 (s3 : Nat))).setCell ⟨q6, 3, none⟩ (.slice none 0 0)).setCell ⟨q6, 4, none⟩ (.slice none 0 0))) := Lib.hid (by
          rw [HG.out]
          refine ⟨svP ⟨0, 0, (s3 : Nat), [], []⟩, A3, c3, s3, rfl, rfl, svOwn_p _ _ _ rfl rfl, HLL.out.symm, hb4.other5 hpq _ _ _ _ _, ?_, ?_, ?_⟩
          · rw [HL.out]; exact ho4.set5 hq63.out _ _ _ _ _
          · refine only_store5 (((only_new HB1.out).trans HN3.out (fun j hj => .inl hj)).trans (T := fun j => (Value.slice A3 s3 c3).ownBlock = some j) hon4 (fun j hj => ?_)) (.inr HQW.out) _ _ _ _ _
            rcases HR3.out j hj with g | g
            · exact .inl (.inr g)
            · have := HB1.out.size; exact .inr (by omega)
          · intro j hj
            refine ⟨?_, svB_p _ j⟩
            rcases HR3.out j hj with g | g
            · exact .inl g
            · have := HB1.out.size; exact .inr (by omega))
        have hadr := HO3.out.addr
        have hks : (k : Int) ≤ (s3 : Int) := by omega
        have HON4 := Lib.hid hon4
        clear hx6 ho4 hon4 hsz4 hb4 hx64 HRZ HRZ' z0 z1
        rcases hadr with ⟨rfl, rfl, rfl⟩ | ⟨g3, rfl, -⟩
        · obtain rfl : k = 0 := by omega
          obtain ⟨hA1, hA2⟩ := hAd
          subst hA2
          rw [if_pos rfl] at hA1
          subst hA1
          rw [Nat.sub_self] at hrun
          have HRUN := Lib.hid hrun
          clear hrun
          clear hw16 hw28 hlti hovi hM2 hm hnl hq6o hcap3
          go_upto_region 7 with ((with_reducible show wpList _ _ _ (_ :: _) _ _); (refine wpList_copyN (o := ⟨some 38, _, _, _, _, _⟩) w3 rfl (.tmp 36) (.tmp 37) 28 28 rfl _ _ rfl rfl HRUN.out ?_))
          have hx64 := HX64.out
          unfold zeroS at hx64
          obtain ⟨d0, e0, e1, e2, e3, e4, f0, f1, f2, f3, f4⟩ := hx64.all5
          obtain ⟨p2, p3⟩ := HB4.out.one
          clear hx64 p0 p1 hks
          go_wp2_with fail
          have hfi := HFIN.out
          rw [show ((0 : Nat) : Int) = 0 from rfl] at hfi
          refine end_ret (v := .agg (snV (svP ⟨0, 0, 0, [], []⟩))) (by unfold snV svP; simp [results, Tryz.results69, go_sem, hpq, hqp, d0, e0, e1, e2, e3, e4, f0, f1, f2, f3, f4]; try rfl) ?_
          exact hfi
        · obtain ⟨hA1, hA2⟩ := hAd
          subst hA2
          by_cases hck : c3 = k
          · rw [if_pos hck] at hA1
            subst hA1
            obtain rfl : k = s3 := by omega
            subst hck
            rw [Nat.sub_self] at hrun
            have HRUN := Lib.hid hrun
            clear hrun
            clear hw16 hw28 hlti hovi hM2 hm hnl hq6o hcap3
            go_upto_region 7 with ((with_reducible show wpList _ _ _ (_ :: _) _ _); (refine wpList_copyN (o := ⟨some 38, _, _, _, _, _⟩) w3 rfl (.tmp 36) (.tmp 37) 28 28 rfl _ _ rfl rfl HRUN.out ?_))
            have hx64 := HX64.out
            unfold zeroS at hx64
            obtain ⟨d0, e0, e1, e2, e3, e4, f0, f1, f2, f3, f4⟩ := hx64.all5
            obtain ⟨p2, p3⟩ := HB4.out.one
            clear hx64 p0 p1 hks
            go_wp2_with fail
            refine end_ret (v := .agg (snV (svP ⟨0, 0, (c3 : Nat), [], []⟩))) (by unfold snV svP; simp [results, Tryz.results69, go_sem, hpq, hqp, d0, e0, e1, e2, e3, e4, f0, f1, f2, f3, f4]; try rfl) ?_
            with_reducible exact HFIN.out
          · rw [if_neg hck, Option.map_some] at hA1
            subst hA1
            rw [Nat.zero_add] at hrun
            have HRUN := Lib.hid hrun
            clear hrun
            clear hw16 hw28 hlti hovi hM2 hm hnl hq6o hcap3
            go_upto_region 7 with ((with_reducible show wpList _ _ _ (_ :: _) _ _); (refine wpList_copyN (o := ⟨some 38, _, _, _, _, _⟩) w3 rfl (.tmp 36) (.tmp 37) 28 28 rfl _ _ rfl rfl HRUN.out ?_))
            have hx64 := HX64.out
            unfold zeroS at hx64
            obtain ⟨d0, e0, e1, e2, e3, e4, f0, f1, f2, f3, f4⟩ := hx64.all5
            obtain ⟨p2, p3⟩ := HB4.out.one
            clear hx64 p0 p1 hks
            go_wp2_with fail
            refine end_ret (v := .agg (snV (svP ⟨0, 0, (s3 : Nat), [], []⟩))) (by unfold snV svP; simp [results, Tryz.results69, go_sem, hpq, hqp, d0, e0, e1, e2, e3, e4, f0, f1, f2, f3, f4]; try rfl) ?_
            with_reducible exact HFIN.out

end Go.Proofs.YthjpighlcalocaaGreatDoor

namespace Go.Proofs.YthjpighlcalocaaGreatDoor
open Go.RowKit
set_option linter.unusedVariables false
set_option linter.unusedSimpArgs false

/-- bytes.Clone, of whatever bytes -/
theorem clone_at (X : Option Addr) (n c : Nat) (zs : List Int) (w : World) (hb : Ls byS w X zs) (hn : zs.length = n) (hm : n ≤ 100000000) (hx : X = none → n = 0 ∧ c = 0) (ho : X = none ∨ ∃ b o, X = some ⟨b, o, none⟩) :
    Calls Tryz.prog 88 #[.slice X n c] w fun e w' => ∃ A c', e = .returned (.slice A n c') ∧ OwnL byS 5 w' w.heap.size A n c' zs ∧ Below w.heap.size w w' := by
  rcases ho with rfl | ⟨b, o, rfl⟩
  · obtain ⟨rfl, rfl⟩ := hx rfl
    obtain rfl : zs = [] := List.eq_nil_of_length_eq_zero hn
    refine (clone_none w).mono ?_
    rintro e w' ⟨rfl, rfl⟩
    exact ⟨none, 0, rfl, OwnL.nil _ _, Below.refl _ _⟩
  · exact clone_some b o n c zs w hb hn hm

set_option maxRecDepth 100000 in
set_option maxHeartbeats 4000000 in
theorem get_any (pn : Nat) (a : Ac) (hk : a.kind = 4) (A : Option Addr) (n c : Nat) (l : List Int) (w : World) (hbx : Bx 75 w pn #[.slice A n c]) (ho : OwnL byS 5 w 0 A n c l) (hn : n ≤ 2048) :
    Calls Tryz.prog 70 #[.pointer (some ⟨pn, 0, none⟩), .int .i64 a.at_, .int .i64 a.count] w (RetF w pn A n c (fileP l a)) := by
  have HO := Lib.hid ho
  have HBX := Lib.hid hbx
  have hnl := ho.1
  have hcap := ho.cap
  obtain ⟨g, hg⟩ : ∃ g, g = fileP l a := ⟨_, rfl⟩
  rw [← hg]
  unfold fileP at hg
  rw [if_neg (by omega), if_pos hk] at hg
  obtain ⟨at', hat⟩ : ∃ ct, ct = a.at_ := ⟨_, rfl⟩
  obtain ⟨ct, hct⟩ : ∃ ct, ct = a.count := ⟨_, rfl⟩
  rw [← hct, ← hat] at hg
  rw [← hct, ← hat]
  have HIN := Lib.hid (fun wx => inFile_any at' wx)
  have HIN2 := Lib.hid (fun wx => inFile_any ct wx)
  have hpl := hbx.lt
  obtain ⟨z0, z1⟩ := hbx.one
  have haddr := ho.addr
  clear hbx ho hk hct hat
  by_cases hf : fits at' = false ∨ fits ct = false
  · have HG : Hid (g = (l, snE 2)) := Lib.hid (hg.trans (if_pos hf))
    have hfin : RetF w pn A n c g (.returned (.agg (snV (svP (snE 2))))) (w.alloc (.cells #[.int .i64 2, .int .i64 0, .int .i64 0, .slice none 0 0, .slice none 0 0] 31)) := RetF.same HBX.out HO.out HG.out rfl rfl (ba1 _ _)
    have HFIN := Lib.hid hfin
    have hway : (fits at' = false) ∨ (fits at' = true ∧ fits ct = false) := by
      rcases h : fits at' with _ | _
      · exact .inl rfl
      · rcases hf with g | g
        · rw [h] at g; cases g
        · exact .inr ⟨rfl, g⟩
    clear hg hf hfin hnl hcap z0 z1 haddr hpl
    rcases hway with h1 | ⟨h1, h2⟩
    · rw [h1] at HIN
      clear h1
      go_enter Tryz.func70, Tryz.ntmps70
      go_wp2_with (go_at_call 86; refine (HIN.out _).mono ?_; rintro e w2 ⟨rfl, rfl⟩)
      refine end_ret (v := .agg (snV (svP (snE 2)))) (by unfold snV svP snE; simp [results, Tryz.results70, go_sem]; try rfl) ?_
      with_reducible exact HFIN.out
    · rw [h1] at HIN
      rw [h2] at HIN2
      clear h1 h2
      go_enter Tryz.func70, Tryz.ntmps70
      go_wp2_with (go_at_call 86; first | ((with_reducible refine (HIN.out _).mono ?_); rintro e w2 ⟨rfl, rfl⟩) | ((with_reducible refine (HIN2.out _).mono ?_); rintro e w2 ⟨rfl, rfl⟩))
      refine end_ret (v := .agg (snV (svP (snE 2)))) (by unfold snV svP snE; simp [results, Tryz.results70, go_sem]; try rfl) ?_
      with_reducible exact HFIN.out
  · have hfa : fits at' = true := by rcases h : fits at' with _ | _; exact absurd (.inl h) hf; rfl
    have hfc : fits ct = true := by rcases h : fits ct with _ | _; exact absurd (.inr h) hf; rfl
    rw [hfa] at HIN
    rw [hfc] at HIN2
    obtain ⟨k, hk⟩ : ∃ k : Nat, at' = k := ⟨at'.toNat, by unfold fits at hfa; simp at hfa; omega⟩
    obtain ⟨m, hm⟩ : ∃ m : Nat, ct = m := ⟨ct.toNat, by unfold fits at hfc; simp at hfc; omega⟩
    have hk2 : k ≤ 2048 := by unfold fits at hfa; simp at hfa; omega
    have hm2 : m ≤ 2048 := by unfold fits at hfc; simp at hfc; omega
    rw [if_neg hf, hk, hm] at hg
    subst hk
    subst hm
    simp only [Int.toNat_natCast] at hg
    obtain ⟨bs, hbs⟩ : ∃ bs, bs = (l.drop k).take m := ⟨_, rfl⟩
    rw [← hbs] at hg
    have HG := Lib.hid hg
    -- from where to where
    obtain ⟨lo, hlo⟩ : ∃ lo, lo = min k n := ⟨_, rfl⟩
    obtain ⟨hi, hhi⟩ : ∃ hi, hi = min (k + m) n := ⟨_, rfl⟩
    have hbs2 : bs = (l.drop lo).take (hi - lo) := by
      rw [hbs, hlo, hhi]
      by_cases g : k ≤ n
      · rw [Nat.min_eq_left g]
        by_cases g2 : k + m ≤ n
        · rw [Nat.min_eq_left g2]; congr 1; omega
        · rw [Nat.min_eq_right (by omega), List.take_of_length_le (by rw [List.length_drop]; omega), List.take_of_length_le (by rw [List.length_drop]; omega)]
      · rw [Nat.min_eq_right (by omega), Nat.min_eq_right (by omega), List.drop_of_length_le (by omega), List.drop_of_length_le (by omega)]; simp
    have hbl : bs.length = hi - lo := by rw [hbs2, List.length_take, List.length_drop]; omega
    have HBL := Lib.hid hbl
    obtain ⟨X, d, hX⟩ : ∃ X d, X = (if c = lo then A else A.map fun a => (⟨a.block, a.off + lo, none⟩ : Addr)) ∧ d = c - lo := ⟨_, _, rfl, rfl⟩
    have hclone : ∀ wx L d', Below w.heap.size w wx → L = hi - lo → d' = d → Calls Tryz.prog 88 #[.slice X L d'] wx fun e w' => ∃ A c', e = .returned (.slice A L c') ∧ OwnL byS 5 w' wx.heap.size A L c' bs ∧ Below wx.heap.size wx w' := fun wx L d' hb hL hd => by
      subst hL; rw [hd]
      refine clone_at X (hi - lo) d bs wx ?_ hbl (by omega) ?_ ?_
      · rw [hX.1]
        split
        · have : bs = [] := List.eq_nil_of_length_eq_zero (by rw [hbl]; omega)
          rw [this]; exact Ls.nil _ _
        · rcases haddr with ⟨rfl, h1, h2⟩ | ⟨gb, rfl, -⟩
          · have : bs = [] := List.eq_nil_of_length_eq_zero (by rw [hbl]; omega)
            rw [this]; exact Ls.nil _ _
          · rw [hbs2, Option.map_some]
            exact ((HO.out.ls.below hb).drop1 rfl lo).take _
      · intro hx
        have : A = none := by
          rw [hX.1] at hx
          split at hx
          · exact hx
          · simpa using hx
        rcases haddr with ⟨_, h1, h2⟩ | ⟨gb, h1, _⟩
        · rw [hX.2]; omega
        · rw [this] at h1; cases h1
      · rw [hX.1]
        rcases haddr with ⟨h1, _, _⟩ | ⟨gb, h1, _⟩
        · rw [h1]; left; split <;> rfl
        · rw [h1]; right
          split
          · exact ⟨_, _, rfl⟩
          · exact ⟨_, _, rfl⟩
    have HCL := Lib.hid hclone
    obtain ⟨q6, hq6⟩ : ∃ q, q = w.heap.size := ⟨_, rfl⟩
    obtain ⟨w1, hw1⟩ : ∃ w1, w1 = w.alloc (Obj.cells zeroS 31) := ⟨_, rfl⟩
    have HB1 : Hid (Below w.heap.size w w1) := Lib.hid (by rw [hw1]; exact ba1 _ _)
    have HX6 : Hid (Bx 31 w1 q6 zeroS) := Lib.hid (by rw [hw1, hq6]; exact bx_new _ _ _)
    obtain ⟨y0, y1⟩ := (HBX.out.below HB1.out).one
    have HS1 : Hid (w1.heap.size = q6 + 1) := Lib.hid (by rw [hw1, hq6]; simp)
    have HQ6 := Lib.hid hq6
    unfold zeroS at hw1
    have hfin : ∀ A3 L c3 w3, OwnL byS 5 w3 w1.heap.size A3 L c3 bs → Below w1.heap.size w1 w3 →
        RetF w pn A n c g (.returned (.agg #[.int .i64 0, .int .i64 0, .int .i64 0, .slice A3 L c3, .slice none 0 0])) (((((w3.setCell ⟨q6, 0, none⟩ (.int .i64 0)).setCell ⟨q6, 1, none⟩ (.int .i64 0)).setCell ⟨q6, 2, none⟩ (.int .i64 0)).setCell ⟨q6, 3, none⟩ (.slice A3 L c3)).setCell ⟨q6, 4, none⟩ (.slice none 0 0)) := fun A3 L c3 w3 h3 hb3 => by
      have hpq : ¬ pn = q6 := by have := HBX.out.lt; have := HQ6.out; omega
      have hqo : Off q6 (.slice A n c) := fun j hj e => by have := (HO.out.lt j hj).2; have := HQ6.out; omega
      have hqo3 : Off q6 (.slice A3 L c3) := fun j hj e => by have := (h3.lt j hj).1; have := HS1.out; omega
      have hb13 := bthen HB1.out hb3
      rw [HG.out]
      refine ⟨⟨⟨0, 0, 0, bs, []⟩, A3, L, c3, none, 0, 0⟩, A, c, n, rfl, rfl, ⟨(h3.base (by have := HB1.out.size; omega)).set5 hqo3 _ _ _ _ _, OwnL.nil _ _⟩, hnl.symm, (HBX.out.below hb13).other5 hpq _ _ _ _ _, (HO.out.below hb13).set5 hqo _ _ _ _ _, only_new (below_store5 hb13 (by have := HQ6.out; omega) _ _ _ _ _), fun j hj => ⟨.inl hj, fun hs => ?_⟩⟩
      rcases hs with hs | hs
      · have h1 := (HO.out.lt j hj).2
        have h2 := (h3.lt j hs).1
        have := HB1.out.size
        omega
      · cases hs
    have HFIN := Lib.hid hfin
    have hw31 : IntKind.i64.wrap ((k : Int) + (m : Int)) = (k : Int) + (m : Int) := by rw [IntKind.wrap_i64]; omega
    clear hg hf hfa hfc hbs hbs2 hbl hclone hfin z0 z1
    obtain ⟨hX1, hX2⟩ := hX
    rcases haddr with ⟨rfl, rfl, rfl⟩ | ⟨gb, rfl, -⟩
    · have hXn : X = none := by rw [hX1]; split <;> rfl
      subst hXn
      have HL1 : Hid (0 = hi - lo) := Lib.hid (by omega)
      have HL2 : Hid (0 = d) := Lib.hid (by omega)
      clear hlo hhi hX2 hnl hcap hpl hX1
      by_cases hk0 : k = 0
      · subst hk0
        rw [show ((0 : Nat) : Int) = 0 from rfl] at HIN ⊢
        by_cases hm0 : m = 0
        · subst hm0
          rw [show ((0 : Nat) : Int) = 0 from rfl] at HIN2 ⊢
          go_enter Tryz.func70, Tryz.ntmps70
          go_upto_region 3 with (go_at_call 86; first | ((with_reducible refine (HIN.out _).mono ?_); rintro e w2 ⟨rfl, rfl⟩) | ((with_reducible refine (HIN2.out _).mono ?_); rintro e w2 ⟨rfl, rfl⟩))
          rw [← hw1, ← hq6]
          clear hw1 hq6
          go_wp2_with (go_at_call 88; (with_reducible refine (HCL.out w1 _ _ HB1.out HL1.out HL2.out).mono ?_); rintro e w3 ⟨A3, c3, rfl, ho3, hb3⟩; have HO3 := Lib.hid ho3; have HB3 := Lib.hid hb3; have HX63 := Lib.hid (HX6.out.below hb3); obtain ⟨d0, e0, e1, e2, e3, e4, f0, f1, f2, f3, f4⟩ := HX63.out.all5; clear ho3 hb3)
          refine end_ret (v := .agg #[.int .i64 0, .int .i64 0, .int .i64 0, .slice A3 (0) c3, .slice none 0 0]) (by simp [results, Tryz.results70, go_sem, d0, e0, e1, e2, e3, e4, f0, f1, f2, f3, f4]; try rfl) ?_
          exact HFIN.out _ _ _ _ HO3.out HB3.out
        · have hmp : (0 : Int) < (m : Int) := by omega
          go_enter Tryz.func70, Tryz.ntmps70
          go_upto_region 3 with (go_at_call 86; first | ((with_reducible refine (HIN.out _).mono ?_); rintro e w2 ⟨rfl, rfl⟩) | ((with_reducible refine (HIN2.out _).mono ?_); rintro e w2 ⟨rfl, rfl⟩))
          rw [← hw1, ← hq6]
          clear hw1 hq6
          go_wp2_with (go_at_call 88; (with_reducible refine (HCL.out w1 _ _ HB1.out HL1.out HL2.out).mono ?_); rintro e w3 ⟨A3, c3, rfl, ho3, hb3⟩; have HO3 := Lib.hid ho3; have HB3 := Lib.hid hb3; have HX63 := Lib.hid (HX6.out.below hb3); obtain ⟨d0, e0, e1, e2, e3, e4, f0, f1, f2, f3, f4⟩ := HX63.out.all5; clear ho3 hb3)
          refine end_ret (v := .agg #[.int .i64 0, .int .i64 0, .int .i64 0, .slice A3 (0) c3, .slice none 0 0]) (by simp [results, Tryz.results70, go_sem, d0, e0, e1, e2, e3, e4, f0, f1, f2, f3, f4]; try rfl) ?_
          exact HFIN.out _ _ _ _ HO3.out HB3.out
      · have hmp : (0 : Int) < (k : Int) := by omega
        have hmq : (0 : Int) < (k : Int) + (m : Int) := by omega
        go_enter Tryz.func70, Tryz.ntmps70
        go_upto_region 3 with (go_at_call 86; first | ((with_reducible refine (HIN.out _).mono ?_); rintro e w2 ⟨rfl, rfl⟩) | ((with_reducible refine (HIN2.out _).mono ?_); rintro e w2 ⟨rfl, rfl⟩))
        rw [← hw1, ← hq6]
        clear hw1 hq6
        go_wp2_with (go_at_call 88; (with_reducible refine (HCL.out w1 _ _ HB1.out HL1.out HL2.out).mono ?_); rintro e w3 ⟨A3, c3, rfl, ho3, hb3⟩; have HO3 := Lib.hid ho3; have HB3 := Lib.hid hb3; have HX63 := Lib.hid (HX6.out.below hb3); obtain ⟨d0, e0, e1, e2, e3, e4, f0, f1, f2, f3, f4⟩ := HX63.out.all5; clear ho3 hb3)
        refine end_ret (v := .agg #[.int .i64 0, .int .i64 0, .int .i64 0, .slice A3 (0) c3, .slice none 0 0]) (by simp [results, Tryz.results70, go_sem, d0, e0, e1, e2, e3, e4, f0, f1, f2, f3, f4]; try rfl) ?_
        exact HFIN.out _ _ _ _ HO3.out HB3.out
    · by_cases g1 : n < k
      · have hlo1 : n = lo := by omega
        have hhi1 : hi = n := by omega
        have q1 : (n : Int) < (k : Int) := by omega
        have q2 : (n : Int) < (k : Int) + (m : Int) := by omega
        have q3 : (n : Int) ≤ (c : Int) := by omega
        by_cases hcl : c = lo
        · rw [if_pos hcl] at hX1
          subst hX1
          have hcl2 : c = n := by omega
          have HL1 : Hid ((0 : Nat) = hi - lo) := Lib.hid (by omega)
          have HL2 : Hid ((0 : Nat) = d) := Lib.hid (by omega)
          subst hlo1
          clear hlo hhi hX2 hnl hhi1 hcl
          subst hcl2
          clear hpl hcap
          go_enter Tryz.func70, Tryz.ntmps70
          go_upto_region 3 with (go_at_call 86; first | ((with_reducible refine (HIN.out _).mono ?_); rintro e w2 ⟨rfl, rfl⟩) | ((with_reducible refine (HIN2.out _).mono ?_); rintro e w2 ⟨rfl, rfl⟩))
          rw [← hw1, ← hq6]
          clear hw1 hq6
          go_wp2_with (go_at_call 88; (with_reducible refine (HCL.out w1 _ _ HB1.out HL1.out HL2.out).mono ?_); rintro e w3 ⟨A3, c3, rfl, ho3, hb3⟩; have HO3 := Lib.hid ho3; have HB3 := Lib.hid hb3; have HX63 := Lib.hid (HX6.out.below hb3); obtain ⟨d0, e0, e1, e2, e3, e4, f0, f1, f2, f3, f4⟩ := HX63.out.all5; clear ho3 hb3)
          refine end_ret (v := .agg #[.int .i64 0, .int .i64 0, .int .i64 0, .slice A3 (0) c3, .slice none 0 0]) (by simp [results, Tryz.results70, go_sem, d0, e0, e1, e2, e3, e4, f0, f1, f2, f3, f4]; try rfl) ?_
          exact HFIN.out _ _ _ _ HO3.out HB3.out
        · rw [if_neg hcl, Option.map_some, Nat.zero_add] at hX1
          subst hX1
          have hcl2 : ¬ c = n := by omega
          have HL1 : Hid (0 = hi - lo) := Lib.hid (by omega)
          have HL2 : Hid (c - n = d) := Lib.hid (by omega)
          subst hlo1
          clear hlo hhi hX2 hnl hcap hpl hhi1 hcl
          go_enter Tryz.func70, Tryz.ntmps70
          go_upto_region 3 with (go_at_call 86; first | ((with_reducible refine (HIN.out _).mono ?_); rintro e w2 ⟨rfl, rfl⟩) | ((with_reducible refine (HIN2.out _).mono ?_); rintro e w2 ⟨rfl, rfl⟩))
          rw [← hw1, ← hq6]
          clear hw1 hq6
          go_wp2_with (go_at_call 88; (with_reducible refine (HCL.out w1 _ _ HB1.out HL1.out HL2.out).mono ?_); rintro e w3 ⟨A3, c3, rfl, ho3, hb3⟩; have HO3 := Lib.hid ho3; have HB3 := Lib.hid hb3; have HX63 := Lib.hid (HX6.out.below hb3); obtain ⟨d0, e0, e1, e2, e3, e4, f0, f1, f2, f3, f4⟩ := HX63.out.all5; clear ho3 hb3)
          refine end_ret (v := .agg #[.int .i64 0, .int .i64 0, .int .i64 0, .slice A3 (0) c3, .slice none 0 0]) (by simp [results, Tryz.results70, go_sem, d0, e0, e1, e2, e3, e4, f0, f1, f2, f3, f4]; try rfl) ?_
          exact HFIN.out _ _ _ _ HO3.out HB3.out
      · by_cases g2 : n < k + m
        · have hlo1 : k = lo := by omega
          have hhi1 : hi = n := by omega
          have q1 : ¬ (n : Int) < (k : Int) := by omega
          have q2 : (n : Int) < (k : Int) + (m : Int) := by omega
          have q3 : (n : Int) ≤ (c : Int) := by omega
          have q4 : (k : Int) ≤ (n : Int) := by omega
          by_cases hcl : c = lo
          · rw [if_pos hcl] at hX1
            subst hX1
            have hcl2 : c = k := by omega
            have HL1 : Hid ((0 : Nat) = hi - lo) := Lib.hid (by omega)
            have HL2 : Hid ((0 : Nat) = d) := Lib.hid (by omega)
            subst hlo1
            have hnk : n = k := by omega
            clear hlo hhi hX2 hnl hhi1 hcl
            subst hcl2
            subst hnk
            clear hpl hcap
            go_enter Tryz.func70, Tryz.ntmps70
            go_upto_region 3 with (go_at_call 86; first | ((with_reducible refine (HIN.out _).mono ?_); rintro e w2 ⟨rfl, rfl⟩) | ((with_reducible refine (HIN2.out _).mono ?_); rintro e w2 ⟨rfl, rfl⟩))
            rw [← hw1, ← hq6]
            clear hw1 hq6
            go_wp2_with (go_at_call 88; (with_reducible refine (HCL.out w1 _ _ HB1.out HL1.out HL2.out).mono ?_); rintro e w3 ⟨A3, c3, rfl, ho3, hb3⟩; have HO3 := Lib.hid ho3; have HB3 := Lib.hid hb3; have HX63 := Lib.hid (HX6.out.below hb3); obtain ⟨d0, e0, e1, e2, e3, e4, f0, f1, f2, f3, f4⟩ := HX63.out.all5; clear ho3 hb3)
            refine end_ret (v := .agg #[.int .i64 0, .int .i64 0, .int .i64 0, .slice A3 (0) c3, .slice none 0 0]) (by simp [results, Tryz.results70, go_sem, d0, e0, e1, e2, e3, e4, f0, f1, f2, f3, f4]; try rfl) ?_
            exact HFIN.out _ _ _ _ HO3.out HB3.out
          · rw [if_neg hcl, Option.map_some, Nat.zero_add] at hX1
            subst hX1
            have hcl2 : ¬ c = k := by omega
            have HL1 : Hid (n - k = hi - lo) := Lib.hid (by omega)
            have HL2 : Hid (c - k = d) := Lib.hid (by omega)
            subst hlo1
            clear hlo hhi hX2 hnl hcap hpl hhi1 hcl
            go_enter Tryz.func70, Tryz.ntmps70
            go_upto_region 3 with (go_at_call 86; first | ((with_reducible refine (HIN.out _).mono ?_); rintro e w2 ⟨rfl, rfl⟩) | ((with_reducible refine (HIN2.out _).mono ?_); rintro e w2 ⟨rfl, rfl⟩))
            rw [← hw1, ← hq6]
            clear hw1 hq6
            go_wp2_with (go_at_call 88; (with_reducible refine (HCL.out w1 _ _ HB1.out HL1.out HL2.out).mono ?_); rintro e w3 ⟨A3, c3, rfl, ho3, hb3⟩; have HO3 := Lib.hid ho3; have HB3 := Lib.hid hb3; have HX63 := Lib.hid (HX6.out.below hb3); obtain ⟨d0, e0, e1, e2, e3, e4, f0, f1, f2, f3, f4⟩ := HX63.out.all5; clear ho3 hb3)
            refine end_ret (v := .agg #[.int .i64 0, .int .i64 0, .int .i64 0, .slice A3 (n - k) c3, .slice none 0 0]) (by simp [results, Tryz.results70, go_sem, d0, e0, e1, e2, e3, e4, f0, f1, f2, f3, f4]; try rfl) ?_
            exact HFIN.out _ _ _ _ HO3.out HB3.out
        · have hlo1 : k = lo := by omega
          have hhi1 : hi = k + m := by omega
          have q1 : ¬ (n : Int) < (k : Int) := by omega
          have q2 : ¬ (n : Int) < (k : Int) + (m : Int) := by omega
          have q3 : (k : Int) + (m : Int) ≤ (c : Int) := by omega
          have q4 : (k : Int) ≤ (k : Int) + (m : Int) := by omega
          by_cases hcl : c = lo
          · rw [if_pos hcl] at hX1
            subst hX1
            have hcl2 : c = k := by omega
            have HL1 : Hid ((0 : Nat) = hi - lo) := Lib.hid (by omega)
            have HL2 : Hid ((0 : Nat) = d) := Lib.hid (by omega)
            subst hlo1
            have hnk : n = k := by omega
            have hm0 : m = 0 := by omega
            clear hlo hhi hX2 hnl hhi1 hcl
            subst hcl2
            subst hnk
            subst hm0
            rw [show ((0 : Nat) : Int) = 0 from rfl] at HIN2 ⊢
            clear hpl hcap
            go_enter Tryz.func70, Tryz.ntmps70
            go_upto_region 3 with (go_at_call 86; first | ((with_reducible refine (HIN.out _).mono ?_); rintro e w2 ⟨rfl, rfl⟩) | ((with_reducible refine (HIN2.out _).mono ?_); rintro e w2 ⟨rfl, rfl⟩))
            rw [← hw1, ← hq6]
            clear hw1 hq6
            go_wp2_with (go_at_call 88; (with_reducible refine (HCL.out w1 _ _ HB1.out HL1.out HL2.out).mono ?_); rintro e w3 ⟨A3, c3, rfl, ho3, hb3⟩; have HO3 := Lib.hid ho3; have HB3 := Lib.hid hb3; have HX63 := Lib.hid (HX6.out.below hb3); obtain ⟨d0, e0, e1, e2, e3, e4, f0, f1, f2, f3, f4⟩ := HX63.out.all5; clear ho3 hb3)
            refine end_ret (v := .agg #[.int .i64 0, .int .i64 0, .int .i64 0, .slice A3 (0) c3, .slice none 0 0]) (by simp [results, Tryz.results70, go_sem, d0, e0, e1, e2, e3, e4, f0, f1, f2, f3, f4]; try rfl) ?_
            exact HFIN.out _ _ _ _ HO3.out HB3.out
          · rw [if_neg hcl, Option.map_some, Nat.zero_add] at hX1
            subst hX1
            have hcl2 : ¬ c = k := by omega
            have HL1 : Hid (m = hi - lo) := Lib.hid (by omega)
            have HL2 : Hid (c - k = d) := Lib.hid (by omega)
            subst hlo1
            clear hlo hhi hX2 hnl hcap hpl hhi1 hcl
            go_enter Tryz.func70, Tryz.ntmps70
            go_upto_region 3 with (go_at_call 86; first | ((with_reducible refine (HIN.out _).mono ?_); rintro e w2 ⟨rfl, rfl⟩) | ((with_reducible refine (HIN2.out _).mono ?_); rintro e w2 ⟨rfl, rfl⟩))
            rw [← hw1, ← hq6]
            clear hw1 hq6
            go_wp2_with (go_at_call 88; (with_reducible refine (HCL.out w1 _ _ HB1.out HL1.out HL2.out).mono ?_); rintro e w3 ⟨A3, c3, rfl, ho3, hb3⟩; have HO3 := Lib.hid ho3; have HB3 := Lib.hid hb3; have HX63 := Lib.hid (HX6.out.below hb3); obtain ⟨d0, e0, e1, e2, e3, e4, f0, f1, f2, f3, f4⟩ := HX63.out.all5; clear ho3 hb3)
            refine end_ret (v := .agg #[.int .i64 0, .int .i64 0, .int .i64 0, .slice A3 (m) c3, .slice none 0 0]) (by simp [results, Tryz.results70, go_sem, d0, e0, e1, e2, e3, e4, f0, f1, f2, f3, f4]; try rfl) ?_
            exact HFIN.out _ _ _ _ HO3.out HB3.out

end Go.Proofs.YthjpighlcalocaaGreatDoor
