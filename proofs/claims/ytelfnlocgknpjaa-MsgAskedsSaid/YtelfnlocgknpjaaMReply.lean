/-
  Replies: their parts; what there is against one.
-/
import Derived.Test.YtelfnlocgknpjaaMFace
import Derived.Test.YtelfnlocgknpjaaJoin
namespace Go.Proofs.Ytelfnlocgknpjaa
open Go.RowKit
set_option linter.unusedVariables false
set_option linter.unusedSimpArgs false

theorem nfault_one (l : Byt) : nfault [l] = if nameB l then 0 else 4 := by
  unfold nfault
  rw [if_neg (by simp)]
  simp
set_option maxHeartbeats 4000000 in
theorem oddM_any (l : Byt) (w : World) :
    Calls Try.prog 49 #[.string (tx l)] w fun e w' => e = .returned (.bool (!nameB l)) ∧ Below w.heap.size w w' := by
  obtain ⟨w1, hw1⟩ : ∃ w1, w1 = w.alloc (.cells #[.string (tx l)] 9) := ⟨_, rfl⟩
  have HB1 : Hid (Below w.heap.size w w1) := Lib.hid (by rw [hw1]; exact ba1 _ _)
  have HL : Hid (Ls stS w1 (some ⟨w.heap.size, 0, none⟩) [l]) := Lib.hid (by rw [hw1]; exact ls_new w 9 [l] _ rfl _ rfl)
  rcases hv : nameB l with _ | _
  · have HJ := Lib.hid (join_fault (some ⟨w.heap.size, 0, none⟩) 1 1 [l] w1 HL.out rfl (by rw [nfault_one, hv]; decide))
    rw [nfault_one, hv] at HJ
    have HJ2 : Hid (Calls Try.prog 50 #[.slice (some ⟨w.heap.size, 0, none⟩) 1 1] w1 fun e w' => e = .returned (.tuple #[.string ⟨#[]⟩, .int .i64 4]) ∧ Below w1.heap.size w1 w') := HJ
    clear hv HJ
    go_enter Try.func49, Try.ntmps49
    go_wp2_with (rw [← hw1]; go_at_call 50; (with_reducible refine HJ2.out.mono ?_); rintro e w2 ⟨rfl, hb2⟩; have HB2 := Lib.hid hb2; clear hb2)
    go_ret
    exact ⟨rfl, bthen HB1.out HB2.out⟩
  · have HJ := Lib.hid (join_ok (some ⟨w.heap.size, 0, none⟩) 1 1 [l] w1 HL.out rfl (by omega) ⟨by simp, by simp [hv]⟩)
    clear hv
    go_enter Try.func49, Try.ntmps49
    go_wp2_with (rw [← hw1]; go_at_call 50; (with_reducible refine HJ.out.mono ?_); rintro e w2 ⟨rfl, hb2⟩; have HB2 := Lib.hid hb2; clear hb2)
    go_ret
    exact ⟨rfl, bthen HB1.out HB2.out⟩

theorem idxFuncM_any (A : Option Addr) (n c : Nat) (l : List Byt) (w : World) (hb : Ls stS w A l) (hn : l.length = n) (hm : n ≤ 1000) :
    Calls Try.prog 58 #[.slice A n c, .func (.func 49) #[] #[]] w fun e w' => (∃ k : Int, e = .returned (.int .i64 k) ∧ OddAt l k) ∧ Below w.heap.size w w' := by
  have HA := Lib.hid hb
  have HN := Lib.hid hn
  clear hb hn
  go_enter Try.func58, Try.ntmps58
  go_wp2
  go_loopw [8] (fun i wr => ∃ k : Nat, i = .int .i64 (k : Int) ∧ k ≤ n ∧ AllNames (l.take k) ∧ Below w.heap.size w wr) (fun i _ => n - (intOf i).toNat)
  case atStart => exact ⟨0, rfl, Nat.zero_le _, rfl, Below.refl _ _⟩
  case round =>
    obtain ⟨k, rfl, hk, hall, hbw⟩ := hrel
    have HALL := Lib.hid hall
    have HBW := Lib.hid hbw
    clear hall hbw
    by_cases hlt : k < n
    · have hlti : (k : Int) < (n : Int) := by omega
      obtain ⟨b, o, rfl, hbl, hc⟩ := (HA.out.below HBW.out).text k (by rw [HN.out]; exact hlt)
      have HS : Hid ((l.take (k + 1)).all nameB = nameB (l.getD k [])) := Lib.hid (take_all HALL.out (by rw [HN.out]; exact hlt))
      have HF : Hid (nameB (l.getD k []) = false → l.all nameB = false) := Lib.hid (fun h => all_false (by rw [HN.out]; exact hlt) h)
      obtain ⟨x, hx⟩ : ∃ x, l.getD k [] = x := ⟨_, rfl⟩
      rw [hx] at hc HS HF
      have HC := Lib.hid (oddM_any x wr)
      obtain ⟨v, hv⟩ : ∃ v, nameB x = v := ⟨_, rfl⟩
      rw [hv] at HC HS HF
      clear hx hv
      cases v
      · go_wp2_with (go_at_call 49; refine HC.out.mono ?_; rintro e w1 ⟨rfl, hb1⟩; have HB := Lib.hid hb1; clear hb1)
        go_ret
        exact ⟨⟨_, rfl, oddAt_some (HF.out (by first | rfl | trivial)) k⟩, bthen HBW.out HB.out⟩
      · go_wp2_with (go_at_call 49; refine HC.out.mono ?_; rintro e w1 ⟨rfl, hb1⟩; have HB := Lib.hid hb1; clear hb1)
        go_roundw
        case rel => exact ⟨k + 1, by simp, by omega, HS.out, bthen HBW.out HB.out⟩
        case measure => simp [intOf]; omega
    · have hlti : ¬ (k : Int) < (n : Int) := by omega
      have HE : Hid (AllNames l) := Lib.hid (by have := HALL.out; rw [List.take_of_length_le (by rw [HN.out]; omega)] at this; exact this)
      go_wp2
      go_ret
      exact ⟨⟨-1, rfl, oddAt_none HE.out⟩, HBW.out⟩

theorem contFuncM_any (A : Option Addr) (n c : Nat) (l : List Byt) (w : World) (hb : Ls stS w A l) (hn : l.length = n) (hm : n ≤ 1000) :
    Calls Try.prog 51 #[.slice A n c, .func (.func 49) #[] #[]] w fun e w' => e = .returned (.bool (!l.all nameB)) ∧ Below w.heap.size w w' := by
  have HC := Lib.hid (idxFuncM_any A n c l w hb hn hm)
  clear hb hn
  obtain ⟨v, hv⟩ : ∃ v, l.all nameB = v := ⟨_, rfl⟩
  unfold OddAt at HC
  rw [hv] at HC ⊢
  clear hv
  cases v
  · go_enter Try.func51, Try.ntmps51
    go_wp2_with (go_at_call 58; refine HC.out.mono ?_; rintro e w1 ⟨⟨k, rfl, hk⟩, hb1⟩; have hk0 : (0 : Int) ≤ k := hk.2 rfl; have HB := Lib.hid hb1; clear hb1 hk)
    go_ret
    exact ⟨by first | rfl | exact congrArg (fun b => Ending.returned (.bool b)) (decide_eq_true hk0), HB.out⟩
  · go_enter Try.func51, Try.ntmps51
    go_wp2_with (go_at_call 58; refine HC.out.mono ?_; rintro e w1 ⟨⟨k, rfl, hk⟩, hb1⟩; have hk0 : ¬ (0 : Int) ≤ k := (fun h => by have := hk.1 h; cases this); have HB := Lib.hid hb1; clear hb1 hk)
    go_ret
    exact ⟨by first | rfl | exact congrArg (fun b => Ending.returned (.bool b)) (decide_eq_false (by omega)), HB.out⟩

/-- the parts of a reply up to its bytes -/
def rpParts (B C : Nat) : List Pt := [.num (at_ B 0) 4, .num (at_ C 0) 1, .num (at_ B 2) 4, .num (at_ B 3) 1, .num (at_ B 4) 4, .dat (at_ B 5)]
set_option maxRecDepth 100000 in
set_option maxHeartbeats 8000000 in
theorem ofRep_any (B C : Nat) (w : World) (hB : B < w.heap.size) (hC : C < w.heap.size) :
    Calls Try.prog 38 #[.pointer (some ⟨B, 0, none⟩), .pointer (some ⟨C, 0, none⟩)] w fun e w' => Below w.heap.size w w' ∧ ∃ P, e = .returned (.slice P 6 6) ∧ OwnL ptS 74 w' w.heap.size P 6 6 (rpParts B C) := by
  go_enter Try.func38, Try.ntmps38
  go_upto_region 1 with fail
  go_region
  all_goals
    go_wp2_with fail
    go_ret
    exact ⟨(ba1 _ _).drew, some _, rfl, (ownL_new w w.heap.size (Nat.le_refl _) (rpParts B C) 6 _ rfl rfl (by omega) _ rfl).below (Below.refl _ _).drew⟩

/-- the places of names -/
def nmP (b o n : Nat) : List Pt := (List.range n).map fun i => .txt (at_ b (o + i))
theorem nmP_len (b o n : Nat) : (nmP b o n).length = n := by unfold nmP; simp
theorem nmP_succ (b o n : Nat) : nmP b o (n + 1) = nmP b o n ++ [.txt (at_ b (o + n))] := by unfold nmP; rw [List.range_succ, List.map_append]; rfl
set_option maxRecDepth 100000 in
set_option maxHeartbeats 8000000 in
theorem ofNm_any (A : Option Addr) (b o n c : Nat) (l : List Byt) (w : World) (hb : Ls stS w A l) (hn : l.length = n) (hm : n ≤ 1000) (hA : A = some ⟨b, o, none⟩ ∨ n = 0) :
    Calls Try.prog 39 #[.slice A n c] w fun e w' => Below w.heap.size w w' ∧ ∃ P d, e = .returned (.slice P n d) ∧ OwnL ptS 74 w' w.heap.size P n d (nmP b o n) := by
  have HB := Lib.hid hb
  have HN := Lib.hid hn
  have HA := Lib.hid hA
  clear hb hn hA
  go_enter Try.func39, Try.ntmps39
  go_wp2_with fail
  go_loopw [3, 7] (fun p i wr => ∃ (k : Nat) (P : Option Addr) (d : Nat), i = .int .i64 (k : Int) ∧ k ≤ n ∧ p = .slice P k d ∧ OwnL ptS 74 wr w.heap.size P k d (nmP b o k) ∧ Below w.heap.size w wr) (fun _ i _ => n - (intOf i).toNat)
  case atStart => exact ⟨0, none, 0, rfl, Nat.zero_le _, rfl, OwnL.nil _ _, Below.refl _ _⟩
  case round =>
    obtain ⟨k, P, d, rfl, hk, rfl, ho, hbw⟩ := hrel
    have HO := Lib.hid ho
    have HBW := Lib.hid hbw
    clear ho hbw
    by_cases hlt : k < n
    · have hlti : (k : Int) < (n : Int) := by omega
      have hAe : A = some ⟨b, o, none⟩ := HA.out.resolve_right (by omega)
      subst hAe
      go_wp2_with (at_builtin; refine wpList_appL (F := ptS) rfl _ (.tmp 10) (.tmp 16) 50 rfl _ 16 Try.underlying50 ptInfo rfl w.heap.size P k d _ rfl (HO.out.below (ba1 _ _)) (some ⟨wr.heap.size, 0, none⟩) 1 1 ([.txt (at_ b (o + k))] : List Pt) rfl (ls_new wr _ _ _ rfl _ rfl) rfl (k + 1) rfl (by omega) (by omega) (by have := HBW.out.size; simp; omega) ?_; intro A3 c3 w3 ho3 hb3 _; have HO3 := Lib.hid ho3; have HB3 : Hid (Below w.heap.size w w3) := Lib.hid ((HBW.out.alloc HBW.out.size _).trans hb3); clear ho3 hb3)
      exact ⟨⟨k + 1, A3, c3, by go_num, by omega, rfl, by rw [nmP_succ]; exact HO3.out, HB3.out⟩, by simp [intOf]; omega⟩
    · have hlti : ¬ (k : Int) < (n : Int) := by omega
      obtain rfl : k = n := by omega
      go_wp2_with fail
      go_ret
      exact ⟨HBW.out, P, d, rfl, HO.out⟩

/-- a reply's fields -/
structure Rpv where
  (mrk code han kd sz : Int) (D : Option Addr) (m d : Nat) (zs : List Int) (N : Option Addr) (n c : Nat) (ns : List Byt)
def Rpv.In (x : Rpv) (w : World) : Prop := (Ls byS w x.D x.zs ∧ x.zs.length = x.m) ∧ Ls stS w x.N x.ns ∧ x.ns.length = x.n
theorem Rpv.In.below {x : Rpv} {w w' : World} (h : x.In w) (hb : Below w.heap.size w w') : x.In w' := ⟨⟨h.1.1.below hb, h.1.2⟩, h.2.1.below hb, h.2.2⟩
def ckN (k : Nat) (v : Int) : Int := if v < 0 ∨ 256 ^ k ≤ v then 2 else 0
/-- what there is against a reply -/
def headR (mrk code han kd sz : Int) (m : Nat) : Int := chkT [ckN 4 mrk, ckN 1 code, ckN 4 han, ckN 1 kd, ckN 4 sz, if 100 < m then 1 else 0]
def faultR (mrk code han kd sz : Int) (m : Nat) (ns : List Byt) : Int :=
  if headR mrk code han kd sz m ≠ 0 then headR mrk code han kd sz m else if 40 < ns.length then 1 else if ns.all nameB then 0 else 4
def Rpv.fault (x : Rpv) : Int := faultR x.mrk x.code x.han x.kd x.sz x.m x.ns
theorem rpCk_any (B C : Nat) (P : Option Addr) (mrk code han kd sz : Int) (D : Option Addr) (m d : Nat) (N : Option Addr) (n c : Nat) (w : World) (v : Int) (hv : v = headR mrk code han kd sz m)
    (hx : Bx 36 w B #[.int .i64 mrk, .int .i64 code, .int .i64 han, .int .i64 kd, .int .i64 sz, .slice D m d, .slice N n c]) (hc : Bx 3 w C #[.int .i64 code]) (hp : Ls ptS w P (rpParts B C)) :
    Calls Try.prog 46 #[.slice P 6 6] w fun e w' => e = .returned (.int .i64 v) ∧ Below w.heap.size w w' := by
  rw [hv]
  refine check_parts P 6 6 [(.num (at_ B 0) 4, ckN 4 mrk), (.num (at_ C 0) 1, ckN 1 code), (.num (at_ B 2) 4, ckN 4 han), (.num (at_ B 3) 1, ckN 1 kd), (.num (at_ B 4) 4, ckN 4 sz), (.dat (at_ B 5), if 100 < m then 1 else 0)] w hp rfl (by omega) ?_
  intro q hq
  simp only [List.mem_cons, List.not_mem_nil, or_false] at hq
  rcases hq with rfl | rfl | rfl | rfl | rfl | rfl
  · exact ⟨mrk, by omega, hx.lt, hx.cell 0 _ rfl, rfl⟩
  · exact ⟨code, by omega, hc.lt, hc.cell 0 _ rfl, rfl⟩
  · exact ⟨han, by omega, hx.lt, hx.cell 2 _ rfl, rfl⟩
  · exact ⟨kd, by omega, hx.lt, hx.cell 3 _ rfl, rfl⟩
  · exact ⟨sz, by omega, hx.lt, hx.cell 4 _ rfl, rfl⟩
  · exact ⟨D, m, d, hx.lt, hx.cell 5 _ rfl, rfl⟩
set_option maxRecDepth 100000 in
set_option maxHeartbeats 8000000 in
theorem repFault_any (x : Rpv) (w : World) (hin : x.In w) (hn : x.n ≤ 140737488355328) :
    Calls Try.prog 37 #[.agg #[.int .i64 x.mrk, .int .i64 x.code, .int .i64 x.han, .int .i64 x.kd, .int .i64 x.sz, .slice x.D x.m x.d, .slice x.N x.n x.c]] w fun e w' => e = .returned (.int .i64 x.fault) ∧ Below w.heap.size w w' := by
  obtain ⟨mrk, code, han, kd, sz, D, m, d, zs, N, n, c, ns⟩ := x
  simp only [Rpv.fault] at hn ⊢
  obtain ⟨⟨hd, hdl⟩, hns, hnl⟩ := hin
  simp only at hd hdl hns hnl
  obtain ⟨w1, hw1⟩ : ∃ w1, w1 = w.alloc (.cells #[.int .i64 mrk, .int .i64 code, .int .i64 han, .int .i64 kd, .int .i64 sz, .slice D m d, .slice N n c] 36) := ⟨_, rfl⟩
  obtain ⟨B, hB⟩ : ∃ B, B = w.heap.size := ⟨_, rfl⟩
  have HB1 : Hid (Below w.heap.size w w1) := Lib.hid (by rw [hw1]; exact ba1 _ _)
  have hx : Bx 36 w1 B #[.int .i64 mrk, .int .i64 code, .int .i64 han, .int .i64 kd, .int .i64 sz, .slice D m d, .slice N n c] := by rw [hw1, hB]; exact bx_new _ _ _
  have HX := Lib.hid hx
  have hBl := hx.lt
  have b1 := hx.cell 1 _ rfl
  have HNS := Lib.hid (hns.below HB1.out)
  have HNL := Lib.hid hnl
  have HDL := Lib.hid hdl
  clear hx hd hns hnl hdl
  go_enter Try.func37, Try.ntmps37
  go_upto_region 1 with fail
  rw [← hw1, ← hB]
  clear hw1 hB
  go_upto_region 2 with fail
  obtain ⟨w2, hw2⟩ : ∃ w2, w2 = w1.alloc (.cells #[.int .i64 code] 3) := ⟨_, rfl⟩
  obtain ⟨C, hC⟩ : ∃ C, C = w1.heap.size := ⟨_, rfl⟩
  have HB2 : Hid (Below w1.heap.size w1 w2) := Lib.hid (by rw [hw2]; exact ba1 _ _)
  have HC2 : Hid (Bx 3 w2 C #[.int .i64 code]) := Lib.hid (by rw [hw2, hC]; exact bx_new _ _ _)
  have HX2 := Lib.hid (HX.out.below HB2.out)
  rw [← hw2, ← hC]
  clear hw2 hC b1
  have HOF := Lib.hid (ofRep_any B C w2 HX2.out.lt HC2.out.lt)
  obtain ⟨v, hv⟩ : ∃ v, v = headR mrk code han kd sz m := ⟨_, rfl⟩
  have HV := Lib.hid hv
  clear hv
  go_upto_region 3 with (first
    | (go_at_call 38; (with_reducible refine HOF.out.mono ?_); rintro e w3 ⟨hb3, P, rfl, ho3⟩; have HB3 := Lib.hid hb3; have HO3 := Lib.hid ho3; have HCK : Hid (Calls Try.prog 46 #[.slice P 6 6] w3 fun e w' => e = .returned (.int .i64 v) ∧ Below w3.heap.size w3 w') := Lib.hid (rpCk_any B C P mrk code han kd sz D m d N n c w3 v HV.out (HX2.out.below hb3) (HC2.out.below hb3) ho3.ls); clear hb3 ho3)
    | (go_at_call 46; (with_reducible refine HCK.out.mono ?_); rintro e w4 ⟨rfl, hb4⟩; have HB4 := Lib.hid hb4; clear hb4))
  have HBW : Hid (Below w.heap.size w w4) := Lib.hid (bthen HB1.out (bthen HB2.out (bthen HB3.out HB4.out)))
  by_cases hv0 : v = 0
  · subst hv0
    have HX4 := Lib.hid (HX2.out.below (bthen HB3.out HB4.out))
    have b6 : w4.cell? ⟨B, 6, none⟩ = some (.slice N n c) := HX4.out.cell 6 _ rfl
    have lb := HX4.out.lt
    have HNS4 := Lib.hid (HNS.out.below (bthen HB2.out (bthen HB3.out HB4.out)))
    by_cases h40 : 40 < n
    · have h40d : decide ((40 : Int) < (n : Int)) = true := by simp; omega
      have HR : Hid (faultR mrk code han kd sz m ns = 1) := Lib.hid (by
        unfold faultR
        rw [if_neg (by rw [← HV.out]; simp), if_pos (by rw [HNL.out]; exact h40)])
      go_wp2_with fail
      go_ret
      exact ⟨by rw [HR.out]; rfl, HBW.out⟩
    · have h40d : decide ((40 : Int) < (n : Int)) = false := by simp; omega
      have HCF := Lib.hid (contFuncM_any N n c ns w4 HNS4.out HNL.out (by omega))
      rcases hall : ns.all nameB with _ | _
      · have HR : Hid (faultR mrk code han kd sz m ns = 4) := Lib.hid (by
          unfold faultR
          rw [if_neg (by rw [← HV.out]; simp), if_neg (by rw [HNL.out]; exact h40), hall]
          rfl)
        rw [hall] at HCF
        clear hall
        go_wp2_with (go_at_call 51; (with_reducible refine HCF.out.mono ?_); rintro e w5 ⟨rfl, hb5⟩; have HB5 := Lib.hid hb5; clear hb5)
        go_ret
        exact ⟨by rw [HR.out]; rfl, bthen HBW.out HB5.out⟩
      · have HR : Hid (faultR mrk code han kd sz m ns = 0) := Lib.hid (by
          unfold faultR
          rw [if_neg (by rw [← HV.out]; simp), if_neg (by rw [HNL.out]; exact h40), hall]
          rfl)
        rw [hall] at HCF
        clear hall
        go_wp2_with (go_at_call 51; (with_reducible refine HCF.out.mono ?_); rintro e w5 ⟨rfl, hb5⟩; have HB5 := Lib.hid hb5; clear hb5)
        go_ret
        exact ⟨by rw [HR.out]; rfl, bthen HBW.out HB5.out⟩
  · have hv1 : (v == 0) = false := by simpa using hv0
    have hv2 : (v != 0) = true := by simpa using hv0
    have HR : Hid (faultR mrk code han kd sz m ns = v) := Lib.hid (by
      unfold faultR
      rw [← HV.out, if_pos hv0])
    go_wp2_with fail
    go_ret
    exact ⟨by rw [HR.out]; rfl, HBW.out⟩

end Go.Proofs.Ytelfnlocgknpjaa
