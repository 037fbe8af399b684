/-
  What there is against a list of parts.
-/
import Derived.Test.YtelfnlocgknpjaaMCheck
namespace Go.Proofs.Ytelfnlocgknpjaa
open Go.RowKit
set_option linter.unusedVariables false
set_option linter.unusedSimpArgs false

def oddF (Q : Nat) : Value := .func (.func 54) #[] #[.pointer (some ⟨Q, 0, none⟩)]
def Want (w : World) (Q : Nat) (want : Int) : Prop := Q < w.heap.size ∧ w.cell? ⟨Q, 0, none⟩ = some (.int .i64 want)
theorem Want.below {w w' : World} {Q : Nat} {want : Int} (h : Want w Q want) (hb : Below w.heap.size w w') : Want w' Q want := ⟨Nat.lt_of_lt_of_le h.1 hb.size, (hb.cell (p := ⟨Q, 0, none⟩) h.1).trans h.2⟩
set_option maxHeartbeats 4000000 in
theorem odd_clos (p : Pt) (c want : Int) (Q : Nat) (w : World) (hc : CkAt w c p) (hq : Want w Q want) (v : Bool) (hv : (c == want) = v) :
    Calls Try.prog 54 #[ptV p, .pointer (some ⟨Q, 0, none⟩)] w fun e w' => e = .returned (.bool v) ∧ Below w.heap.size w w' := by
  have HC := Lib.hid hc
  have hql := hq.1
  have q0 := hq.2
  have b0 := cell_drew1 q0
  have HCK := Lib.hid (fun wx (h : Below w.heap.size w wx) => ptCk_any p c wx (HC.out.below h))
  clear hc hq
  rcases p with ⟨a, k⟩ | a | a
  · have hm : ∀ w, (method 200 68 (.agg #[.pointer (some a), .int .i64 k]) "packthread/msg.check").run Try.prog w = .ok (96, .agg #[.pointer (some a), .int .i64 k]) w := fun w => by kernel_rfl
    simp only [ptV]
    go_enter Try.func54, Try.ntmps54
    go_upto_region 1 with fail
    go_region_held3 (fun w' => w'.cell? ⟨Q, 0, none⟩ = some (.int .i64 want)) (first | (with_reducible exact m0) | (with_reducible exact b0) | go_keep) (first
      | (go_at_call 96; (refine (HCK.out w.drew (Below.refl _ _).drew).mono ?_); rintro e w5 ⟨rfl, hb5⟩; have HB5 := Lib.hid hb5; have m0 := (hb5.cell (p := ⟨Q, 0, none⟩) hql).trans b0; clear hb5))
    all_goals
      go_wp2
      go_ret
      exact ⟨rfl, (Below.refl _ _).drew.trans HB5.out⟩
  · have hm : ∀ w, (method 200 78 (.agg #[.pointer (some a)]) "packthread/msg.check").run Try.prog w = .ok (100, .agg #[.pointer (some a)]) w := fun w => by kernel_rfl
    simp only [ptV]
    go_enter Try.func54, Try.ntmps54
    go_upto_region 1 with fail
    go_region_held3 (fun w' => w'.cell? ⟨Q, 0, none⟩ = some (.int .i64 want)) (first | (with_reducible exact m0) | (with_reducible exact b0) | go_keep) (first
      | (go_at_call 100; (refine (HCK.out w.drew (Below.refl _ _).drew).mono ?_); rintro e w5 ⟨rfl, hb5⟩; have HB5 := Lib.hid hb5; have m0 := (hb5.cell (p := ⟨Q, 0, none⟩) hql).trans b0; clear hb5))
    all_goals
      go_wp2
      go_ret
      exact ⟨rfl, (Below.refl _ _).drew.trans HB5.out⟩
  · have hm : ∀ w, (method 200 81 (.agg #[.pointer (some a)]) "packthread/msg.check").run Try.prog w = .ok (106, .agg #[.pointer (some a)]) w := fun w => by kernel_rfl
    simp only [ptV]
    go_enter Try.func54, Try.ntmps54
    go_upto_region 1 with fail
    go_region_held3 (fun w' => w'.cell? ⟨Q, 0, none⟩ = some (.int .i64 want)) (first | (with_reducible exact m0) | (with_reducible exact b0) | go_keep) (first
      | (go_at_call 106; (refine (HCK.out w.drew (Below.refl _ _).drew).mono ?_); rintro e w5 ⟨rfl, hb5⟩; have HB5 := Lib.hid hb5; have m0 := (hb5.cell (p := ⟨Q, 0, none⟩) hql).trans b0; clear hb5))
    all_goals
      go_wp2
      go_ret
      exact ⟨rfl, (Below.refl _ _).drew.trans HB5.out⟩
/-- parts, with what there is against each -/
def CkL (w : World) (qs : List (Pt × Int)) : Prop := ∀ q ∈ qs, CkAt w q.2 q.1
theorem CkL.below {w w' : World} {qs : List (Pt × Int)} (h : CkL w qs) (hb : Below w.heap.size w w') : CkL w' qs := fun q hq => (h q hq).below hb
def anyQ (want : Int) (qs : List (Pt × Int)) : Bool := qs.any fun q => q.2 == want
theorem odd_index (A : Option Addr) (n c : Nat) (qs : List (Pt × Int)) (Q : Nat) (want : Int) (w : World) (ho : Want w Q want) (hb : Ls ptS w A (qs.map Prod.fst)) (hn : qs.length = n) (h47 : n ≤ 1000) (hc : CkL w qs) :
    Calls Try.prog 59 #[.slice A n c, oddF Q] w fun e w' => (∃ i : Int, e = .returned (.int .i64 i) ∧ (anyQ want qs = false ∧ i = -1 ∨ anyQ want qs = true ∧ 0 ≤ i)) ∧ Below w.heap.size w w' := by
  have HB := Lib.hid hb; have HN := Lib.hid hn; have HO := Lib.hid ho; have HC := Lib.hid hc
  clear hb hn ho hc
  unfold oddF anyQ
  go_enter Try.func59, Try.ntmps59
  go_wp2
  go_loopw [8] (fun i wr => ∃ k : Nat, k ≤ n ∧ i = .int .i64 k ∧ (qs.take k).any (fun q => q.2 == want) = false ∧ Below w.heap.size w wr) (fun i _ => n - (intOf i).toNat)
  case atStart => exact ⟨0, Nat.zero_le _, rfl, rfl, Below.refl _ _⟩
  case round =>
    obtain ⟨k, hk, rfl, hy, hb3⟩ := hrel
    have HY := Lib.hid hy
    have HB3 := Lib.hid hb3
    clear hy hb3
    by_cases hlt : k < n
    · obtain ⟨⟨p, e0⟩, hx⟩ : ∃ x, qs[k]? = some x := ⟨_, List.getElem?_eq_getElem (by rw [HN.out]; exact hlt)⟩
      have hx1 : (qs.map Prod.fst)[k]? = some p := by rw [List.getElem?_map, hx]; rfl
      obtain ⟨b, o, rfl, hbs, hcc⟩ := (HB.out.below HB3.out).at k _ hx1
      have hc1 := hcc 0 (ptV p) rfl
      simp only [ptS, Nat.add_zero, Nat.mul_one] at hc1
      have hki : (k : Int) < (n : Int) := by omega
      have ht : Hid ((qs.take (k + 1)).any (fun q => q.2 == want) = (e0 == want)) := Lib.hid (by
        rw [List.take_add_one, hx, List.any_append, HY.out]; simp)
      have HCK := Lib.hid ((HC.out _ (List.mem_of_getElem? hx)).below HB3.out)
      have HOr := Lib.hid (HO.out.below HB3.out)
      obtain ⟨pv, hpv⟩ : ∃ pv, pv = ptV p := ⟨_, rfl⟩
      clear hcc hx hx1
      rcases hok : (e0 == want) with _ | _
      · have HOK := Lib.hid hok
        have HCALL := Lib.hid (odd_clos p e0 want Q wr HCK.out HOr.out false hok)
        rw [← hpv] at HCALL hc1
        clear hok hpv
        go_wp2_with (go_at_call 54; refine HCALL.out.mono ?_; rintro e w' ⟨rfl, hb4⟩; have HB4 := Lib.hid hb4; clear hb4)
        exact ⟨⟨k + 1, by omega, by go_num, by rw [ht.out]; exact HOK.out, bthen HB3.out HB4.out⟩, by simp [intOf]; omega⟩
      · have HOK := Lib.hid hok
        have HCALL := Lib.hid (odd_clos p e0 want Q wr HCK.out HOr.out true hok)
        rw [← hpv] at HCALL hc1
        clear hok hpv
        go_wp2_with (go_at_call 54; refine HCALL.out.mono ?_; rintro e w' ⟨rfl, hb4⟩; have HB4 := Lib.hid hb4; clear hb4)
        go_ret
        refine ⟨⟨k, rfl, .inr ⟨?_, by omega⟩⟩, bthen HB3.out HB4.out⟩
        rw [← List.take_append_drop (k + 1) qs, List.any_append, ht.out, HOK.out]; rfl
    · have hall : qs.any (fun q => q.2 == want) = false := by rw [← HY.out, List.take_of_length_le (by rw [HN.out]; omega)]
      have HA := Lib.hid hall
      clear hall
      go_wp2
      go_ret
      exact ⟨⟨-1, rfl, .inl ⟨HA.out, rfl⟩⟩, HB3.out⟩
theorem odd_contains (A : Option Addr) (n c : Nat) (qs : List (Pt × Int)) (Q : Nat) (want : Int) (w : World) (ho : Want w Q want) (hb : Ls ptS w A (qs.map Prod.fst)) (hn : qs.length = n) (h47 : n ≤ 1000) (hc : CkL w qs) (v : Bool) (hv : v = anyQ want qs) :
    Calls Try.prog 55 #[.slice A n c, oddF Q] w fun e w' => e = .returned (.bool v) ∧ Below w.heap.size w w' := by
  have HIX := Lib.hid (odd_index A n c qs Q want w ho hb hn h47 hc)
  have HV := Lib.hid hv
  clear hb hn ho hv hc
  unfold oddF at HIX ⊢
  go_enter Try.func55, Try.ntmps55
  go_wp2_with (go_at_call 59; refine HIX.out.mono ?_; rintro e w1 ⟨⟨i, rfl, hi⟩, hb1⟩; have HI := Lib.hid hi; have HB1 := Lib.hid hb1; clear hi hb1)
  go_ret
  refine ⟨?_, HB1.out⟩
  rw [HV.out]
  rcases HI.out with ⟨h1, rfl⟩ | ⟨h1, h2⟩
  · simp [h1]
  · simp [h1]; omega
/-- what is named first goes ahead -/
def chkT (es : List Int) : Int := if es.any (· == 2) then 2 else if es.any (· == 1) then 1 else 0
theorem anyQ_map (want : Int) (qs : List (Pt × Int)) : anyQ want qs = (qs.map Prod.snd).any (· == want) := by unfold anyQ; rw [List.any_map]; rfl
set_option maxHeartbeats 4000000 in
theorem check_parts (A : Option Addr) (n c : Nat) (qs : List (Pt × Int)) (w : World) (hb : Ls ptS w A (qs.map Prod.fst)) (hn : qs.length = n) (h47 : n ≤ 1000) (hc : CkL w qs) :
    Calls Try.prog 46 #[.slice A n c] w fun e w' => e = .returned (.int .i64 (chkT (qs.map Prod.snd))) ∧ Below w.heap.size w w' := by
  have HB := Lib.hid hb; have HN := Lib.hid hn; have HC := Lib.hid hc
  clear hb hn hc
  obtain ⟨v2, hv2⟩ : ∃ v, v = anyQ 2 qs := ⟨_, rfl⟩
  obtain ⟨v1, hv1⟩ : ∃ v, v = anyQ 1 qs := ⟨_, rfl⟩
  have HR : Hid (chkT (qs.map Prod.snd) = if v2 then 2 else if v1 then 1 else 0) := Lib.hid (by unfold chkT; rw [hv1, hv2, anyQ_map, anyQ_map])
  have HV1 := Lib.hid hv1
  have HV2 := Lib.hid hv2
  rw [HR.out]
  clear hv1 hv2
  obtain ⟨w1, hw1⟩ : ∃ w1, w1 = w.alloc (.cells #[.int .i64 2, .int .i64 1] 25) := ⟨_, rfl⟩
  have HB1 : Hid (Below w.heap.size w w1) := Lib.hid (by rw [hw1]; exact ba1 _ _)
  have HX : Hid (Bx 25 w1 w.heap.size #[.int .i64 2, .int .i64 1]) := Lib.hid (by rw [hw1]; exact bx_new _ _ _)
  obtain ⟨K, hK⟩ : ∃ K, K = w.heap.size := ⟨_, rfl⟩
  rw [← hK] at HX
  go_enter Try.func46, Try.ntmps46
  go_wp2_with fail
  rw [← hw1, ← hK]
  clear hw1 hK
  go_loopw [8] (fun iv wr => ∃ k : Nat, iv = .int .i64 (k : Int) ∧ Hid (k = 0 ∨ (k = 1 ∧ v2 = false) ∨ (k = 2 ∧ v2 = false ∧ v1 = false)) ∧ Below w1.heap.size w1 wr) (fun iv _ => 2 - (intOf iv).toNat)
  case atStart => exact ⟨0, rfl, Lib.hid (.inl rfl), Below.refl _ _⟩
  case round =>
    obtain ⟨k, rfl, hcase, hbw⟩ := hrel
    have HBR := Lib.hid hbw
    have HBW : Hid (Below w.heap.size w wr) := Lib.hid (bthen HB1.out hbw)
    have hx := HX.out.below hbw
    have x0 := hx.cell 0 (.int .i64 2) rfl
    have x1 := hx.cell 1 (.int .i64 1) rfl
    have xl := hx.lt
    clear hbw hx
    rcases hcase.out with rfl | ⟨rfl, h2⟩ | ⟨rfl, h2, h1⟩
    · rcases v2 with _ | _
      · clear hcase
        have HW : Hid (Want (wr.alloc (.cells #[.int .i64 2] 25)) wr.heap.size 2) := Lib.hid ⟨(bx_new wr 25 #[.int .i64 2]).lt, (bx_new wr 25 #[.int .i64 2]).cell 0 _ rfl⟩
        have HPB : Hid (Below w.heap.size w (wr.alloc (.cells #[.int .i64 2] 25))) := Lib.hid (bthen HBW.out (ba1 _ _))
        have HCALL := Lib.hid (odd_contains A n c qs wr.heap.size 2 _ HW.out (HB.out.below HPB.out) HN.out h47 (HC.out.below HPB.out) false HV2.out)
        unfold oddF at HCALL
        go_wp2_with (go_at_call 55; refine HCALL.out.mono ?_; rintro e w3 ⟨rfl, hb3⟩; have HB3 := Lib.hid hb3; have hw3 := (HW.out.below hb3).2; have hl3 := (HW.out.below hb3).1; clear hb3)
        exact ⟨⟨1, rfl, Lib.hid (by simp), bthen HBR.out (bthen (ba1 _ _) HB3.out)⟩, by simp [intOf]⟩
      · clear hcase
        have HW : Hid (Want (wr.alloc (.cells #[.int .i64 2] 25)) wr.heap.size 2) := Lib.hid ⟨(bx_new wr 25 #[.int .i64 2]).lt, (bx_new wr 25 #[.int .i64 2]).cell 0 _ rfl⟩
        have HPB : Hid (Below w.heap.size w (wr.alloc (.cells #[.int .i64 2] 25))) := Lib.hid (bthen HBW.out (ba1 _ _))
        have HCALL := Lib.hid (odd_contains A n c qs wr.heap.size 2 _ HW.out (HB.out.below HPB.out) HN.out h47 (HC.out.below HPB.out) true HV2.out)
        unfold oddF at HCALL
        go_wp2_with (go_at_call 55; refine HCALL.out.mono ?_; rintro e w3 ⟨rfl, hb3⟩; have HB3 := Lib.hid hb3; have hw3 := (HW.out.below hb3).2; have hl3 := (HW.out.below hb3).1; clear hb3)
        go_ret
        exact ⟨rfl, bthen HPB.out HB3.out⟩
    · subst h2
      rcases v1 with _ | _
      · clear hcase
        have HW : Hid (Want (wr.alloc (.cells #[.int .i64 1] 25)) wr.heap.size 1) := Lib.hid ⟨(bx_new wr 25 #[.int .i64 1]).lt, (bx_new wr 25 #[.int .i64 1]).cell 0 _ rfl⟩
        have HPB : Hid (Below w.heap.size w (wr.alloc (.cells #[.int .i64 1] 25))) := Lib.hid (bthen HBW.out (ba1 _ _))
        have HCALL := Lib.hid (odd_contains A n c qs wr.heap.size 1 _ HW.out (HB.out.below HPB.out) HN.out h47 (HC.out.below HPB.out) false HV1.out)
        unfold oddF at HCALL
        go_wp2_with (go_at_call 55; refine HCALL.out.mono ?_; rintro e w3 ⟨rfl, hb3⟩; have HB3 := Lib.hid hb3; have hw3 := (HW.out.below hb3).2; have hl3 := (HW.out.below hb3).1; clear hb3)
        exact ⟨⟨2, rfl, Lib.hid (by simp), bthen HBR.out (bthen (ba1 _ _) HB3.out)⟩, by simp [intOf]⟩
      · clear hcase
        have HW : Hid (Want (wr.alloc (.cells #[.int .i64 1] 25)) wr.heap.size 1) := Lib.hid ⟨(bx_new wr 25 #[.int .i64 1]).lt, (bx_new wr 25 #[.int .i64 1]).cell 0 _ rfl⟩
        have HPB : Hid (Below w.heap.size w (wr.alloc (.cells #[.int .i64 1] 25))) := Lib.hid (bthen HBW.out (ba1 _ _))
        have HCALL := Lib.hid (odd_contains A n c qs wr.heap.size 1 _ HW.out (HB.out.below HPB.out) HN.out h47 (HC.out.below HPB.out) true HV1.out)
        unfold oddF at HCALL
        go_wp2_with (go_at_call 55; refine HCALL.out.mono ?_; rintro e w3 ⟨rfl, hb3⟩; have HB3 := Lib.hid hb3; have hw3 := (HW.out.below hb3).2; have hl3 := (HW.out.below hb3).1; clear hb3)
        go_ret
        exact ⟨rfl, bthen HPB.out HB3.out⟩
    · subst h2; subst h1
      clear hcase
      go_wp2_with fail
      go_ret
      exact ⟨rfl, HBW.out⟩

end Go.Proofs.Ytelfnlocgknpjaa
