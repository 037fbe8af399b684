/-
  The walk of HoleGrows.
-/
import Derived.Test.YtdfidmdgdajgoaaHeap
namespace Go.Proofs.Ytdfidmdgdajgoaa
open Go.RowKit
set_option linter.unusedVariables false

theorem heap_may (l : List Int) (n : Nat) : mayB (heapOf l n).1 (heapOf l n).2 = true := by
  have go : ∀ (rs : List Rg) (s : Int × List Rg), (∀ r ∈ rs, 0 ≤ r.1 ∧ r.1 ≤ r.2 ∧ r.2 ≤ 1048576) → mayB s.1 s.2 = true → mayB (rs.foldl heapStep s).1 (rs.foldl heapStep s).2 = true := by
    intro rs
    induction rs with
    | nil => intro s _ h; exact h
    | cons r t ih =>
      intro s hr h
      rw [List.foldl_cons]
      refine ih _ (fun x hx => hr x (List.mem_cons_of_mem _ hx)) ?_
      unfold heapStep
      split
      · rename_i h16
        exact add_may h (hr r (List.mem_cons_self ..)) h16
      · exact h
  have bd : ∀ (l : List Int), ∀ r ∈ pairsOf l, 0 ≤ r.1 ∧ r.1 ≤ r.2 ∧ r.2 ≤ 1048576 := by
    intro l
    induction l using pairsOf.induct with
    | case1 a b t ih =>
      intro r hr
      rw [pairsOf] at hr
      rcases List.mem_cons.1 hr with rfl | hr
      · exact rgOf_bd a b
      · exact ih r hr
    | case2 l h =>
      intro r hr
      rw [pairsOf] at hr
      · cases hr
      · exact h
  exact go _ _ (fun r hr => bd l r (List.mem_of_mem_take hr)) rfl

theorem heap_v (A : Option Addr) (m c n : Nat) (q : Int) (zs : List Int) (d : Int) (o : List Rg) (p : Nat) (w : World) (hs : (d, o) = heapOf zs n) (hp : p = o.length) (hq : q = (n : Int)) (hb : Is w A zs) (hn : zs.length = m) (hm : m ≤ 17592186043904) (h24 : n ≤ 24) :
    Calls Try.prog 21 #[.slice A m c, .int .i64 q] w fun e w' => ∃ A1 c1, e = .returned (.tuple #[.int .i64 d, .slice A1 p c1, .bool true]) ∧ OwnR w' w.heap.size A1 p c1 o ∧ Below w.heap.size w w' := by
  subst hq; subst hp
  refine (heap_any A m c n zs w hb hn hm h24).mono ?_
  rw [← hs]
  exact fun e w' h => h

theorem came_bool (p : Prop) : ∃ r : Bool, Hid (IsIt r p) := by
  by_cases h : p
  · exact ⟨true, Lib.hid (by simp [IsIt, h])⟩
  · exact ⟨false, Lib.hid (by simp [IsIt, h])⟩

set_option maxHeartbeats 1000000 in
theorem walkHoleGrows (A : Option Addr) (m c : Nat) (zs : List Int) (a b pl : Int) (w : World) (hb : Is w A zs) (hn : zs.length = m) (hc : m ≤ c) (hr : c ≤ 17592186043904)
    (ha0 : -9223372036854775808 ≤ a) (ha1 : a ≤ 9223372036854775807) (hb0 : -9223372036854775808 ≤ b) (hb1 : b ≤ 9223372036854775807) (hp0 : -9223372036854775808 ≤ pl) (hp1 : pl ≤ 9223372036854775807) :
    Calls Try.prog 8 #[.slice A m c, .int .i64 a, .int .i64 b, .int .i64 pl] w fun e w' => e = .returned (.bool true) ∧ Below w.heap.size w w' := by
  have hmay := heap_may zs 20
  obtain ⟨⟨d, o⟩, hs⟩ : ∃ s, s = heapOf zs 20 := ⟨_, rfl⟩
  rw [← hs] at hmay
  simp only at hmay
  obtain ⟨r1, hr1⟩ : ∃ r, r = a % 170 := ⟨_, rfl⟩
  obtain ⟨r2, hr2⟩ : ∃ r, r = a % 170 + b % 30 := ⟨_, rfl⟩
  have hr0 : 0 ≤ r1 ∧ r1 ≤ r2 ∧ r2 ≤ 1048576 := by omega
  obtain ⟨x, hx⟩ : ∃ x, x = pl % 220 := ⟨_, rfl⟩
  obtain ⟨D, hD⟩ : ∃ D, D = addD d o (r1, r2) := ⟨_, rfl⟩
  obtain ⟨L, hL⟩ : ∃ L, L = addL d o (r1, r2) := ⟨_, rfl⟩
  obtain ⟨N, hN⟩ : ∃ N, N = L.length := ⟨_, rfl⟩
  obtain ⟨p, hp⟩ : ∃ p, p = o.length := ⟨_, rfl⟩
  have hlen := addL_len d o (r1, r2)
  rw [← hL, ← hN, ← hp] at hlen
  obtain ⟨g0, g1, g2, g3⟩ := mayB_to hmay
  obtain ⟨k0, k1, k2, k3⟩ := add_good d o (r1, r2) g0 g1 g3 hr0.1 hr0.2.1 hr0.2.2
  rw [← hD] at k0 k1 k2 k3
  rw [← hL] at k2 k3
  rw [← hp] at g2
  obtain ⟨q, Q⟩ := came_bool (Came d o x)
  obtain ⟨s, S⟩ := came_bool (Came D L x)
  have hsq : Hid ((s = true) ↔ (q = true ∨ (r1 ≤ x ∧ x < r2))) := Lib.hid (by have a := S.out; have b := Q.out; unfold IsIt at a b; rw [a, b]; exact k3 x)
  have hmay2 : N ≤ 16 → mayB D L = true := fun h => mayB_of ⟨by omega, k1, by omega, k2⟩
  have HB := Lib.hid hb; have HN := Lib.hid hn; have HM := Lib.hid hmay; have HS := Lib.hid hs
  have HR1 := Lib.hid hr1; have HR2 := Lib.hid hr2; have HR0 := Lib.hid hr0; have HX := Lib.hid hx
  have HD := Lib.hid hD; have HL := Lib.hid hL; have HNN := Lib.hid hN.symm; have HP := Lib.hid hp; have HM2 := Lib.hid hmay2
  clear hb hn hmay hs hr1 hr2 hr0 hx hD hL hN hp k2 k3 g3 hmay2
  have arm1 : True := trivial
  by_cases h16 : N ≤ 16
  · have HM3 := Lib.hid (HM2.out h16)
    have hge : d ≤ D := k0
    have three : (q = false ∧ s = true ∧ r1 ≤ x ∧ x < r2) ∨ (q = false ∧ s = false ∧ ¬ (r1 ≤ x ∧ x < r2)) ∨ (q = true ∧ s = true) := by
      rcases q with _ | _
      · by_cases hin : r1 ≤ x ∧ x < r2
        · exact .inl ⟨rfl, hsq.out.2 (.inr hin), hin.1, hin.2⟩
        · refine .inr (.inl ⟨rfl, ?_, hin⟩)
          rw [← Bool.not_eq_true, hsq.out]
          rintro (h | h)
          · cases h
          · exact hin h
      · exact .inr (.inr ⟨rfl, hsq.out.2 (.inl rfl)⟩)
    rcases three with ⟨rfl, rfl, i1, i2⟩ | ⟨rfl, rfl, hin⟩ | ⟨rfl, rfl⟩
    · go_enter Try.func8, Try.ntmps8
      go_wp2_with (first
      | (go_at_call 21; refine (heap_v A m c 20 _ zs d o p _ HS.out HP.out rfl HB.out HN.out (by omega) (by omega)).mono ?_; rintro e w1 ⟨A1, c1, rfl, ho1, hbw1⟩; have O1 := Lib.hid ho1; clear ho1)
      | (go_at_call 23; refine (rangeOf_any a b r1 r2 _ HR1 HR2 ha0 ha1 hb0 hb1).mono ?_; rintro e w2 ⟨rfl, hbw2⟩; have O2 := Lib.hid ((O1.out.below hbw2).below (ba1 w2 (.cells #[.int .i64 r1, .int .i64 r2] 25))); have T2 := Lib.hid (two_new w2 25 (r1, r2)))
      | (go_at_call 13; refine (add_fit d A1 p c1 o r1 r2 _ O2.out.rs HP.out.symm HM.out HR0.out D N L HD.out HL.out HNN.out h16).mono ?_; rintro e w3 ⟨A3, c3, rfl, ho3, hbw3⟩; have O3 := Lib.hid ho3; clear ho3)
      | (go_at_call 20; refine (picked_v pl 220 x _ HX hp0 hp1 (by omega) (by omega)).mono ?_; rintro e w' ⟨rfl, rfl⟩)
      | (go_at_call 11; refine (may_any D A3 N c3 L _ O3.out.rs O3.out.1 (by omega)).mono ?_; rw [HM3.out]; rintro e w4 ⟨rfl, hbw4⟩; have hT := (T2.out.below hbw3).below hbw4; have hc0 := hT.c0; have hc1 := hT.c1; have hl := hT.lt; simp only at hc0 hc1; clear hT)
      | (go_at_call 24; (with_reducible refine (has_any D A3 N c3 L x _ _ S (O3.out.rs.below hbw4) HNN.out h16).mono ?_); rintro e w' ⟨rfl, rfl⟩)
      | (go_at_call 24; (with_reducible refine (has_any d A1 p c1 o x _ _ Q (((O2.out.below hbw3).below hbw4).rs) HP.out.symm g2).mono ?_); rintro e w' ⟨rfl, rfl⟩))
      go_ret
      exact ⟨rfl, bthen (bthen (bthen (bthen hbw1 hbw2) (ba1 _ _)) hbw3) hbw4⟩
    · by_cases i1 : r1 ≤ x
      · have i2 : r2 ≤ x := by omega
        go_enter Try.func8, Try.ntmps8
        go_wp2_with (first
      | (go_at_call 21; refine (heap_v A m c 20 _ zs d o p _ HS.out HP.out rfl HB.out HN.out (by omega) (by omega)).mono ?_; rintro e w1 ⟨A1, c1, rfl, ho1, hbw1⟩; have O1 := Lib.hid ho1; clear ho1)
      | (go_at_call 23; refine (rangeOf_any a b r1 r2 _ HR1 HR2 ha0 ha1 hb0 hb1).mono ?_; rintro e w2 ⟨rfl, hbw2⟩; have O2 := Lib.hid ((O1.out.below hbw2).below (ba1 w2 (.cells #[.int .i64 r1, .int .i64 r2] 25))); have T2 := Lib.hid (two_new w2 25 (r1, r2)))
      | (go_at_call 13; refine (add_fit d A1 p c1 o r1 r2 _ O2.out.rs HP.out.symm HM.out HR0.out D N L HD.out HL.out HNN.out h16).mono ?_; rintro e w3 ⟨A3, c3, rfl, ho3, hbw3⟩; have O3 := Lib.hid ho3; clear ho3)
      | (go_at_call 20; refine (picked_v pl 220 x _ HX hp0 hp1 (by omega) (by omega)).mono ?_; rintro e w' ⟨rfl, rfl⟩)
      | (go_at_call 11; refine (may_any D A3 N c3 L _ O3.out.rs O3.out.1 (by omega)).mono ?_; rw [HM3.out]; rintro e w4 ⟨rfl, hbw4⟩; have hT := (T2.out.below hbw3).below hbw4; have hc0 := hT.c0; have hc1 := hT.c1; have hl := hT.lt; simp only at hc0 hc1; clear hT)
      | (go_at_call 24; (with_reducible refine (has_any D A3 N c3 L x _ _ S (O3.out.rs.below hbw4) HNN.out h16).mono ?_); rintro e w' ⟨rfl, rfl⟩)
      | (go_at_call 24; (with_reducible refine (has_any d A1 p c1 o x _ _ Q (((O2.out.below hbw3).below hbw4).rs) HP.out.symm g2).mono ?_); rintro e w' ⟨rfl, rfl⟩))
        go_ret
        exact ⟨by simp; try omega, bthen (bthen (bthen (bthen hbw1 hbw2) (ba1 _ _)) hbw3) hbw4⟩
      · go_enter Try.func8, Try.ntmps8
        go_wp2_with (first
      | (go_at_call 21; refine (heap_v A m c 20 _ zs d o p _ HS.out HP.out rfl HB.out HN.out (by omega) (by omega)).mono ?_; rintro e w1 ⟨A1, c1, rfl, ho1, hbw1⟩; have O1 := Lib.hid ho1; clear ho1)
      | (go_at_call 23; refine (rangeOf_any a b r1 r2 _ HR1 HR2 ha0 ha1 hb0 hb1).mono ?_; rintro e w2 ⟨rfl, hbw2⟩; have O2 := Lib.hid ((O1.out.below hbw2).below (ba1 w2 (.cells #[.int .i64 r1, .int .i64 r2] 25))); have T2 := Lib.hid (two_new w2 25 (r1, r2)))
      | (go_at_call 13; refine (add_fit d A1 p c1 o r1 r2 _ O2.out.rs HP.out.symm HM.out HR0.out D N L HD.out HL.out HNN.out h16).mono ?_; rintro e w3 ⟨A3, c3, rfl, ho3, hbw3⟩; have O3 := Lib.hid ho3; clear ho3)
      | (go_at_call 20; refine (picked_v pl 220 x _ HX hp0 hp1 (by omega) (by omega)).mono ?_; rintro e w' ⟨rfl, rfl⟩)
      | (go_at_call 11; refine (may_any D A3 N c3 L _ O3.out.rs O3.out.1 (by omega)).mono ?_; rw [HM3.out]; rintro e w4 ⟨rfl, hbw4⟩; have hT := (T2.out.below hbw3).below hbw4; have hc0 := hT.c0; have hc1 := hT.c1; have hl := hT.lt; simp only at hc0 hc1; clear hT)
      | (go_at_call 24; (with_reducible refine (has_any D A3 N c3 L x _ _ S (O3.out.rs.below hbw4) HNN.out h16).mono ?_); rintro e w' ⟨rfl, rfl⟩)
      | (go_at_call 24; (with_reducible refine (has_any d A1 p c1 o x _ _ Q (((O2.out.below hbw3).below hbw4).rs) HP.out.symm g2).mono ?_); rintro e w' ⟨rfl, rfl⟩))
        go_ret
        exact ⟨by simp; try omega, bthen (bthen (bthen (bthen hbw1 hbw2) (ba1 _ _)) hbw3) hbw4⟩
    · go_enter Try.func8, Try.ntmps8
      go_wp2_with (first
      | (go_at_call 21; refine (heap_v A m c 20 _ zs d o p _ HS.out HP.out rfl HB.out HN.out (by omega) (by omega)).mono ?_; rintro e w1 ⟨A1, c1, rfl, ho1, hbw1⟩; have O1 := Lib.hid ho1; clear ho1)
      | (go_at_call 23; refine (rangeOf_any a b r1 r2 _ HR1 HR2 ha0 ha1 hb0 hb1).mono ?_; rintro e w2 ⟨rfl, hbw2⟩; have O2 := Lib.hid ((O1.out.below hbw2).below (ba1 w2 (.cells #[.int .i64 r1, .int .i64 r2] 25))); have T2 := Lib.hid (two_new w2 25 (r1, r2)))
      | (go_at_call 13; refine (add_fit d A1 p c1 o r1 r2 _ O2.out.rs HP.out.symm HM.out HR0.out D N L HD.out HL.out HNN.out h16).mono ?_; rintro e w3 ⟨A3, c3, rfl, ho3, hbw3⟩; have O3 := Lib.hid ho3; clear ho3)
      | (go_at_call 20; refine (picked_v pl 220 x _ HX hp0 hp1 (by omega) (by omega)).mono ?_; rintro e w' ⟨rfl, rfl⟩)
      | (go_at_call 11; refine (may_any D A3 N c3 L _ O3.out.rs O3.out.1 (by omega)).mono ?_; rw [HM3.out]; rintro e w4 ⟨rfl, hbw4⟩; have hT := (T2.out.below hbw3).below hbw4; have hc0 := hT.c0; have hc1 := hT.c1; have hl := hT.lt; simp only at hc0 hc1; clear hT)
      | (go_at_call 24; (with_reducible refine (has_any D A3 N c3 L x _ _ S (O3.out.rs.below hbw4) HNN.out h16).mono ?_); rintro e w' ⟨rfl, rfl⟩)
      | (go_at_call 24; (with_reducible refine (has_any d A1 p c1 o x _ _ Q (((O2.out.below hbw3).below hbw4).rs) HP.out.symm g2).mono ?_); rintro e w' ⟨rfl, rfl⟩))
      go_ret
      exact ⟨rfl, bthen (bthen (bthen (bthen hbw1 hbw2) (ba1 _ _)) hbw3) hbw4⟩
  · have e16 : p = 16 := by omega
    have z16 : ((p : Int) == 16) = true := by rw [beq_iff_eq]; omega
    have HE := Lib.hid e16
    clear e16
    go_enter Try.func8, Try.ntmps8
    go_wp2_with (first
      | (go_at_call 21; refine (heap_v A m c 20 _ zs d o p _ HS.out HP.out rfl HB.out HN.out (by omega) (by omega)).mono ?_; rintro e w1 ⟨A1, c1, rfl, ho1, hbw1⟩; have O1 := Lib.hid ho1; clear ho1)
      | (go_at_call 23; refine (rangeOf_any a b r1 r2 _ HR1 HR2 ha0 ha1 hb0 hb1).mono ?_; rintro e w2 ⟨rfl, hbw2⟩; have O2 := Lib.hid ((O1.out.below hbw2).below (ba1 w2 (.cells #[.int .i64 r1, .int .i64 r2] 25))); have T2 := Lib.hid (two_new w2 25 (r1, r2)))
      | (go_at_call 13; refine (add_full d A1 p c1 o r1 r2 _ O2.out.rs HP.out.symm HM.out HR0.out (by rw [← HL.out, HNN.out]; omega)).mono ?_; rintro e w3 ⟨rfl, hbw3⟩)
      | (go_at_call 20; refine (picked_v pl 220 x _ HX hp0 hp1 (by omega) (by omega)).mono ?_; rintro e w' ⟨rfl, rfl⟩)
      | (go_at_call 11; refine (may_any D A3 N c3 L _ O3.out.rs O3.out.1 (by omega)).mono ?_; rw [HM3.out]; rintro e w4 ⟨rfl, hbw4⟩; have hT := (T2.out.below hbw3).below hbw4; have hc0 := hT.c0; have hc1 := hT.c1; have hl := hT.lt; simp only at hc0 hc1; clear hT)
      | (go_at_call 24; (with_reducible refine (has_any D A3 N c3 L x _ _ S (O3.out.rs.below hbw4) HNN.out h16).mono ?_); rintro e w' ⟨rfl, rfl⟩)
      | (go_at_call 24; (with_reducible refine (has_any d A1 p c1 o x _ _ Q (((O2.out.below hbw3).below hbw4).rs) HP.out.symm g2).mono ?_); rintro e w' ⟨rfl, rfl⟩))
    go_ret
    exact ⟨rfl, bthen (bthen (bthen hbw1 hbw2) (ba1 _ _)) hbw3⟩

end Go.Proofs.Ytdfidmdgdajgoaa
