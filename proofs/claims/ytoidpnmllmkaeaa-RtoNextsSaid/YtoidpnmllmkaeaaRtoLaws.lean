/-
  The walks of RtoMays, RtoFirsts, RtoNexts, RtoBacks.
-/
import Derived.Test.YtoidpnmllmkaeaaRto4
import Derived.Deep.RegionHeld3
import Derived.Laws.NewBlocks
namespace Go.Proofs.Ytoidpnmllmkaeaa
open Go.RowKit
set_option linter.unusedVariables false
set_option linter.unusedSimpArgs false

set_option maxHeartbeats 4000000 in
theorem walkRtoMays (s v t b : Int) (w : World) :
    Calls Try.prog 3 #[.agg #[.int .i64 s, .int .i64 v, .int .i64 t, .int .i64 b]] w fun e w' => e = .returned (.bool true) ∧ Below w.heap.size w w' := by
  by_cases hm : Tm s v t b
  · have HM := Lib.hid hm
    have HX := Lib.hid (box4_new w s v t b)
    clear hm
    go_enter Try.func3, Try.ntmps3
    go_wp2_with fail
    go_region_held3 (fun w' => w'.cell? ⟨w.heap.size, 0, none⟩ = some (.int .i64 s) ∧ w'.cell? ⟨w.heap.size, 1, none⟩ = some (.int .i64 v) ∧ w'.cell? ⟨w.heap.size, 2, none⟩ = some (.int .i64 t) ∧ w'.cell? ⟨w.heap.size, 3, none⟩ = some (.int .i64 b)) (first | go_keep | exact ⟨c0, c1, c2, c3⟩ | exact ⟨d0, d1, d2, d3⟩) (first
      | (go_at_call 11; (refine (may_ok s v t b _ HM.out).mono ?_); rintro e w1 ⟨rfl, hb1⟩; have HX1 : Hid (Box4 w1 w.heap.size s v t b) := Lib.hid ((hb1.block w.heap.size (by simp)).trans HX.out); obtain ⟨lc, c0, c1, c2, c3, -⟩ := (HX1.out).cells; have HB1 : Hid (Below w.heap.size w w1) := Lib.hid (bthen (by first | exact ba1 _ _ | exact (ba1 _ _).drew | exact below_drewN (ba1 _ _) _) hb1); clear hb1)
      | (go_at_call 12; (refine (refMay_ok s v t b _ HM.out).mono ?_); rintro e w2 ⟨rfl, hb2⟩; have HX2 : Hid (Box4 w2 w.heap.size s v t b) := Lib.hid ((hb2.block w.heap.size (by simpa using lc)).trans HX1.out); obtain ⟨ld, d0, d1, d2, d3, -⟩ := (HX2.out).cells; have HB2 : Hid (Below w.heap.size w w2) := Lib.hid (bthen (by first | exact HB1.out | exact HB1.out.drew | exact below_drewN HB1.out _) hb2); clear hb2))
    go_wp2
    go_ret
    exact ⟨rfl, HB2.out⟩
  · have HM := Lib.hid hm
    have HX := Lib.hid (box4_new w s v t b)
    clear hm
    go_enter Try.func3, Try.ntmps3
    go_wp2_with fail
    go_region_held3 (fun w' => w'.cell? ⟨w.heap.size, 0, none⟩ = some (.int .i64 s) ∧ w'.cell? ⟨w.heap.size, 1, none⟩ = some (.int .i64 v) ∧ w'.cell? ⟨w.heap.size, 2, none⟩ = some (.int .i64 t) ∧ w'.cell? ⟨w.heap.size, 3, none⟩ = some (.int .i64 b)) (first | go_keep | exact ⟨c0, c1, c2, c3⟩ | exact ⟨d0, d1, d2, d3⟩) (first
      | (go_at_call 11; (refine (may_no s v t b _ HM.out).mono ?_); rintro e w1 ⟨rfl, hb1⟩; have HX1 : Hid (Box4 w1 w.heap.size s v t b) := Lib.hid ((hb1.block w.heap.size (by simp)).trans HX.out); obtain ⟨lc, c0, c1, c2, c3, -⟩ := (HX1.out).cells; have HB1 : Hid (Below w.heap.size w w1) := Lib.hid (bthen (by first | exact ba1 _ _ | exact (ba1 _ _).drew | exact below_drewN (ba1 _ _) _) hb1); clear hb1)
      | (go_at_call 12; (refine (refMay_no s v t b _ HM.out).mono ?_); rintro e w2 ⟨rfl, hb2⟩; have HX2 : Hid (Box4 w2 w.heap.size s v t b) := Lib.hid ((hb2.block w.heap.size (by simpa using lc)).trans HX1.out); obtain ⟨ld, d0, d1, d2, d3, -⟩ := (HX2.out).cells; have HB2 : Hid (Below w.heap.size w w2) := Lib.hid (bthen (by first | exact HB1.out | exact HB1.out.drew | exact below_drewN HB1.out _) hb2); clear hb2))
    go_wp2
    go_ret
    exact ⟨rfl, HB2.out⟩

set_option maxHeartbeats 4000000 in
theorem walkRtoFirsts (x : Int) (w : World) :
    Calls Try.prog 4 #[.int .i64 x] w fun e w' => e = .returned (.bool true) ∧ Below w.heap.size w w' := by
  by_cases hx : 0 ≤ x ∧ x ≤ 1048576
  · obtain ⟨t, ht⟩ : ∃ t, t = waitOf (8 * x) (2 * x) := ⟨_, rfl⟩
    have HX := Lib.hid hx; have HT := Lib.hid ht
    obtain ⟨hx0, hx1⟩ := hx
    clear ht
    go_enter Try.func4, Try.ntmps4
    go_wp2_with (first
      | (go_at_call 13; (refine (first_ok x t _ HX.out.1 HX.out.2 HT.out).mono ?_); rintro e w1 ⟨rfl, hb1⟩; have HB1 : Hid (Below w.heap.size w w1) := Lib.hid (hb1); clear hb1)
      | (go_at_call 14; (refine (refFirst_ok x t _ HX.out.1 HX.out.2 HT.out).mono ?_); rintro e w2 ⟨rfl, hb2⟩; have HB2 : Hid (Below w.heap.size w w2) := Lib.hid (bthen (HB1.out.alloc HB1.out.size _) hb2); have HY2 : Hid (Box4 w2 w1.heap.size (8 * x) (2 * x) t 0) := Lib.hid ((box4_new w1 (8 * x) (2 * x) t 0).below hb2); obtain ⟨ld, d0, d1, d2, d3, -⟩ := (HY2.out).cells; clear hb2))
    all_goals go_ret
    all_goals exact ⟨rfl, HB2.out.alloc HB2.out.size _⟩
  · have HX := Lib.hid hx
    clear hx
    go_enter Try.func4, Try.ntmps4
    go_wp2_with (first
      | (go_at_call 13; (refine (first_no x _ HX.out).mono ?_); rintro e w1 ⟨rfl, hb1⟩; have HB1 : Hid (Below w.heap.size w w1) := Lib.hid (hb1); clear hb1)
      | (go_at_call 14; (refine (refFirst_no x _ HX.out).mono ?_); rintro e w2 ⟨rfl, hb2⟩; have HB2 : Hid (Below w.heap.size w w2) := Lib.hid (bthen (HB1.out.alloc HB1.out.size _) hb2); have HY2 : Hid (Box4 w2 w1.heap.size 0 0 0 0) := Lib.hid ((box4_new w1 0 0 0 0).below hb2); obtain ⟨ld, d0, d1, d2, d3, -⟩ := (HY2.out).cells; clear hb2))
    all_goals go_ret
    all_goals exact ⟨rfl, HB2.out.alloc HB2.out.size _⟩

set_option maxHeartbeats 4000000 in
theorem walkRtoNexts (s v t b x : Int) (w : World) :
    Calls Try.prog 5 #[.agg #[.int .i64 s, .int .i64 v, .int .i64 t, .int .i64 b], .int .i64 x] w fun e w' => e = .returned (.bool true) ∧ Below w.heap.size w w' := by
  by_cases hm : Tm s v t b
  · have HM := Lib.hid hm
    clear hm
    by_cases hx : 0 ≤ x ∧ x ≤ 1048576
    · obtain ⟨S, hS⟩ : ∃ S, S = srtt' s x := ⟨_, rfl⟩
      obtain ⟨V, hV⟩ : ∃ V, V = var' s v x := ⟨_, rfl⟩
      obtain ⟨T, hT⟩ : ∃ T, T = wait' s v x := ⟨_, rfl⟩
      have HX := Lib.hid hx; have HS := Lib.hid hS; have HV := Lib.hid hV; have HT := Lib.hid hT
      clear hx hS hV hT
      go_enter Try.func5, Try.ntmps5
      go_wp2_with (first
        | (go_at_call 15; (refine (next_ok s v t b x S V T _ HM.out HX.out HS.out HV.out HT.out).mono ?_); rintro e w1 ⟨rfl, hb1⟩; have HB1 : Hid (Below w.heap.size w w1) := Lib.hid (bthen (ba1 _ _) hb1); have HX1 : Hid (Box4 w1 w.heap.size s v t b) := Lib.hid ((box4_new w s v t b).below hb1); obtain ⟨lc, c0, c1, c2, c3, -⟩ := (HX1.out).cells; clear hb1)
        | (go_at_call 16; (refine (refNext_ok s v t b x S V T _ HM.out HX.out HS.out HV.out HT.out).mono ?_); rintro e w2 ⟨rfl, hb2⟩; have HB2 : Hid (Below w.heap.size w w2) := Lib.hid (bthen (HB1.out.alloc HB1.out.size _) hb2); have HY2 : Hid (Box4 w2 w1.heap.size S V T 0) := Lib.hid ((box4_new w1 S V T 0).below hb2); obtain ⟨ld, d0, d1, d2, d3, -⟩ := (HY2.out).cells; clear hb2))
      all_goals go_ret
      all_goals exact ⟨rfl, HB2.out.alloc HB2.out.size _⟩
    · have HX := Lib.hid hx
      clear hx
      go_enter Try.func5, Try.ntmps5
      go_wp2_with (first
        | (go_at_call 15; (refine (next_range s v t b x _ HM.out HX.out).mono ?_); rintro e w1 ⟨rfl, hb1⟩; have HB1 : Hid (Below w.heap.size w w1) := Lib.hid (bthen (ba1 _ _) hb1); have HX1 : Hid (Box4 w1 w.heap.size s v t b) := Lib.hid ((box4_new w s v t b).below hb1); obtain ⟨lc, c0, c1, c2, c3, -⟩ := (HX1.out).cells; clear hb1)
        | (go_at_call 16; (refine (refNext_range s v t b x _ HM.out HX.out).mono ?_); rintro e w2 ⟨rfl, hb2⟩; have HB2 : Hid (Below w.heap.size w w2) := Lib.hid (bthen (HB1.out.alloc HB1.out.size _) hb2); have HY2 : Hid (Box4 w2 w1.heap.size 0 0 0 0) := Lib.hid ((box4_new w1 0 0 0 0).below hb2); obtain ⟨ld, d0, d1, d2, d3, -⟩ := (HY2.out).cells; clear hb2))
      all_goals go_ret
      all_goals exact ⟨rfl, HB2.out.alloc HB2.out.size _⟩
  · have HM := Lib.hid hm
    clear hm
    go_enter Try.func5, Try.ntmps5
    go_wp2_with (first
      | (go_at_call 15; (refine (next_form s v t b x _ HM.out).mono ?_); rintro e w1 ⟨rfl, hb1⟩; have HB1 : Hid (Below w.heap.size w w1) := Lib.hid (bthen (ba1 _ _) hb1); have HX1 : Hid (Box4 w1 w.heap.size s v t b) := Lib.hid ((box4_new w s v t b).below hb1); obtain ⟨lc, c0, c1, c2, c3, -⟩ := (HX1.out).cells; clear hb1)
      | (go_at_call 16; (refine (refNext_form s v t b x _ HM.out).mono ?_); rintro e w2 ⟨rfl, hb2⟩; have HB2 : Hid (Below w.heap.size w w2) := Lib.hid (bthen (HB1.out.alloc HB1.out.size _) hb2); have HY2 : Hid (Box4 w2 w1.heap.size 0 0 0 0) := Lib.hid ((box4_new w1 0 0 0 0).below hb2); obtain ⟨ld, d0, d1, d2, d3, -⟩ := (HY2.out).cells; clear hb2))
    all_goals go_ret
    all_goals exact ⟨rfl, HB2.out.alloc HB2.out.size _⟩

set_option maxHeartbeats 4000000 in
theorem walkRtoBacks (s v t b : Int) (w : World) :
    Calls Try.prog 6 #[.agg #[.int .i64 s, .int .i64 v, .int .i64 t, .int .i64 b]] w fun e w' => e = .returned (.bool true) ∧ Below w.heap.size w w' := by
  by_cases hm : Tm s v t b
  · have hb1 := hm.b1
    have HM := Lib.hid hm
    clear hm
    by_cases hb : b < 12
    · obtain ⟨T, hT⟩ : ∃ T, T = back' t := ⟨_, rfl⟩
      have HK := Lib.hid hb; have HT := Lib.hid hT
      clear hT hb1
      go_enter Try.func6, Try.ntmps6
      go_wp2_with (first
        | (go_at_call 17; (refine (back_ok s v t b T _ HM.out HK.out HT.out).mono ?_); rintro e w1 ⟨rfl, hb1⟩; have HB1 : Hid (Below w.heap.size w w1) := Lib.hid (bthen (ba1 _ _) hb1); have HX1 : Hid (Box4 w1 w.heap.size s v t b) := Lib.hid ((box4_new w s v t b).below hb1); obtain ⟨lc, c0, c1, c2, c3, -⟩ := (HX1.out).cells; clear hb1)
        | (go_at_call 18; (refine (refBack_ok s v t b T _ HM.out HK.out HT.out).mono ?_); rintro e w2 ⟨rfl, hb2⟩; have HB2 : Hid (Below w.heap.size w w2) := Lib.hid (bthen (HB1.out.alloc HB1.out.size _) hb2); have HY2 : Hid (Box4 w2 w1.heap.size s v T (b + 1)) := Lib.hid ((box4_new w1 s v T (b + 1)).below hb2); obtain ⟨ld, d0, d1, d2, d3, -⟩ := (HY2.out).cells; clear hb2))
      all_goals go_ret
      all_goals exact ⟨rfl, HB2.out.alloc HB2.out.size _⟩
    · have HK := Lib.hid hb
      clear hb hb1
      go_enter Try.func6, Try.ntmps6
      go_wp2_with (first
        | (go_at_call 17; (refine (back_full s v t b _ HM.out (by have := HK.out; omega)).mono ?_); rintro e w1 ⟨rfl, hb1⟩; have HB1 : Hid (Below w.heap.size w w1) := Lib.hid (bthen (ba1 _ _) hb1); have HX1 : Hid (Box4 w1 w.heap.size s v t b) := Lib.hid ((box4_new w s v t b).below hb1); obtain ⟨lc, c0, c1, c2, c3, -⟩ := (HX1.out).cells; clear hb1)
        | (go_at_call 18; (refine (refBack_full s v t b _ HM.out (by have := HK.out; omega)).mono ?_); rintro e w2 ⟨rfl, hb2⟩; have HB2 : Hid (Below w.heap.size w w2) := Lib.hid (bthen (HB1.out.alloc HB1.out.size _) hb2); have HY2 : Hid (Box4 w2 w1.heap.size 0 0 0 0) := Lib.hid ((box4_new w1 0 0 0 0).below hb2); obtain ⟨ld, d0, d1, d2, d3, -⟩ := (HY2.out).cells; clear hb2))
      all_goals go_ret
      all_goals exact ⟨rfl, HB2.out.alloc HB2.out.size _⟩
  · have HM := Lib.hid hm
    clear hm
    go_enter Try.func6, Try.ntmps6
    go_wp2_with (first
      | (go_at_call 17; (refine (back_form s v t b _ HM.out).mono ?_); rintro e w1 ⟨rfl, hb1⟩; have HB1 : Hid (Below w.heap.size w w1) := Lib.hid (bthen (ba1 _ _) hb1); have HX1 : Hid (Box4 w1 w.heap.size s v t b) := Lib.hid ((box4_new w s v t b).below hb1); obtain ⟨lc, c0, c1, c2, c3, -⟩ := (HX1.out).cells; clear hb1)
      | (go_at_call 18; (refine (refBack_form s v t b _ HM.out).mono ?_); rintro e w2 ⟨rfl, hb2⟩; have HB2 : Hid (Below w.heap.size w w2) := Lib.hid (bthen (HB1.out.alloc HB1.out.size _) hb2); have HY2 : Hid (Box4 w2 w1.heap.size 0 0 0 0) := Lib.hid ((box4_new w1 0 0 0 0).below hb2); obtain ⟨ld, d0, d1, d2, d3, -⟩ := (HY2.out).cells; clear hb2))
    all_goals go_ret
    all_goals exact ⟨rfl, HB2.out.alloc HB2.out.size _⟩

end Go.Proofs.Ytoidpnmllmkaeaa
