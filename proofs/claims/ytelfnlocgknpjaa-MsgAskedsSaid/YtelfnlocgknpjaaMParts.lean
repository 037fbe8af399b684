/-
  The parts of a request.
-/
import Derived.Test.YtelfnlocgknpjaaMTakes
import Derived.RegionTactic
namespace Go.Proofs.Ytelfnlocgknpjaa
open Go.RowKit
set_option linter.unusedVariables false
set_option linter.unusedSimpArgs false

def at_ (B o : Nat) : Addr := ⟨B, o, none⟩
/-- what a request of that kind names -/
def namedBy (B : Nat) (kd : Int) : List Pt :=
  if kd = 1 then [.txt (at_ B 2), .num (at_ B 4) 1]
  else if kd = 2 then [.num (at_ B 5) 4]
  else if kd = 3 then [.num (at_ B 5) 4, .num (at_ B 6) 4, .num (at_ B 7) 2]
  else if kd = 4 then [.num (at_ B 5) 4, .num (at_ B 6) 4, .dat (at_ B 8)]
  else if kd = 9 ∨ kd = 10 then [.txt (at_ B 2), .txt (at_ B 3)]
  else [.txt (at_ B 2)]
def partsOf (B : Nat) (kd : Int) : List Pt := [.num (at_ B 0) 1, .num (at_ B 1) 4] ++ namedBy B kd
def RetOf (B : Nat) (kd : Int) (w : World) (e : Ending) (w' : World) : Prop :=
  Below w.heap.size w w' ∧
  if 1 ≤ kd ∧ kd ≤ 10 then ∃ P k d, e = .returned (.slice P k d) ∧ k = (partsOf B kd).length ∧ OwnL ptS 74 w' w.heap.size P k d (partsOf B kd)
  else e = .returned (.slice none 0 0)
set_option maxRecDepth 100000 in
set_option maxHeartbeats 8000000 in
theorem ofReq_any (B : Nat) (kd : Int) (w : World) (hB : B < w.heap.size) (hk : w.cell? ⟨B, 0, none⟩ = some (.int .i64 kd)) :
    Calls Try.prog 29 #[.pointer (some ⟨B, 0, none⟩)] w (RetOf B kd w) := by
  go_enter Try.func29, Try.ntmps29
  go_upto_region 1 with fail
  go_region
  go_upto_region 2 with fail
  obtain ⟨w1, hw1⟩ : ∃ w1, w1 = (w.alloc (.cells #[.iface 68 (.agg #[.pointer (some ⟨B, 0, none⟩), .int .i64 1]), .iface 68 (.agg #[.pointer (some ⟨B, 1, none⟩), .int .i64 4])] 74)).drew := ⟨_, rfl⟩
  obtain ⟨R, hR⟩ : ∃ R, R = w.heap.size := ⟨_, rfl⟩
  have HR := Lib.hid hR
  have HB1 : Hid (Below w.heap.size w w1) := Lib.hid (by rw [hw1]; exact (ba1 _ _).drew)
  have HO1 : Hid (OwnL ptS 74 w1 w.heap.size (some ⟨R, 0, none⟩) 2 2 [.num (at_ B 0) 1, .num (at_ B 1) 4]) := Lib.hid (by
    rw [hw1, hR]; exact (ownL_new w w.heap.size (Nat.le_refl _) ([.num (at_ B 0) 1, .num (at_ B 1) 4] : List Pt) 2 _ rfl rfl (by omega) _ rfl).below (Below.refl _ _).drew)
  have hk1 : w1.cell? ⟨B, 0, none⟩ = some (.int .i64 kd) := (HB1.out.cell (p := ⟨B, 0, none⟩) hB).trans hk
  rw [← hw1, ← hR]
  clear hw1 hR
  go_cut [4, 5] (fun h a wc => ∃ q4 q5, h = .pointer (some ⟨q4, 0, none⟩) ∧ a = .pointer (some ⟨q5, 0, none⟩) ∧ Hid (Bx 68 wc q4 #[.pointer (some ⟨B, 5, none⟩), .int .i64 4]) ∧ Hid (Bx 68 wc q5 #[.pointer (some ⟨B, 6, none⟩), .int .i64 4]) ∧ Hid (Below w1.heap.size w1 wc))
  case first =>
    go_region
    all_goals
      go_wp2_with fail
      go_meet
    · have h2 := bx_new (w1.alloc (.cells #[.pointer (some ⟨B, 5, none⟩), .int .i64 4] 68)) 68 #[.pointer (some ⟨B, 6, none⟩), .int .i64 4]
      rw [World.size_alloc] at h2
      exact ⟨_, _, rfl, rfl, Lib.hid (((bx_new w1 _ _).below (ba1 _ _)).below (Below.refl _ _).drew), Lib.hid (h2.below (Below.refl _ _).drew), Lib.hid (ba2 _ _ _).drew⟩
    · have h2 := bx_new (w1.alloc (.cells #[.pointer (some ⟨B, 6, none⟩), .int .i64 4] 68)) 68 #[.pointer (some ⟨B, 5, none⟩), .int .i64 4]
      rw [World.size_alloc] at h2
      exact ⟨_, _, rfl, rfl, Lib.hid (h2.below (Below.refl _ _).drew), Lib.hid (((bx_new w1 _ _).below (ba1 _ _)).below (Below.refl _ _).drew), Lib.hid (ba2 _ _ _).drew⟩
  case rest =>
    obtain ⟨q4, q5, rfl, rfl, HX4, HX5, HB2⟩ := hcut
    obtain ⟨w2, hw2⟩ : ∃ w2, w2 = wc := ⟨_, rfl⟩
    subst hw2
    have hk2 : w2.cell? ⟨B, 0, none⟩ = some (.int .i64 kd) := (HB2.out.cell (p := ⟨B, 0, none⟩) (Nat.lt_of_lt_of_le hB HB1.out.size)).trans hk1
    have HO2 := Lib.hid (HO1.out.below HB2.out)
    have HBW : Hid (Below w.heap.size w w2) := Lib.hid (bthen HB1.out HB2.out)
    have x4 := HX4.out.cell 0 (.pointer (some ⟨B, 5, none⟩)) rfl
    have x4' := HX4.out.cell 1 (.int .i64 4) rfl
    have x5 := HX5.out.cell 0 (.pointer (some ⟨B, 6, none⟩)) rfl
    have x5' := HX5.out.cell 1 (.int .i64 4) rfl
    have l4 := HX4.out.lt
    have l5 := HX5.out.lt
    have HSZ := Lib.hid HBW.out.size
    clear hk hk1 hB
    by_cases hkd : 1 ≤ kd ∧ kd ≤ 10
    · have hk10 : kd = 1 ∨ kd = 2 ∨ kd = 3 ∨ kd = 4 ∨ kd = 5 ∨ kd = 6 ∨ kd = 7 ∨ kd = 8 ∨ kd = 9 ∨ kd = 10 := by omega
      clear hkd
      rcases hk10 with rfl | rfl | rfl | rfl | rfl | rfl | rfl | rfl | rfl | rfl
      · go_upto_region 5 with fail
        go_region_law (first
          | (refine step_appL (F := ptS) rfl _ (.tmp 31) (.tmp 42) 50 rfl _ 16 Try.underlying50 ptInfo rfl w.heap.size (some ⟨R, 0, none⟩) 2 2 _ (by first | rfl | simp [Act.eval, Act.put]) (HO2.out.below (ba1 _ _).drew) (some ⟨w2.heap.size, 0, none⟩) 2 2 ([.txt (at_ B 2), .num (at_ B 4) 1] : List Pt) (by first | rfl | simp [Act.eval, Act.put]) ((ls_new w2 _ _ _ rfl _ rfl).below (Below.refl _ _).drew) rfl 4 rfl (by omega) (by omega) (by have := HSZ.out; simp; omega) ?_; intro A3 c3 w3 ho3 hb3 _; have HO3 := Lib.hid ho3; have HB3 : Hid (Below w.heap.size w w3) := Lib.hid (((HBW.out.alloc HSZ.out _).drew).trans hb3); clear ho3 hb3))
        all_goals
          go_wp2_with fail
          go_ret
          exact ⟨HB3.out, by rw [if_pos (by omega)]; exact ⟨A3, 4, c3, rfl, rfl, HO3.out⟩⟩
      · go_wp2_with (at_builtin; refine wpList_appL (F := ptS) rfl _ (.tmp 46) (.tmp 49) 50 rfl _ 16 Try.underlying50 ptInfo rfl w.heap.size (some ⟨R, 0, none⟩) 2 2 _ rfl (HO2.out.below (ba1 _ _)) (some ⟨w2.heap.size, 0, none⟩) 1 1 ([.num (at_ B 5) 4] : List Pt) rfl (ls_new w2 _ _ _ rfl _ rfl) rfl 3 rfl (by omega) (by omega) (by have := HSZ.out; simp; omega) ?_; intro A3 c3 w3 ho3 hb3 _; have HO3 := Lib.hid ho3; have HB3 : Hid (Below w.heap.size w w3) := Lib.hid ((HBW.out.alloc HSZ.out _).trans hb3); clear ho3 hb3)
        go_ret
        exact ⟨HB3.out, by rw [if_pos (by omega)]; exact ⟨A3, 3, c3, rfl, rfl, HO3.out⟩⟩
      · go_upto_region 9 with fail
        go_region_law (first
          | (refine step_appL (F := ptS) rfl _ (.tmp 53) (.tmp 63) 50 rfl _ 16 Try.underlying50 ptInfo rfl w.heap.size (some ⟨R, 0, none⟩) 2 2 _ (by first | rfl | simp [Act.eval, Act.put]) (HO2.out.below (ba1 _ _).drew) (some ⟨w2.heap.size, 0, none⟩) 3 3 ([.num (at_ B 5) 4, .num (at_ B 6) 4, .num (at_ B 7) 2] : List Pt) (by first | rfl | simp [Act.eval, Act.put]) ((ls_new w2 _ _ _ rfl _ rfl).below (Below.refl _ _).drew) rfl 5 rfl (by omega) (by omega) (by have := HSZ.out; simp; omega) ?_; intro A3 c3 w3 ho3 hb3 _; have HO3 := Lib.hid ho3; have HB3 : Hid (Below w.heap.size w w3) := Lib.hid (((HBW.out.alloc HSZ.out _).drew).trans hb3); clear ho3 hb3))
        all_goals
          go_wp2_with fail
          go_ret
          exact ⟨HB3.out, by rw [if_pos (by omega)]; exact ⟨A3, 5, c3, rfl, rfl, HO3.out⟩⟩
      · go_upto_region 11 with fail
        go_region_law (first
          | (refine step_appL (F := ptS) rfl _ (.tmp 67) (.tmp 77) 50 rfl _ 16 Try.underlying50 ptInfo rfl w.heap.size (some ⟨R, 0, none⟩) 2 2 _ (by first | rfl | simp [Act.eval, Act.put]) (HO2.out.below (ba1 _ _).drew) (some ⟨w2.heap.size, 0, none⟩) 3 3 ([.num (at_ B 5) 4, .num (at_ B 6) 4, .dat (at_ B 8)] : List Pt) (by first | rfl | simp [Act.eval, Act.put]) ((ls_new w2 _ _ _ rfl _ rfl).below (Below.refl _ _).drew) rfl 5 rfl (by omega) (by omega) (by have := HSZ.out; simp; omega) ?_; intro A3 c3 w3 ho3 hb3 _; have HO3 := Lib.hid ho3; have HB3 : Hid (Below w.heap.size w w3) := Lib.hid (((HBW.out.alloc HSZ.out _).drew).trans hb3); clear ho3 hb3))
        all_goals
          go_wp2_with fail
          go_ret
          exact ⟨HB3.out, by rw [if_pos (by omega)]; exact ⟨A3, 5, c3, rfl, rfl, HO3.out⟩⟩
      · go_wp2_with (at_builtin; refine wpList_appL (F := ptS) rfl _ (.tmp 84) (.tmp 90) 50 rfl _ 16 Try.underlying50 ptInfo rfl w.heap.size (some ⟨R, 0, none⟩) 2 2 _ rfl (HO2.out.below (ba1 _ _)) (some ⟨w2.heap.size, 0, none⟩) 1 1 ([.txt (at_ B 2)] : List Pt) rfl (ls_new w2 _ _ _ rfl _ rfl) rfl 3 rfl (by omega) (by omega) (by have := HSZ.out; simp; omega) ?_; intro A3 c3 w3 ho3 hb3 _; have HO3 := Lib.hid ho3; have HB3 : Hid (Below w.heap.size w w3) := Lib.hid ((HBW.out.alloc HSZ.out _).trans hb3); clear ho3 hb3)
        go_ret
        exact ⟨HB3.out, by rw [if_pos (by omega)]; exact ⟨A3, 3, c3, rfl, rfl, HO3.out⟩⟩
      · go_wp2_with (at_builtin; refine wpList_appL (F := ptS) rfl _ (.tmp 84) (.tmp 90) 50 rfl _ 16 Try.underlying50 ptInfo rfl w.heap.size (some ⟨R, 0, none⟩) 2 2 _ rfl (HO2.out.below (ba1 _ _)) (some ⟨w2.heap.size, 0, none⟩) 1 1 ([.txt (at_ B 2)] : List Pt) rfl (ls_new w2 _ _ _ rfl _ rfl) rfl 3 rfl (by omega) (by omega) (by have := HSZ.out; simp; omega) ?_; intro A3 c3 w3 ho3 hb3 _; have HO3 := Lib.hid ho3; have HB3 : Hid (Below w.heap.size w w3) := Lib.hid ((HBW.out.alloc HSZ.out _).trans hb3); clear ho3 hb3)
        go_ret
        exact ⟨HB3.out, by rw [if_pos (by omega)]; exact ⟨A3, 3, c3, rfl, rfl, HO3.out⟩⟩
      · go_wp2_with (at_builtin; refine wpList_appL (F := ptS) rfl _ (.tmp 84) (.tmp 90) 50 rfl _ 16 Try.underlying50 ptInfo rfl w.heap.size (some ⟨R, 0, none⟩) 2 2 _ rfl (HO2.out.below (ba1 _ _)) (some ⟨w2.heap.size, 0, none⟩) 1 1 ([.txt (at_ B 2)] : List Pt) rfl (ls_new w2 _ _ _ rfl _ rfl) rfl 3 rfl (by omega) (by omega) (by have := HSZ.out; simp; omega) ?_; intro A3 c3 w3 ho3 hb3 _; have HO3 := Lib.hid ho3; have HB3 : Hid (Below w.heap.size w w3) := Lib.hid ((HBW.out.alloc HSZ.out _).trans hb3); clear ho3 hb3)
        go_ret
        exact ⟨HB3.out, by rw [if_pos (by omega)]; exact ⟨A3, 3, c3, rfl, rfl, HO3.out⟩⟩
      · go_wp2_with (at_builtin; refine wpList_appL (F := ptS) rfl _ (.tmp 84) (.tmp 90) 50 rfl _ 16 Try.underlying50 ptInfo rfl w.heap.size (some ⟨R, 0, none⟩) 2 2 _ rfl (HO2.out.below (ba1 _ _)) (some ⟨w2.heap.size, 0, none⟩) 1 1 ([.txt (at_ B 2)] : List Pt) rfl (ls_new w2 _ _ _ rfl _ rfl) rfl 3 rfl (by omega) (by omega) (by have := HSZ.out; simp; omega) ?_; intro A3 c3 w3 ho3 hb3 _; have HO3 := Lib.hid ho3; have HB3 : Hid (Below w.heap.size w w3) := Lib.hid ((HBW.out.alloc HSZ.out _).trans hb3); clear ho3 hb3)
        go_ret
        exact ⟨HB3.out, by rw [if_pos (by omega)]; exact ⟨A3, 3, c3, rfl, rfl, HO3.out⟩⟩
      · go_upto_region 19 with fail
        go_region_law (first
          | (refine step_appL (F := ptS) rfl _ (.tmp 95) (.tmp 106) 50 rfl _ 16 Try.underlying50 ptInfo rfl w.heap.size (some ⟨R, 0, none⟩) 2 2 _ (by first | rfl | simp [Act.eval, Act.put]) (HO2.out.below (ba1 _ _).drew) (some ⟨w2.heap.size, 0, none⟩) 2 2 ([.txt (at_ B 2), .txt (at_ B 3)] : List Pt) (by first | rfl | simp [Act.eval, Act.put]) ((ls_new w2 _ _ _ rfl _ rfl).below (Below.refl _ _).drew) rfl 4 rfl (by omega) (by omega) (by have := HSZ.out; simp; omega) ?_; intro A3 c3 w3 ho3 hb3 _; have HO3 := Lib.hid ho3; have HB3 : Hid (Below w.heap.size w w3) := Lib.hid (((HBW.out.alloc HSZ.out _).drew).trans hb3); clear ho3 hb3))
        all_goals
          go_wp2_with fail
          go_ret
          exact ⟨HB3.out, by rw [if_pos (by omega)]; exact ⟨A3, 4, c3, rfl, rfl, HO3.out⟩⟩
      · go_upto_region 19 with fail
        go_region_law (first
          | (refine step_appL (F := ptS) rfl _ (.tmp 95) (.tmp 106) 50 rfl _ 16 Try.underlying50 ptInfo rfl w.heap.size (some ⟨R, 0, none⟩) 2 2 _ (by first | rfl | simp [Act.eval, Act.put]) (HO2.out.below (ba1 _ _).drew) (some ⟨w2.heap.size, 0, none⟩) 2 2 ([.txt (at_ B 2), .txt (at_ B 3)] : List Pt) (by first | rfl | simp [Act.eval, Act.put]) ((ls_new w2 _ _ _ rfl _ rfl).below (Below.refl _ _).drew) rfl 4 rfl (by omega) (by omega) (by have := HSZ.out; simp; omega) ?_; intro A3 c3 w3 ho3 hb3 _; have HO3 := Lib.hid ho3; have HB3 : Hid (Below w.heap.size w w3) := Lib.hid (((HBW.out.alloc HSZ.out _).drew).trans hb3); clear ho3 hb3))
        all_goals
          go_wp2_with fail
          go_ret
          exact ⟨HB3.out, by rw [if_pos (by omega)]; exact ⟨A3, 4, c3, rfl, rfl, HO3.out⟩⟩
    · have hne : ∀ j : Int, 1 ≤ j → j ≤ 10 → (kd == j) = false := fun j h1 h2 => by
        have : kd ≠ j := fun e => hkd (by omega)
        simp [this]
      have e1 := hne 1 (by omega) (by omega)
      have e2 := hne 2 (by omega) (by omega)
      have e3 := hne 3 (by omega) (by omega)
      have e4 := hne 4 (by omega) (by omega)
      have e5 := hne 5 (by omega) (by omega)
      have e6 := hne 6 (by omega) (by omega)
      have e7 := hne 7 (by omega) (by omega)
      have e8 := hne 8 (by omega) (by omega)
      have e9 := hne 9 (by omega) (by omega)
      have e10 := hne 10 (by omega) (by omega)
      have HKD := Lib.hid hkd
      clear hne hkd
      go_wp2_with fail
      go_ret
      exact ⟨HBW.out, by rw [if_neg HKD.out]; rfl⟩

end Go.Proofs.Ytelfnlocgknpjaa
