/-
  The document's answerFault.
-/
import Derived.Test.YtelfnlocgknpjaaMRefRead
import Derived.Test.YtelfnlocgknpjaaNameMay
namespace Go.Proofs.Ytelfnlocgknpjaa
open Go.RowKit
set_option linter.unusedVariables false
set_option linter.unusedSimpArgs false

theorem four_ok (v : Int) (w : World) (h : 0 ≤ v ∧ v ≤ 4294967295) :
    Calls Try.prog 52 #[.int .i64 v] w fun e w' => e = .returned (.bool true) ∧ w = w' := by
  have h1 : 0 ≤ v := h.1
  have h2 : v ≤ 4294967295 := h.2
  go_enter Try.func52, Try.ntmps52
  go_wp2_with fail
  go_ret
  exact ⟨rfl, rfl⟩
theorem four_no (v : Int) (w : World) (h : v < 0 ∨ 4294967295 < v) :
    Calls Try.prog 52 #[.int .i64 v] w fun e w' => e = .returned (.bool false) ∧ w = w' := by
  by_cases h0 : v < 0
  · have h1 : ¬ 0 ≤ v := by omega
    clear h
    go_enter Try.func52, Try.ntmps52
    go_wp2_with fail
    go_ret
    exact ⟨rfl, rfl⟩
  · have h1 : 0 ≤ v := by omega
    have h2 : ¬ v ≤ 4294967295 := by omega
    clear h
    go_enter Try.func52, Try.ntmps52
    go_wp2_with fail
    go_ret
    exact ⟨rfl, rfl⟩
theorem head_ok {mrk code han kd sz : Int} {m : Nat} (h0 : 0 ≤ mrk ∧ mrk ≤ 4294967295) (h1 : 0 ≤ code ∧ code ≤ 255) (h2 : 0 ≤ han ∧ han ≤ 4294967295) (h3 : 0 ≤ kd ∧ kd ≤ 255) (h4 : 0 ≤ sz ∧ sz ≤ 4294967295) : headR mrk code han kd sz m = if 100 < m then 1 else 0 := by
  unfold headR
  rw [ck_ok (k := 4) (by omega), ck_ok (k := 1) (by omega), ck_ok (k := 4) (by omega), ck_ok (k := 1) (by omega), ck_ok (k := 4) (by omega)]
  split <;> rfl
theorem head_bad {mrk code han kd sz : Int} {m : Nat} (h : ¬ (0 ≤ mrk ∧ mrk ≤ 4294967295) ∨ ¬ (0 ≤ code ∧ code ≤ 255) ∨ ¬ (0 ≤ han ∧ han ≤ 4294967295) ∨ ¬ (0 ≤ kd ∧ kd ≤ 255) ∨ ¬ (0 ≤ sz ∧ sz ≤ 4294967295)) : headR mrk code han kd sz m = 2 := by
  have hb : ∀ k v, v < 0 ∨ 256 ^ k ≤ v → ckN k v = 2 := fun k v h => if_pos h
  have : ckN 4 mrk = 2 ∨ ckN 1 code = 2 ∨ ckN 4 han = 2 ∨ ckN 1 kd = 2 ∨ ckN 4 sz = 2 := by
    rcases h with h | h | h | h | h
    · exact .inl (hb 4 mrk (by omega))
    · exact .inr (.inl (hb 1 code (by omega)))
    · exact .inr (.inr (.inl (hb 4 han (by omega))))
    · exact .inr (.inr (.inr (.inl (hb 1 kd (by omega)))))
    · exact .inr (.inr (.inr (.inr (hb 4 sz (by omega)))))
  unfold headR chkT
  rw [if_pos]
  simp only [List.any_cons]
  rcases this with h | h | h | h | h <;> rw [h] <;> simp
/-- the way through the ranges -/
theorem ranges (mrk code han kd sz : Int) :
    (mrk < 0 ∨ 4294967295 < mrk) ∨ ((0 ≤ mrk ∧ mrk ≤ 4294967295) ∧ code < 0) ∨ ((0 ≤ mrk ∧ mrk ≤ 4294967295) ∧ 0 ≤ code ∧ 255 < code) ∨ ((0 ≤ mrk ∧ mrk ≤ 4294967295) ∧ (0 ≤ code ∧ code ≤ 255) ∧ (han < 0 ∨ 4294967295 < han)) ∨
    ((0 ≤ mrk ∧ mrk ≤ 4294967295) ∧ (0 ≤ code ∧ code ≤ 255) ∧ (0 ≤ han ∧ han ≤ 4294967295) ∧ kd < 0) ∨ ((0 ≤ mrk ∧ mrk ≤ 4294967295) ∧ (0 ≤ code ∧ code ≤ 255) ∧ (0 ≤ han ∧ han ≤ 4294967295) ∧ 0 ≤ kd ∧ 255 < kd) ∨
    ((0 ≤ mrk ∧ mrk ≤ 4294967295) ∧ (0 ≤ code ∧ code ≤ 255) ∧ (0 ≤ han ∧ han ≤ 4294967295) ∧ (0 ≤ kd ∧ kd ≤ 255) ∧ (sz < 0 ∨ 4294967295 < sz)) ∨
    ((0 ≤ mrk ∧ mrk ≤ 4294967295) ∧ (0 ≤ code ∧ code ≤ 255) ∧ (0 ≤ han ∧ han ≤ 4294967295) ∧ (0 ≤ kd ∧ kd ≤ 255) ∧ (0 ≤ sz ∧ sz ≤ 4294967295)) := by omega
set_option maxRecDepth 100000 in
set_option maxHeartbeats 16000000 in
theorem ansFault_any (x : Rpv) (w : World) (hin : x.In w) (hn : x.n ≤ 140737488355328) :
    Calls Try.prog 40 #[.agg #[.int .i64 x.mrk, .int .i64 x.code, .int .i64 x.han, .int .i64 x.kd, .int .i64 x.sz, .slice x.D x.m x.d, .slice x.N x.n x.c]] w fun e w' => e = .returned (.int .i64 x.fault) ∧ Below w.heap.size w w' := by
  obtain ⟨mrk, code, han, kd, sz, D, m, d, zs, N, n, c, ns⟩ := x
  simp only [Rpv.fault] at hn ⊢
  obtain ⟨⟨hd, hdl⟩, hns, hnl⟩ := hin
  simp only at hd hdl hns hnl
  obtain ⟨w1, hw1⟩ : ∃ w1, w1 = w.alloc (.cells #[.int .i64 mrk, .int .i64 code, .int .i64 han, .int .i64 kd, .int .i64 sz, .slice D m d, .slice N n c] 36) := ⟨_, rfl⟩
  obtain ⟨B, hB⟩ : ∃ B, B = w.heap.size := ⟨_, rfl⟩
  have HB1 : Hid (Below w.heap.size w w1) := Lib.hid (by rw [hw1]; exact ba1 _ _)
  have hx : Bx 36 w1 B #[.int .i64 mrk, .int .i64 code, .int .i64 han, .int .i64 kd, .int .i64 sz, .slice D m d, .slice N n c] := by rw [hw1, hB]; exact bx_new _ _ _
  obtain ⟨lb, b0, b1, b2, b3, b4, b5, b6, -⟩ := hx.cells7
  have HX := Lib.hid hx
  have HNS := Lib.hid (hns.below HB1.out)
  have HNL := Lib.hid hnl
  clear hx hd hdl hns hnl
  go_enter Try.func40, Try.ntmps40
  go_upto_region 1 with fail
  rw [← hw1, ← hB]
  clear hw1 hB
  rcases ranges mrk code han kd sz with h | ⟨h0, h⟩ | ⟨h0, h, h'⟩ | ⟨h0, h1, h⟩ | ⟨h0, h1, h2, h⟩ | ⟨h0, h1, h2, h, h'⟩ | ⟨h0, h1, h2, h3, h⟩ | ⟨h0, h1, h2, h3, h4⟩
  · have HR : Hid (faultR mrk code han kd sz m ns = 2) := Lib.hid (by unfold faultR; rw [head_bad (.inl (by omega))]; rfl)
    have HF := Lib.hid (fun ww => four_no mrk ww h)
    clear h
    go_wp2_with (go_at_call 52; (with_reducible refine (HF.out _).mono ?_); rintro e w2 ⟨rfl, rfl⟩)
    go_ret
    exact ⟨by rw [HR.out]; rfl, HB1.out⟩
  · have HR : Hid (faultR mrk code han kd sz m ns = 2) := Lib.hid (by unfold faultR; rw [head_bad (.inr (.inl (by omega)))]; rfl)
    have HF := Lib.hid (fun ww => four_ok mrk ww h0)
    clear h0
    go_wp2_with (go_at_call 52; (with_reducible refine (HF.out _).mono ?_); rintro e w2 ⟨rfl, rfl⟩)
    go_ret
    exact ⟨by rw [HR.out]; rfl, HB1.out⟩
  · have HR : Hid (faultR mrk code han kd sz m ns = 2) := Lib.hid (by unfold faultR; rw [head_bad (.inr (.inl (by omega)))]; rfl)
    have HF := Lib.hid (fun ww => four_ok mrk ww h0)
    have g1 : ¬ code < 0 := by omega
    clear h0 h
    go_wp2_with (go_at_call 52; (with_reducible refine (HF.out _).mono ?_); rintro e w2 ⟨rfl, rfl⟩)
    go_ret
    exact ⟨by rw [HR.out]; rfl, HB1.out⟩
  · have HR : Hid (faultR mrk code han kd sz m ns = 2) := Lib.hid (by unfold faultR; rw [head_bad (.inr (.inr (.inl (by omega))))]; rfl)
    have HF := Lib.hid (fun ww => four_ok mrk ww h0)
    have HF2 := Lib.hid (fun ww => four_no han ww h)
    have g1 : ¬ code < 0 := by omega
    have g2 : ¬ 255 < code := by omega
    clear h0 h1 h
    go_wp2_with (go_at_call 52; first | ((with_reducible refine (HF.out _).mono ?_); rintro e w2 ⟨rfl, rfl⟩) | ((with_reducible refine (HF2.out _).mono ?_); rintro e w2 ⟨rfl, rfl⟩))
    go_ret
    exact ⟨by rw [HR.out]; rfl, HB1.out⟩
  · have HR : Hid (faultR mrk code han kd sz m ns = 2) := Lib.hid (by unfold faultR; rw [head_bad (.inr (.inr (.inr (.inl (by omega)))))]; rfl)
    have HF := Lib.hid (fun ww => four_ok mrk ww h0)
    have HF2 := Lib.hid (fun ww => four_ok han ww h2)
    have g1 : ¬ code < 0 := by omega
    have g2 : ¬ 255 < code := by omega
    clear h0 h1 h2
    go_wp2_with (go_at_call 52; first | ((with_reducible refine (HF.out _).mono ?_); rintro e w2 ⟨rfl, rfl⟩) | ((with_reducible refine (HF2.out _).mono ?_); rintro e w2 ⟨rfl, rfl⟩))
    go_ret
    exact ⟨by rw [HR.out]; rfl, HB1.out⟩
  · have HR : Hid (faultR mrk code han kd sz m ns = 2) := Lib.hid (by unfold faultR; rw [head_bad (.inr (.inr (.inr (.inl (by omega)))))]; rfl)
    have HF := Lib.hid (fun ww => four_ok mrk ww h0)
    have HF2 := Lib.hid (fun ww => four_ok han ww h2)
    have g1 : ¬ code < 0 := by omega
    have g2 : ¬ 255 < code := by omega
    have g3 : ¬ kd < 0 := by omega
    clear h0 h1 h2 h
    go_wp2_with (go_at_call 52; first | ((with_reducible refine (HF.out _).mono ?_); rintro e w2 ⟨rfl, rfl⟩) | ((with_reducible refine (HF2.out _).mono ?_); rintro e w2 ⟨rfl, rfl⟩))
    go_ret
    exact ⟨by rw [HR.out]; rfl, HB1.out⟩
  · have HR : Hid (faultR mrk code han kd sz m ns = 2) := Lib.hid (by unfold faultR; rw [head_bad (.inr (.inr (.inr (.inr (by omega)))))]; rfl)
    have HF := Lib.hid (fun ww => four_ok mrk ww h0)
    have HF2 := Lib.hid (fun ww => four_ok han ww h2)
    have HF3 := Lib.hid (fun ww => four_no sz ww h)
    have g1 : ¬ code < 0 := by omega
    have g2 : ¬ 255 < code := by omega
    have g3 : ¬ kd < 0 := by omega
    have g4 : ¬ 255 < kd := by omega
    clear h0 h1 h2 h3 h
    go_wp2_with (go_at_call 52; first | ((with_reducible refine (HF.out _).mono ?_); rintro e w2 ⟨rfl, rfl⟩) | ((with_reducible refine (HF2.out _).mono ?_); rintro e w2 ⟨rfl, rfl⟩) | ((with_reducible refine (HF3.out _).mono ?_); rintro e w2 ⟨rfl, rfl⟩))
    go_ret
    exact ⟨by rw [HR.out]; rfl, HB1.out⟩
  · have HH := Lib.hid (head_ok (m := m) h0 h1 h2 h3 h4)
    have HF := Lib.hid (fun ww => four_ok mrk ww h0)
    have HF2 := Lib.hid (fun ww => four_ok han ww h2)
    have HF3 := Lib.hid (fun ww => four_ok sz ww h4)
    have g1 : ¬ code < 0 := by omega
    have g2 : ¬ 255 < code := by omega
    have g3 : ¬ kd < 0 := by omega
    have g4 : ¬ 255 < kd := by omega
    clear h0 h1 h2 h3 h4
    go_upto_region 4 with (go_at_call 52; first | ((with_reducible refine (HF.out _).mono ?_); rintro e w2 ⟨rfl, rfl⟩) | ((with_reducible refine (HF2.out _).mono ?_); rintro e w2 ⟨rfl, rfl⟩) | ((with_reducible refine (HF3.out _).mono ?_); rintro e w2 ⟨rfl, rfl⟩))
    clear g1 g2 g3 g4
    by_cases hm : 100 < m
    · have hmi : (100 : Int) < (m : Int) := by omega
      have HR : Hid (faultR mrk code han kd sz m ns = 1) := Lib.hid (by unfold faultR; rw [HH.out, if_pos hm]; rfl)
      go_wp2_with fail
      go_ret
      exact ⟨by rw [HR.out]; rfl, HB1.out⟩
    · have hmi : ¬ (100 : Int) < (m : Int) := by omega
      have HH0 : Hid (headR mrk code han kd sz m = 0) := Lib.hid (by rw [HH.out, if_neg hm])
      by_cases hn4 : 40 < n
      · have hni : (40 : Int) < (n : Int) := by omega
        have HR : Hid (faultR mrk code han kd sz m ns = 1) := Lib.hid (by unfold faultR; rw [HH0.out, if_neg (by simp), if_pos (by rw [HNL.out]; exact hn4)])
        go_wp2_with fail
        go_ret
        exact ⟨by rw [HR.out]; rfl, HB1.out⟩
      · have hni : ¬ (40 : Int) < (n : Int) := by omega
        have HRA : Hid (faultR mrk code han kd sz m ns = if ns.all nameB then 0 else 4) := Lib.hid (by unfold faultR; rw [HH0.out, if_neg (by simp), if_neg (by rw [HNL.out]; exact hn4)])
        go_wp2_with fail
        go_loopw [58] (fun i wr => ∃ k : Nat, i = .int .i64 (k : Int) ∧ k ≤ n ∧ AllNames (ns.take k) ∧ Below w1.heap.size w1 wr) (fun i _ => n - (intOf i).toNat)
        case atStart => exact ⟨0, rfl, Nat.zero_le _, rfl, Below.refl _ _⟩
        case round =>
          obtain ⟨k, rfl, hk, hall, hbw⟩ := hrel
          have HALL := Lib.hid hall
          have HBW := Lib.hid hbw
          clear hall hbw
          by_cases hlt : k < n
          · have hlti : (k : Int) < (n : Int) := by omega
            obtain ⟨b, o, rfl, hbl, hc⟩ := (HNS.out.below HBW.out).text k (by rw [HNL.out]; exact hlt)
            have HS : Hid ((ns.take (k + 1)).all nameB = nameB (ns.getD k [])) := Lib.hid (take_all HALL.out (by rw [HNL.out]; exact hlt))
            have HFL : Hid (nameB (ns.getD k []) = false → ns.all nameB = false) := Lib.hid (fun h => all_false (by rw [HNL.out]; exact hlt) h)
            obtain ⟨x, hx⟩ : ∃ x, ns.getD k [] = x := ⟨_, rfl⟩
            rw [hx] at hc HS HFL
            have HC := Lib.hid (nameMay_any x wr)
            obtain ⟨v, hv⟩ : ∃ v, nameB x = v := ⟨_, rfl⟩
            rw [hv] at HC HS HFL
            clear hx hv
            cases v
            · go_wp2_with (go_at_call 53; refine HC.out.mono ?_; rintro e w3 ⟨rfl, hb3⟩; have HB3 : Hid (Below wr.heap.size wr w3) := Lib.hid (by rw [hb3]; exact Below.refl _ _); clear hb3)
              go_ret
              exact ⟨by rw [HRA.out, HFL.out (by first | rfl | trivial)]; rfl, bthen HB1.out (bthen HBW.out HB3.out)⟩
            · go_wp2_with (go_at_call 53; refine HC.out.mono ?_; rintro e w3 ⟨rfl, hb3⟩; have HB3 : Hid (Below wr.heap.size wr w3) := Lib.hid (by rw [hb3]; exact Below.refl _ _); clear hb3)
              exact ⟨⟨k + 1, by go_num, by omega, HS.out, bthen HBW.out HB3.out⟩, by simp [intOf]; omega⟩
          · have hlti : ¬ (k : Int) < (n : Int) := by omega
            have HE : Hid (ns.all nameB = true) := Lib.hid (by have := HALL.out; rw [List.take_of_length_le (by rw [HNL.out]; omega)] at this; exact this)
            go_wp2_with fail
            go_ret
            exact ⟨by rw [HRA.out, HE.out]; rfl, bthen HB1.out HBW.out⟩

end Go.Proofs.Ytelfnlocgknpjaa
