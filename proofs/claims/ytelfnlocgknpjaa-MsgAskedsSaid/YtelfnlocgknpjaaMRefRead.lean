/-
  The document's reader: num and text.
-/
import Derived.Test.YtelfnlocgknpjaaMRefBytes
namespace Go.Proofs.Ytelfnlocgknpjaa
open Go.RowKit
set_option linter.unusedVariables false
set_option linter.unusedSimpArgs false

/-- a reader in its box: what is left, and whether it was too short -/
def RdAt (R : Nat) (A : Option Addr) (n c : Nat) (w : World) (ys : List Int) (sh : Bool) : Prop :=
  Bx 60 w R #[.slice A n c, .bool sh] ∧ Ls byS w A ys ∧ ys.length = n ∧ n ≤ c ∧ c ≤ 9223372036854775807 ∧ Clear (fun k => R ≤ k) A ∧ Oct ys
def RdIs (R : Nat) (w : World) (ys : List Int) (sh : Bool) : Prop := ∃ A n c, RdAt R A n c w ys sh
theorem RdIs.new {R : Nat} {w w' : World} {ys : List Int} {sh : Bool} (h : RdIs R w ys sh) (hb : Below w.heap.size w w') : RdIs R w' ys sh := by
  obtain ⟨A, n, c, h1, h2, h3⟩ := h
  exact ⟨A, n, c, h1.below hb, h2.below hb, h3⟩
def numR (k : Nat) (ys : List Int) (sh : Bool) : Int × List Int × Bool := if ys.length < k then (0, [], true) else (val (ys.take k), ys.drop k, sh)
def txtR (ys : List Int) (sh : Bool) : Byt × List Int × Bool :=
  if (numR 2 ys sh).2.1.length < (numR 2 ys sh).1.toNat then ([], [], true) else (toT ((numR 2 ys sh).2.1.take (numR 2 ys sh).1.toNat), (numR 2 ys sh).2.1.drop (numR 2 ys sh).1.toNat, (numR 2 ys sh).2.2)
theorem rd_none {R : Nat} {w : World} (h : Bx 60 w R #[.slice none 0 0, .bool true]) : RdIs R w [] true := ⟨none, 0, 0, h, Ls.nil _ _, rfl, Nat.le_refl _, by omega, Clear.none _, fun z h => by cases h⟩

set_option maxHeartbeats 4000000 in
theorem num_any (R k : Nat) (ys : List Int) (sh : Bool) (w : World) (hk : 1 ≤ k ∧ k ≤ 4) (hr : RdIs R w ys sh) :
    Calls Try.prog 35 #[.pointer (some ⟨R, 0, none⟩), .int .i64 k] w fun e w' => Only (fun j => j = R) w w' ∧ e = .returned (.int .i64 (numR k ys sh).1) ∧ RdIs R w' (numR k ys sh).2.1 (numR k ys sh).2.2 := by
  obtain ⟨A, n, c, hx, hs, hl, hc, hc2, hA, ho⟩ := hr
  have HX := Lib.hid hx
  have HS := Lib.hid hs
  have HL := Lib.hid hl
  have HA := Lib.hid hA
  have HO := Lib.hid ho
  have r0 : w.cell? ⟨R, 0, none⟩ = some (.slice A n c) := hx.cell 0 _ rfl
  have r1 : w.cell? ⟨R, 1, none⟩ = some (.bool sh) := hx.cell 1 _ rfl
  have z0 := hx.soft 0
  have z1 := hx.soft 1
  have lr := hx.lt
  clear hx hs hl hA ho
  by_cases hlt : n < k
  · have hi : decide ((n : Int) < (k : Int)) = true := by simp; omega
    have HN : Hid (numR k ys sh = (0, [], true)) := Lib.hid (by unfold numR; rw [if_pos (by rw [HL.out]; exact hlt)])
    rw [HN.out]
    go_enter Try.func35, Try.ntmps35
    go_wp2_with fail
    go_ret
    exact ⟨((Only.refl (fun j => j = R) w).setCell (.inl rfl) _).setCell (.inl rfl) _, rfl, rd_none ((HX.out.set 1 _).set 0 _)⟩
  · have hi : decide ((n : Int) < (k : Int)) = false := by simp; omega
    have HN : Hid (numR k ys sh = (val (ys.take k), ys.drop k, sh)) := Lib.hid (by unfold numR; rw [if_neg (by rw [HL.out]; exact hlt)])
    rw [HN.out]
    obtain ⟨b, o, rfl, hbl, -⟩ := HS.out.at 0 (ys[0]'(by rw [HL.out]; omega)) (List.getElem?_eq_getElem _)
    have hbR0 : Hid (¬ R ≤ b) := Lib.hid (fun e => HA.out _ rfl e)
    have hbR : ¬ b = R := fun e => hbR0.out (Nat.le_of_eq e.symm)
    go_enter Try.func35, Try.ntmps35
    go_wp2_with fail
    go_loopw [5, 6] (fun v i wr => ∃ j : Nat, j ≤ k ∧ i = .int .i64 (j : Int) ∧ v = .int .i64 (val (ys.take j)) ∧ Below w.heap.size w wr) (fun _ i _ => k - (intOf i).toNat)
    case atStart => exact ⟨0, Nat.zero_le _, rfl, rfl, Below.refl _ _⟩
    case round =>
      obtain ⟨j, hj, rfl, rfl, hbw⟩ := hrel
      have HBW := Lib.hid hbw
      have hxr := HX.out.below hbw
      have r0 : wr.cell? ⟨R, 0, none⟩ = some (.slice (some ⟨b, o, none⟩) n c) := hxr.cell 0 _ rfl
      have z0 := hxr.soft 0
      have lr := hxr.lt
      have hsr := HS.out.below hbw
      have HXR := Lib.hid hxr
      clear hbw hxr
      by_cases hjk : j < k
      · obtain ⟨x, hx⟩ : ∃ x, ys[j]? = some x := ⟨_, List.getElem?_eq_getElem (by rw [HL.out]; omega)⟩
        obtain ⟨b', o', hA', hbl', hcc⟩ := hsr.at j x hx
        injection hA' with hA'; injection hA' with e1 e2
        subst e1; subst e2
        have f0 := hcc 0 (.int .u8 x) rfl
        simp only [byS, Nat.add_zero, Nat.mul_one] at f0
        obtain ⟨v, hv⟩ : ∃ v, v = val (ys.take j) := ⟨_, rfl⟩
        have hvb := val_bound j (ys.take j) (by rw [List.length_take, HL.out]; omega) (fun z hz => HO.out z (List.mem_of_mem_take hz))
        have hxb := HO.out x (List.mem_of_getElem? hx)
        rw [← hv] at hvb
        have hp3 : (256 : Int) ^ j ≤ 16777216 := by
          have : j = 0 ∨ j = 1 ∨ j = 2 ∨ j = 3 := by omega
          rcases this with rfl | rfl | rfl | rfl <;> decide
        have HV : Hid (v * 256 + x = val (ys.take (j + 1))) := Lib.hid (by rw [take_val hx, hv])
        have w1 : IntKind.i64.wrap (v * 256) = v * 256 := by rw [IntKind.wrap_i64]; omega
        have w2 : IntKind.i64.wrap (v * 256 + x) = v * 256 + x := by rw [IntKind.wrap_i64]; omega
        have w3 : IntKind.i64.wrap x = x := by rw [IntKind.wrap_i64]; omega
        have hji : (j : Int) < (k : Int) := by omega
        have hjn : (j : Int) < (n : Int) := by omega
        rw [← hv]
        clear hcc hx hv hsr
        go_wp2_with fail
        refine ⟨⟨j + 1, by omega, by go_num, by rw [← HV.out], HBW.out⟩, by simp [intOf]; omega⟩
      · have hji : ¬ (j : Int) < (k : Int) := by omega
        obtain rfl : j = k := by omega
        have HD : Hid (Ls byS wr (some ⟨b, o + j, none⟩) (ys.drop j)) := Lib.hid (hsr.drop1 rfl j)
        have HDL : Hid ((ys.drop j).length = n - j) := Lib.hid (by rw [List.length_drop, HL.out])
        have HDO : Hid (Oct (ys.drop j)) := Lib.hid (fun z hz => HO.out z (List.mem_of_mem_drop hz))
        have hkn : (j : Int) ≤ (n : Int) := by omega
        clear hsr
        by_cases hcj : c = j
        · have hnj : n - j = 0 := by omega
          have HZ : Hid (ys.drop j = []) := Lib.hid (List.eq_nil_of_length_eq_zero (by rw [HDL.out]; exact hnj))
          go_wp2_with fail
          go_ret
          refine ⟨(only_new (S := fun j => j = R) HBW.out).setCell (.inl rfl) _, rfl, ?_⟩
          rw [HZ.out]
          exact ⟨_, _, _, HXR.out.set 0 _, Ls.nil _ _, rfl, by omega, by omega, HA.out, fun z h => by cases h⟩
        · go_wp2_with fail
          go_ret
          refine ⟨(only_new (S := fun j => j = R) HBW.out).setCell (.inl rfl) _, rfl, ?_⟩
          exact ⟨_, _, _, HXR.out.set 0 _, HD.out.only ((Only.refl (fun j => j = R) wr).setCell (.inl rfl) _) (fun a ha e => by injection ha with ha; subst ha; exact hbR e), HDL.out, by omega, by omega, fun a ha e => by injection ha with ha; subst ha; exact hbR0.out e, HDO.out⟩

set_option maxRecDepth 100000 in
set_option maxHeartbeats 4000000 in
theorem text_any (R : Nat) (ys : List Int) (sh : Bool) (w : World) (hr : RdIs R w ys sh) :
    Calls Try.prog 36 #[.pointer (some ⟨R, 0, none⟩)] w fun e w' => Only (fun j => j = R) w w' ∧ e = .returned (.string (tx (txtR ys sh).1)) ∧ RdIs R w' (txtR ys sh).2.1 (txtR ys sh).2.2 := by
  have HNM : Hid (Calls Try.prog 35 #[.pointer (some ⟨R, 0, none⟩), .int .i64 2] w fun e w' => Only (fun j => j = R) w w' ∧ e = .returned (.int .i64 (numR 2 ys sh).1) ∧ RdIs R w' (numR 2 ys sh).2.1 (numR 2 ys sh).2.2) := Lib.hid (num_any R 2 ys sh w (by omega) hr)
  have hv : 0 ≤ (numR 2 ys sh).1 ∧ (numR 2 ys sh).1 < 65536 := by
    obtain ⟨A, n, c, hx, hs, hl, hc, hc2, hA, ho⟩ := hr
    unfold numR
    split
    · exact ⟨by decide, by decide⟩
    · exact val_bound 2 (ys.take 2) (by rw [List.length_take]; omega) (fun z hz => ho z (List.mem_of_mem_take hz))
  obtain ⟨m, hm⟩ : ∃ m : Nat, (m : Int) = (numR 2 ys sh).1 := ⟨(numR 2 ys sh).1.toNat, by omega⟩
  obtain ⟨us, hus⟩ : ∃ us, us = (numR 2 ys sh).2.1 := ⟨_, rfl⟩
  obtain ⟨s2, hs2⟩ : ∃ s2, s2 = (numR 2 ys sh).2.2 := ⟨_, rfl⟩
  have HT : Hid (txtR ys sh = if us.length < m then ([], [], true) else (toT (us.take m), us.drop m, s2)) := Lib.hid (by unfold txtR; rw [← hus, ← hs2, ← hm, Int.toNat_natCast])
  rw [← hm, ← hus, ← hs2] at HNM
  have hm6 : m < 65536 := by omega
  clear hv hm hus hs2 hr hm6
  rw [HT.out]
  go_enter Try.func36, Try.ntmps36
  go_upto_region 2 with (go_at_call 35; (with_reducible refine HNM.out.mono ?_); rintro e w1 ⟨hon, rfl, A, n, c, hx, hs, hl, hc, hc2, hA, ho⟩; have HON := Lib.hid hon; have HX := Lib.hid hx; have HS := Lib.hid hs; have HL := Lib.hid hl; have HA := Lib.hid hA; have HO := Lib.hid ho; clear hon hx hs hl hA ho)
  have r0 : w1.cell? ⟨R, 0, none⟩ = some (.slice A n c) := HX.out.cell 0 _ rfl
  have r1 : w1.cell? ⟨R, 1, none⟩ = some (.bool s2) := HX.out.cell 1 _ rfl
  have z0 := HX.out.soft 0
  have z1 := HX.out.soft 1
  have lr := HX.out.lt
  by_cases hlt : n < m
  · have hi : (n : Int) < (m : Int) := by omega
    have HC : Hid (us.length < m) := Lib.hid (by rw [HL.out]; exact hlt)
    go_wp2_with fail
    go_ret
    try rw [if_pos HC.out]
    exact ⟨(HON.out.setCell (.inl rfl) _).setCell (.inl rfl) _, rfl, rd_none ((HX.out.set 1 _).set 0 _)⟩
  · have hi : decide ((n : Int) < (m : Int)) = false := by simp; omega
    have HC : Hid (¬ us.length < m) := Lib.hid (by rw [HL.out]; exact hlt)
    have hcv := fun ww (h : Below w1.heap.size w1 ww) => conv_text A m c (us.take m) ww ((HS.out.below h).take m) (by rw [List.length_take, HL.out]; omega)
    have hcv1 := hcv w1 (Below.refl _ _)
    have HDL : Hid ((us.drop m).length = n - m) := Lib.hid (by rw [List.length_drop, HL.out])
    have HDO : Hid (Oct (us.drop m)) := Lib.hid (fun z hz => HO.out z (List.mem_of_mem_drop hz))
    have HLA := Lib.hid (ls_add HS.out m)
    clear hcv
    by_cases hcm : c = m
    · have hnm : n - m = 0 := by omega
      have HZ : Hid (us.drop m = []) := Lib.hid (List.eq_nil_of_length_eq_zero (by rw [HDL.out]; exact hnm))
      subst hcm
      go_wp2_with fail
      go_ret
      try rw [if_neg HC.out]
      refine ⟨HON.out.setCell (.inl rfl) _, rfl, ?_⟩
      rw [HZ.out]
      exact ⟨_, _, _, HX.out.set 0 _, Ls.nil _ _, rfl, by omega, by omega, HA.out, fun z h => by cases h⟩
    · go_wp2_with fail
      go_ret
      try rw [if_neg HC.out]
      refine ⟨HON.out.setCell (.inl rfl) _, rfl, ?_⟩
      exact ⟨_, _, _, HX.out.set 0 _, HLA.out.only ((Only.refl (fun j => j = R) w1).setCell (.inl rfl) _) (((kin_add A m) _ HA.out).mono fun k hk => by have hk : k = R := hk; show R ≤ k; omega), HDL.out, by omega, by omega, (kin_add A m) _ HA.out, HDO.out⟩

end Go.Proofs.Ytelfnlocgknpjaa
