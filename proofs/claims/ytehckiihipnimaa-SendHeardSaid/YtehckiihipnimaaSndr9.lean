/-
  The program's sender: poll, where nothing is to be sent again.
-/
import Derived.Test.YtehckiihipnimaaSndr8
namespace Go.Proofs.Ytehckiihipnimaa
open Go.RowKit
set_option linter.unusedVariables false
set_option linter.unusedSimpArgs false

/-- what is to be sent for the first time lies in a box -/
def PnX (w : World) (sn : Nat) (E : Int) (p : Value) (wx : World) : Prop :=
  ∃ q, p = .pointer (some ⟨q, 0, none⟩) ∧ w.heap.size ≤ q ∧ Bx 44 wx q #[.int .i64 sn, .int .i64 E] ∧ Below w.heap.size w wx

set_option maxRecDepth 100000 in
set_option maxHeartbeats 2000000 in
theorem poll_idle (w : World) (T : Nat → Prop) (B : Nat) (dt : List Int) (cl : Bool) (sn ag : Nat) (dn : Int) (bt : List Rg) (ed : Int) (h : SM w T B dt cl sn ag dn bt ed) (hl : dt.length ≤ 1048575) (hbl : bt.length ≤ 16) (f : Bool) (a b : Nat) (hr : (f, ((a : Int), (b : Int))) = mb (max dn ag) sn bt)
    (hab : ¬ a < b) (E : Nat) (hE : (E : Int) = min ed ((dt.length + (if cl then 1 else 0) : Nat) : Int)) (hlt : ¬ sn < E) :
    Calls Try.prog 49 #[.pointer (some ⟨B, 0, none⟩)] w (PollX w T B { st0 with idle := true } dt cl sn ag dn bt ed) := by
  have hB := h.lt
  have H := Lib.hid h
  have HMS : Hid (∀ w', Below w.heap.size w w' → Calls Try.prog 69 #[.pointer (some ⟨B, 0, none⟩)] w' fun e w'' => e = .returned (.agg #[.int .i64 a, .int .i64 b]) ∧ Below w'.heap.size w' w'') := Lib.hid (fun w' hw => missing_any w' T B dt cl sn ag dn bt ed (h.new hw) hbl f a b hr)
  obtain ⟨pl, hpl⟩ : ∃ p : Nat, p = dt.length + (if cl then 1 else 0) := ⟨_, rfl⟩
  rw [← hpl] at hE
  have HPL : Hid (∀ w', Below w.heap.size w w' → Calls Try.prog 71 #[.pointer (some ⟨B, 0, none⟩)] w' fun e w'' => e = .returned (.int .i64 pl) ∧ w' = w'') := Lib.hid (fun w' hw => splaces_any w' T B dt cl sn ag dn bt ed (h.new hw) hl pl hpl)
  clear h hl hbl hr hpl
  go_enter Try.func49, Try.ntmps49
  go_upto_region 2 with fail
  obtain ⟨q2, hq2⟩ : ∃ q, q = w.heap.size := ⟨_, rfl⟩
  obtain ⟨w1, hw1⟩ : ∃ w1, w1 = (w.alloc (.cells #[.int .i64 0, .int .i64 0, .slice none 0 0, .bool false, .bool false, .bool false, .int .i64 0] 29)).alloc (.cells #[.int .i64 0, .int .i64 0, .slice none 0 0, .bool false, .bool false, .bool false, .int .i64 0] 29) := ⟨_, rfl⟩
  have HB1 : Hid (Below w.heap.size w w1) := Lib.hid (by rw [hw1]; exact bthen (ba1 _ _) (ba1 _ _))
  have HX2 : Hid (Bx 29 w1 q2 #[.int .i64 0, .int .i64 0, .slice none 0 0, .bool false, .bool false, .bool false, .int .i64 0]) := Lib.hid (by rw [hw1, hq2]; exact (bx_new _ _ _).below (ba1 _ _))
  have HX3 : Hid (Bx 29 w1 (q2 + 1) #[.int .i64 0, .int .i64 0, .slice none 0 0, .bool false, .bool false, .bool false, .int .i64 0]) := Lib.hid (by
    rw [hw1, hq2]
    have := bx_new (w.alloc (.cells #[.int .i64 0, .int .i64 0, .slice none 0 0, .bool false, .bool false, .bool false, .int .i64 0] 29)) 29 #[.int .i64 0, .int .i64 0, .slice none 0 0, .bool false, .bool false, .bool false, .int .i64 0]
    rw [World.size_alloc] at this
    exact this)
  have hs1 : w1.heap.size = q2 + 2 := by rw [hw1, hq2]; simp
  rw [← hw1, ← hq2]
  obtain ⟨q3, hq3⟩ : ∃ q, q2 + 1 = q := ⟨_, rfl⟩
  rw [hq3] at HX3 ⊢
  have HQ2 := Lib.hid hq2
  have HQ3 := Lib.hid hq3
  have HS1 := Lib.hid hs1
  have hBq2 : B < q2 := by omega
  have nB2 : ¬ B = q2 := by omega
  have n2B : ¬ q2 = B := by omega
  have nB3 : ¬ B = q3 := by omega
  have n3B : ¬ q3 = B := by omega
  have n23 : ¬ q2 = q3 := by omega
  have n32 : ¬ q3 = q2 := by omega
  clear hw1 hq2 hq3 hs1 hB
  have habi : ¬ (a : Int) < (b : Int) := by omega
  go_upto_region 3 with (go_at_call 69; refine (HMS.out w1 HB1.out).mono ?_; rintro e w2 ⟨rfl, hb2⟩; have HB2 := Lib.hid hb2; clear hb2)
  obtain ⟨q4, hq4⟩ : ∃ q, q = w2.heap.size := ⟨_, rfl⟩
  obtain ⟨w3, hw3⟩ : ∃ w3, w3 = w2.alloc (.cells #[.int .i64 a, .int .i64 b] 44) := ⟨_, rfl⟩
  have HX4 : Hid (Bx 44 w3 q4 #[.int .i64 a, .int .i64 b]) := Lib.hid (by rw [hw3, hq4]; exact bx_new _ _ _)
  have HB3 : Hid (Below w1.heap.size w1 w3) := Lib.hid (by rw [hw3]; exact bthen HB2.out (ba1 _ _))
  rw [← hw3, ← hq4]
  have HBw3 : Hid (Below w.heap.size w w3) := Lib.hid (bthen HB1.out HB3.out)
  have hq24 : q3 < q4 := by rw [hq4]; exact Nat.lt_of_lt_of_le HX3.out.lt HB2.out.size
  clear hw3 hq4
  have r0 := HX4.out.cell 0 (.int .i64 a) rfl
  have r1 := HX4.out.cell 1 (.int .i64 b) rfl
  have l4 := HX4.out.lt
  have hm3 := H.out.new HBw3.out
  obtain ⟨D3, dc3, Y3, yc3, ⟨-, -, m2, -, -, -, m6⟩, -, -, -⟩ := hm3.cells
  have hB3 := hm3.lt
  have HM3 := Lib.hid hm3
  clear hm3
  go_upto_region 7 with fail
  clear r0 r1 l4
  go_cut [5] (fun p wx => PnX w3 sn E p wx)
  case first =>
    have HW1 : Hid (Below w.heap.size w w3.drew) := Lib.hid (HBw3.out.drew)
    have b0 := cell_drew1 m2
    have b1 := cell_drew1 m6
    go_region_held3 (fun w' => w'.cell? ⟨B, 2, none⟩ = some (.int .i64 sn) ∧ w'.cell? ⟨B, 6, none⟩ = some (.int .i64 ed)) (first | (with_reducible exact ⟨b0, b1⟩) | (with_reducible exact ⟨cell_alloc1 b0, cell_alloc1 b1⟩) | (with_reducible exact ⟨cell_drew1 (cell_alloc1 m2), cell_drew1 (cell_alloc1 m6)⟩) | go_keep) (first
      | (go_at_call 71; (with_reducible refine (HPL.out w3.drew HW1.out).mono ?_); rintro e w5 ⟨rfl, rfl⟩)
      | (go_at_call 71; refine (HPL.out _ ((HBw3.out.alloc HBw3.out.size _).drew)).mono ?_; rintro e w5 ⟨rfl, rfl⟩))
    all_goals
      rw [show (if (pl : Int) < ed then (pl : Int) else ed) = (E : Int) by split <;> omega]
      go_wp2_with fail
    all_goals
      go_meet
    all_goals
      exact ⟨w3.heap.size, rfl, Nat.le_refl _, (bx_new w3 _ _).below (Below.refl _ _).drew, (ba1 _ _).drew⟩
  case rest =>
    obtain ⟨q5, rfl, hq5, hx5, hbc⟩ := hcut
    have HX5 := Lib.hid hx5
    have HBC := Lib.hid hbc
    have hx2 : Bx 29 wc q2 #[.int .i64 0, .int .i64 0, .slice none 0 0, .bool false, .bool false, .bool false, .int .i64 0] := HX2.out.below (bthen HB3.out hbc)
    have HX2c := Lib.hid hx2
    have hx3 : Bx 29 wc q3 #[.int .i64 0, .int .i64 0, .slice none 0 0, .bool false, .bool false, .bool false, .int .i64 0] := HX3.out.below (bthen HB3.out hbc)
    have HX3c := Lib.hid hx3
    have HMc : Hid (SM wc T B dt cl sn ag dn bt ed) := Lib.hid (HM3.out.new hbc)
    have HBwc : Hid (Below w.heap.size w wc) := Lib.hid (bthen HBw3.out hbc)
    have r0 := hx5.cell 0 (.int .i64 sn) rfl
    have r1 := hx5.cell 1 (.int .i64 E) rfl
    have l5 := hx5.lt
    have l3 := hx3.lt
    have l2 := hx2.lt
    have l4 := HX4.out.lt
    have hq35 : q3 < q5 := by omega
    clear l4
    clear hbc hx5 hx2 hx3 m2 m6 hE
    have hlti : (E : Int) ≤ (sn : Int) := by omega
    have z0 := HX2c.out.cell 0 (.int .i64 0) rfl
    have z1 := HX2c.out.cell 1 (.int .i64 0) rfl
    have z2 := HX2c.out.cell 2 (.slice none 0 0) rfl
    have z3 := HX2c.out.cell 3 (.bool false) rfl
    have z4 := HX2c.out.cell 4 (.bool false) rfl
    have z5 := HX2c.out.cell 5 (.bool false) rfl
    have z6 := HX2c.out.cell 6 (.int .i64 0) rfl
    have t0 := HX2c.out.soft 0
    have t1 := HX2c.out.soft 1
    have t2 := HX2c.out.soft 2
    have t3 := HX2c.out.soft 3
    have t4 := HX2c.out.soft 4
    have t5 := HX2c.out.soft 5
    have t6 := HX2c.out.soft 6
    obtain ⟨W, hW⟩ : ∃ W, W = put7 wc q2 (.int .i64 0) (.int .i64 0) (.slice none 0 0) (.bool false) (.bool false) (.bool true) (.int .i64 0) := ⟨_, rfl⟩
    have HXW : Hid (Bx 29 W q2 #[.int .i64 0, .int .i64 0, .slice none 0 0, .bool false, .bool false, .bool true, .int .i64 0]) := Lib.hid (by rw [hW]; exact HX2c.out.put7 _ _ _ _ _ _ _)
    have HNW : Hid (Only (fun k => k = q2) wc W) := Lib.hid (by rw [hW]; exact only_put7 _ _ _ _ _ _ _ _ _)
    go_wp2_with fail
    unfold put7 at hW
    rw [← hW]
    clear hW z0 z1 z2 z3 z4 z5 z6 t0 t1 t2 t3 t4 t5 t6 r0 r1 l5 l3 l2
    have r0 := HXW.out.cell 0 (.int .i64 0) rfl
    have r1 := HXW.out.cell 1 (.int .i64 0) rfl
    have r2 := HXW.out.cell 2 (.slice none 0 0) rfl
    have r3 := HXW.out.cell 3 (.bool false) rfl
    have r4 := HXW.out.cell 4 (.bool false) rfl
    have r5 := HXW.out.cell 5 (.bool true) rfl
    have r6 := HXW.out.cell 6 (.int .i64 0) rfl
    refine end_ret (v := .agg #[.int .i64 0, .int .i64 0, .slice none 0 0, .bool false, .bool false, .bool true, .int .i64 0]) (by simp [results, Try.results49, go_sem, r0, r1, r2, r3, r4, r5, r6]) ?_
    have hq2 := HQ2.out
    refine ⟨none, 0, 0, rfl, OwnL.nil _ _, ?_, ?_⟩
    · have hc : SM wc (fun k => T k ∨ w.heap.size ≤ k) B dt cl sn ag dn bt ed := H.out.only (S := fun _ => False) (only_new HBwc.out) (fun _ h => h.elim) (fun k hk => hk)
      exact hc.only HNW.out (fun k hk => .inl (.inr (by omega))) (fun k hk => .inl hk)
    · exact Only.trans (only_new HBwc.out) HNW.out (fun j hj => .inr (by omega))

set_option maxRecDepth 100000 in
set_option maxHeartbeats 2000000 in
theorem poll_new (w : World) (T : Nat → Prop) (B : Nat) (dt : List Int) (cl : Bool) (sn ag : Nat) (dn : Int) (bt : List Rg) (ed : Int) (h : SM w T B dt cl sn ag dn bt ed) (hl : dt.length ≤ 1048575) (hbl : bt.length ≤ 16) (f : Bool) (a b : Nat) (hr : (f, ((a : Int), (b : Int))) = mb (max dn ag) sn bt)
    (hab : ¬ a < b) (E : Nat) (hE : (E : Int) = min ed ((dt.length + (if cl then 1 else 0) : Nat) : Int)) (hlt : sn < E) (hsn : sn ≤ dt.length) (hE1 : E ≤ dt.length + 1) (tz : Nat) (fin : Bool) (hto : tz = upTo sn E dt.length) (hfin : fin = decide (tz = dt.length ∧ tz < E)) (bs : List Int) (hbs : bs = (dt.drop sn).take (tz - sn)) (ag' : Nat) (hag : ag' = tz + (if fin then 1 else 0)) :
    Calls Try.prog 49 #[.pointer (some ⟨B, 0, none⟩)] w (PollX w T B ⟨0, sn, bs, fin, false, false, 0⟩ dt cl ag' ag' dn bt ed) := by
  have hB := h.lt
  have H := Lib.hid h
  have HMS : Hid (∀ w', Below w.heap.size w w' → Calls Try.prog 69 #[.pointer (some ⟨B, 0, none⟩)] w' fun e w'' => e = .returned (.agg #[.int .i64 a, .int .i64 b]) ∧ Below w'.heap.size w' w'') := Lib.hid (fun w' hw => missing_any w' T B dt cl sn ag dn bt ed (h.new hw) hbl f a b hr)
  obtain ⟨pl, hpl⟩ : ∃ p : Nat, p = dt.length + (if cl then 1 else 0) := ⟨_, rfl⟩
  rw [← hpl] at hE
  have HPL : Hid (∀ w', Below w.heap.size w w' → Calls Try.prog 71 #[.pointer (some ⟨B, 0, none⟩)] w' fun e w'' => e = .returned (.int .i64 pl) ∧ w' = w'') := Lib.hid (fun w' hw => splaces_any w' T B dt cl sn ag dn bt ed (h.new hw) hl pl hpl)
  have HPC : Hid (∀ w', Below w.heap.size w w' → Calls Try.prog 70 #[.pointer (some ⟨B, 0, none⟩), .agg #[.int .i64 sn, .int .i64 E]] w' fun e w'' => ∃ A n c, e = .returned (.tuple #[.agg #[.int .i64 0, .int .i64 sn, .slice A n c, .bool fin, .bool false, .bool false, .int .i64 0], .int .i64 ag']) ∧ OwnL byS 5 w'' w'.heap.size A n c bs ∧ Below w'.heap.size w' w'') := Lib.hid (fun w' hw => by
    rw [hbs, hag]; exact piece_any w' T B dt cl sn ag dn bt ed (h.new hw) hl sn E tz fin hsn (by omega) hE1 hto hfin)
  clear h hl hbl hr hpl hto hfin hbs hag hsn hE1
  go_enter Try.func49, Try.ntmps49
  go_upto_region 2 with fail
  obtain ⟨q2, hq2⟩ : ∃ q, q = w.heap.size := ⟨_, rfl⟩
  obtain ⟨w1, hw1⟩ : ∃ w1, w1 = (w.alloc (.cells #[.int .i64 0, .int .i64 0, .slice none 0 0, .bool false, .bool false, .bool false, .int .i64 0] 29)).alloc (.cells #[.int .i64 0, .int .i64 0, .slice none 0 0, .bool false, .bool false, .bool false, .int .i64 0] 29) := ⟨_, rfl⟩
  have HB1 : Hid (Below w.heap.size w w1) := Lib.hid (by rw [hw1]; exact bthen (ba1 _ _) (ba1 _ _))
  have HX2 : Hid (Bx 29 w1 q2 #[.int .i64 0, .int .i64 0, .slice none 0 0, .bool false, .bool false, .bool false, .int .i64 0]) := Lib.hid (by rw [hw1, hq2]; exact (bx_new _ _ _).below (ba1 _ _))
  have HX3 : Hid (Bx 29 w1 (q2 + 1) #[.int .i64 0, .int .i64 0, .slice none 0 0, .bool false, .bool false, .bool false, .int .i64 0]) := Lib.hid (by
    rw [hw1, hq2]
    have := bx_new (w.alloc (.cells #[.int .i64 0, .int .i64 0, .slice none 0 0, .bool false, .bool false, .bool false, .int .i64 0] 29)) 29 #[.int .i64 0, .int .i64 0, .slice none 0 0, .bool false, .bool false, .bool false, .int .i64 0]
    rw [World.size_alloc] at this
    exact this)
  have hs1 : w1.heap.size = q2 + 2 := by rw [hw1, hq2]; simp
  rw [← hw1, ← hq2]
  obtain ⟨q3, hq3⟩ : ∃ q, q2 + 1 = q := ⟨_, rfl⟩
  rw [hq3] at HX3 ⊢
  have HQ2 := Lib.hid hq2
  have HQ3 := Lib.hid hq3
  have HS1 := Lib.hid hs1
  have hBq2 : B < q2 := by omega
  have nB2 : ¬ B = q2 := by omega
  have n2B : ¬ q2 = B := by omega
  have nB3 : ¬ B = q3 := by omega
  have n3B : ¬ q3 = B := by omega
  have n23 : ¬ q2 = q3 := by omega
  have n32 : ¬ q3 = q2 := by omega
  clear hw1 hq2 hq3 hs1 hB
  have habi : ¬ (a : Int) < (b : Int) := by omega
  go_upto_region 3 with (go_at_call 69; refine (HMS.out w1 HB1.out).mono ?_; rintro e w2 ⟨rfl, hb2⟩; have HB2 := Lib.hid hb2; clear hb2)
  obtain ⟨q4, hq4⟩ : ∃ q, q = w2.heap.size := ⟨_, rfl⟩
  obtain ⟨w3, hw3⟩ : ∃ w3, w3 = w2.alloc (.cells #[.int .i64 a, .int .i64 b] 44) := ⟨_, rfl⟩
  have HX4 : Hid (Bx 44 w3 q4 #[.int .i64 a, .int .i64 b]) := Lib.hid (by rw [hw3, hq4]; exact bx_new _ _ _)
  have HB3 : Hid (Below w1.heap.size w1 w3) := Lib.hid (by rw [hw3]; exact bthen HB2.out (ba1 _ _))
  rw [← hw3, ← hq4]
  have HBw3 : Hid (Below w.heap.size w w3) := Lib.hid (bthen HB1.out HB3.out)
  have hq24 : q3 < q4 := by rw [hq4]; exact Nat.lt_of_lt_of_le HX3.out.lt HB2.out.size
  clear hw3 hq4
  have r0 := HX4.out.cell 0 (.int .i64 a) rfl
  have r1 := HX4.out.cell 1 (.int .i64 b) rfl
  have l4 := HX4.out.lt
  have hm3 := H.out.new HBw3.out
  obtain ⟨D3, dc3, Y3, yc3, ⟨-, -, m2, -, -, -, m6⟩, -, -, -⟩ := hm3.cells
  have hB3 := hm3.lt
  have HM3 := Lib.hid hm3
  clear hm3
  go_upto_region 7 with fail
  clear r0 r1 l4
  go_cut [5] (fun p wx => PnX w3 sn E p wx)
  case first =>
    have HW1 : Hid (Below w.heap.size w w3.drew) := Lib.hid (HBw3.out.drew)
    have b0 := cell_drew1 m2
    have b1 := cell_drew1 m6
    go_region_held3 (fun w' => w'.cell? ⟨B, 2, none⟩ = some (.int .i64 sn) ∧ w'.cell? ⟨B, 6, none⟩ = some (.int .i64 ed)) (first | (with_reducible exact ⟨b0, b1⟩) | (with_reducible exact ⟨cell_alloc1 b0, cell_alloc1 b1⟩) | (with_reducible exact ⟨cell_drew1 (cell_alloc1 m2), cell_drew1 (cell_alloc1 m6)⟩) | go_keep) (first
      | (go_at_call 71; (with_reducible refine (HPL.out w3.drew HW1.out).mono ?_); rintro e w5 ⟨rfl, rfl⟩)
      | (go_at_call 71; refine (HPL.out _ ((HBw3.out.alloc HBw3.out.size _).drew)).mono ?_; rintro e w5 ⟨rfl, rfl⟩))
    all_goals
      rw [show (if (pl : Int) < ed then (pl : Int) else ed) = (E : Int) by split <;> omega]
      go_wp2_with fail
    all_goals
      go_meet
    all_goals
      exact ⟨w3.heap.size, rfl, Nat.le_refl _, (bx_new w3 _ _).below (Below.refl _ _).drew, (ba1 _ _).drew⟩
  case rest =>
    obtain ⟨q5, rfl, hq5, hx5, hbc⟩ := hcut
    have HX5 := Lib.hid hx5
    have HBC := Lib.hid hbc
    have hx2 : Bx 29 wc q2 #[.int .i64 0, .int .i64 0, .slice none 0 0, .bool false, .bool false, .bool false, .int .i64 0] := HX2.out.below (bthen HB3.out hbc)
    have HX2c := Lib.hid hx2
    have hx3 : Bx 29 wc q3 #[.int .i64 0, .int .i64 0, .slice none 0 0, .bool false, .bool false, .bool false, .int .i64 0] := HX3.out.below (bthen HB3.out hbc)
    have HX3c := Lib.hid hx3
    have HMc : Hid (SM wc T B dt cl sn ag dn bt ed) := Lib.hid (HM3.out.new hbc)
    have HBwc : Hid (Below w.heap.size w wc) := Lib.hid (bthen HBw3.out hbc)
    have r0 := hx5.cell 0 (.int .i64 sn) rfl
    have r1 := hx5.cell 1 (.int .i64 E) rfl
    have l5 := hx5.lt
    have l3 := hx3.lt
    have l2 := hx2.lt
    have l4 := HX4.out.lt
    have hq35 : q3 < q5 := by omega
    clear l4
    clear hbc hx5 hx2 hx3 m2 m6 hE
    have hlti : ¬ (E : Int) ≤ (sn : Int) := by omega
    go_upto_region 11 with (go_at_call 70; (with_reducible refine (HPC.out wc HBwc.out).mono ?_); rintro e w5 ⟨A5, n5, c5, rfl, ho5, hb5⟩; have HO5 := Lib.hid ho5; have HB5 := Lib.hid hb5; have hx2 := HX2c.out.below hb5; have hx3 := HX3c.out.below hb5; have HX25 := Lib.hid hx2; have HX35 := Lib.hid hx3; have hm5 := HMc.out.new hb5; have HM5 := Lib.hid hm5; obtain ⟨D5, dc5, Y5, yc5, ⟨m0, m1, m2, m3, m4, m5, m6⟩, hmf, -, -⟩ := hm5.cells; have mf := hmf 2; have hBl := hm5.lt; have y0 := hx3.cell 0 (.int .i64 0) rfl; have y1 := hx3.cell 1 (.int .i64 0) rfl; have y2 := hx3.cell 2 (.slice none 0 0) rfl; have y3 := hx3.cell 3 (.bool false) rfl; have y4 := hx3.cell 4 (.bool false) rfl; have y5 := hx3.cell 5 (.bool false) rfl; have y6 := hx3.cell 6 (.int .i64 0) rfl; have s0 := hx3.soft 0; have s1 := hx3.soft 1; have s2 := hx3.soft 2; have s3 := hx3.soft 3; have s4 := hx3.soft 4; have s5 := hx3.soft 5; have s6 := hx3.soft 6; have hl3 := hx3.lt; clear ho5 hb5 hx2 hx3 hm5 hmf r0 r1 l5 l3 l2)
    obtain ⟨W1, hW1⟩ : ∃ W1, W1 = put7 w5 q3 (.int .i64 0) (.int .i64 sn) (.slice A5 n5 c5) (.bool fin) (.bool false) (.bool false) (.int .i64 0) := ⟨_, rfl⟩
    have HX31 : Hid (Bx 29 W1 q3 #[.int .i64 0, .int .i64 sn, .slice A5 n5 c5, .bool fin, .bool false, .bool false, .int .i64 0]) := Lib.hid (by rw [hW1]; exact HX35.out.put7 _ _ _ _ _ _ _)
    have HN1 : Hid (Only (fun k => k = q3) w5 W1) := Lib.hid (by rw [hW1]; exact only_put7 _ _ _ _ _ _ _ _ _)
    have HM1 : Hid (SM W1 (fun k => T k ∨ w.heap.size ≤ k) B dt cl sn ag dn bt ed) := Lib.hid (by
      have h5 : SM w5 (fun k => T k ∨ w.heap.size ≤ k) B dt cl sn ag dn bt ed := H.out.only (S := fun _ => False) (only_new (bthen HBwc.out HB5.out)) (fun _ h => h.elim) (fun k hk => hk)
      exact h5.only HN1.out (fun k hk => .inl (.inr (by subst hk; have := HQ2.out; have := HQ3.out; omega))) (fun k hk => .inl hk))
    obtain ⟨W2, hW2⟩ : ∃ W2, W2 = W1.setCell ⟨B, 2, none⟩ (.int .i64 ag') := ⟨_, rfl⟩
    have HX32 : Hid (Bx 29 W2 q3 #[.int .i64 0, .int .i64 sn, .slice A5 n5 c5, .bool fin, .bool false, .bool false, .int .i64 0]) := Lib.hid (by rw [hW2]; exact HX31.out.other n3B _)
    have HN2 : Hid (Only (fun k => k = B ∨ k = q3) w5 W2) := Lib.hid (by rw [hW2]; exact (HN1.out.mono (fun k hk => .inr hk)).set' (.inl rfl) _ _)
    have HM2 : Hid (SM W2 (fun k => T k ∨ w.heap.size ≤ k) B dt cl ag' ag dn bt ed) := Lib.hid (by rw [hW2]; exact HM1.out.set 2 _ _ _ _ _ _ (fun _ _ _ _ => rfl))
    unfold put7 at hW1
    rw [hW1] at hW2
    rw [← hW2]
    clear hW1 hW2 y0 y1 y2 y3 y4 y5 y6 s0 s1 s2 s3 s4 s5 s6 m0 m1 m2 m3 m4 m5 m6 mf hBl hl3
    obtain ⟨D5, dc5, Y5, yc5, ⟨-, -, m2, m3, -, -, -⟩, hmf, -, -⟩ := HM2.out.cells
    have mf := hmf 3
    have hBl := HM2.out.lt
    clear hmf
    obtain ⟨W3, hW3⟩ : ∃ W3, W3 = W2.setCell ⟨B, 3, none⟩ (.int .i64 ag') := ⟨_, rfl⟩
    have HX33 : Hid (Bx 29 W3 q3 #[.int .i64 0, .int .i64 sn, .slice A5 n5 c5, .bool fin, .bool false, .bool false, .int .i64 0]) := Lib.hid (by rw [hW3]; exact HX32.out.other n3B _)
    have HN3 : Hid (Only (fun k => k = B ∨ k = q3) w5 W3) := Lib.hid (by rw [hW3]; exact HN2.out.set' (.inl rfl) _ _)
    have HM3' : Hid (SM W3 (fun k => T k ∨ w.heap.size ≤ k) B dt cl ag' ag' dn bt ed) := Lib.hid (by rw [hW3]; exact HM2.out.set 3 _ _ _ _ _ _ (fun _ _ _ _ => rfl))
    have HX23 : Hid (Bx 29 W3 q2 #[.int .i64 0, .int .i64 0, .slice none 0 0, .bool false, .bool false, .bool false, .int .i64 0]) := Lib.hid (HX25.out.only HN3.out (fun h => h.elim n2B n23))
    go_upto_region 12 with fail
    rw [← hW3]
    clear hW3 m2 m3 mf hBl
    have y0 := HX33.out.cell 0 (.int .i64 0) rfl
    have y1 := HX33.out.cell 1 (.int .i64 sn) rfl
    have y2 := HX33.out.cell 2 (.slice A5 n5 c5) rfl
    have y3 := HX33.out.cell 3 (.bool fin) rfl
    have y4 := HX33.out.cell 4 (.bool false) rfl
    have y5 := HX33.out.cell 5 (.bool false) rfl
    have y6 := HX33.out.cell 6 (.int .i64 0) rfl
    have hl3 := HX33.out.lt
    have z0 := HX23.out.cell 0 (.int .i64 0) rfl
    have z1 := HX23.out.cell 1 (.int .i64 0) rfl
    have z2 := HX23.out.cell 2 (.slice none 0 0) rfl
    have z3 := HX23.out.cell 3 (.bool false) rfl
    have z4 := HX23.out.cell 4 (.bool false) rfl
    have z5 := HX23.out.cell 5 (.bool false) rfl
    have z6 := HX23.out.cell 6 (.int .i64 0) rfl
    have t0 := HX23.out.soft 0
    have t1 := HX23.out.soft 1
    have t2 := HX23.out.soft 2
    have t3 := HX23.out.soft 3
    have t4 := HX23.out.soft 4
    have t5 := HX23.out.soft 5
    have t6 := HX23.out.soft 6
    have hl2 := HX23.out.lt
    obtain ⟨W, hW⟩ : ∃ W, W = put7 W3 q2 (.int .i64 0) (.int .i64 sn) (.slice A5 n5 c5) (.bool fin) (.bool false) (.bool false) (.int .i64 0) := ⟨_, rfl⟩
    have HNW : Hid (Only (fun k => k = q2) W3 W) := Lib.hid (by rw [hW]; exact only_put7 _ _ _ _ _ _ _ _ _)
    have HXW : Hid (Bx 29 W q2 #[.int .i64 0, .int .i64 sn, .slice A5 n5 c5, .bool fin, .bool false, .bool false, .int .i64 0]) := Lib.hid (by rw [hW]; exact HX23.out.put7 _ _ _ _ _ _ _)
    go_wp2_with fail
    unfold put7 at hW
    rw [← hW]
    clear hW y0 y1 y2 y3 y4 y5 y6 z0 z1 z2 z3 z4 z5 z6 t0 t1 t2 t3 t4 t5 t6
    have r0 := HXW.out.cell 0 (.int .i64 0) rfl
    have r1 := HXW.out.cell 1 (.int .i64 sn) rfl
    have r2 := HXW.out.cell 2 (.slice A5 n5 c5) rfl
    have r3 := HXW.out.cell 3 (.bool fin) rfl
    have r4 := HXW.out.cell 4 (.bool false) rfl
    have r5 := HXW.out.cell 5 (.bool false) rfl
    have r6 := HXW.out.cell 6 (.int .i64 0) rfl
    refine end_ret (v := .agg #[.int .i64 0, .int .i64 sn, .slice A5 n5 c5, .bool fin, .bool false, .bool false, .int .i64 0]) (by simp [results, Try.results49, go_sem, r0, r1, r2, r3, r4, r5, r6]) ?_
    have hq2 := HQ2.out
    have hq3 := HQ3.out
    have hzc := HBwc.out.size
    have hw35 : q3 < wc.heap.size := HX3c.out.lt
    have HZ : Only (fun k => k = B ∨ k = q2 ∨ k = q3) w5 W := (HN3.out.mono (fun k hk => by rcases hk with hk | hk
                                                                                            · exact .inl hk
                                                                                            · exact .inr (.inr hk))).trans HNW.out (fun k hk => .inl (.inr (.inl hk)))
    refine ⟨A5, n5, c5, rfl, (HO5.out.only HZ (fun k hk hs => by have := (HO5.out.lt k hk).1; omega)).base hzc, HM3'.out.only HNW.out (fun k hk => .inl (.inr (by omega))) (fun k hk => .inl hk), ?_⟩
    refine Only.trans (only_new (bthen HBwc.out HB5.out)) HZ (fun j hj => ?_)
    rcases hj with hj | hj
    · subst hj; exact .inl ⟨Nat.le_refl _, H.out.notT⟩
    · exact .inr (by omega)

end Go.Proofs.Ytehckiihipnimaa
