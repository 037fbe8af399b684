/-
  The program's sender: poll, where something is sent again.
-/
import Derived.Test.YtehckiihipnimaaSndr3
import Derived.Test.YtehckiihipnimaaSndr7
namespace Go.Proofs.Ytehckiihipnimaa
open Go.RowKit
set_option linter.unusedVariables false
set_option linter.unusedSimpArgs false

/-- what a poll comes to, and who sends behind it -/
def PollX (w : World) (T : Nat → Prop) (B : Nat) (t : St) (dt : List Int) (cl : Bool) (sn ag : Nat) (dn : Int) (bt : List Rg) (ed : Int) (e : Ending) (w' : World) : Prop :=
  ∃ A n c, e = .returned (.agg (stC t A n c)) ∧ OwnL byS 5 w' w.heap.size A n c t.data ∧ SM w' (fun k => T k ∨ w.heap.size ≤ k) B dt cl sn ag dn bt ed ∧ Eff T B w w'

set_option maxRecDepth 100000 in
set_option maxHeartbeats 2000000 in
theorem poll_again (w : World) (T : Nat → Prop) (B : Nat) (dt : List Int) (cl : Bool) (sn ag : Nat) (dn : Int) (bt : List Rg) (ed : Int) (h : SM w T B dt cl sn ag dn bt ed) (hl : dt.length ≤ 1048575) (hbl : bt.length ≤ 16) (f : Bool) (a b : Nat) (hr : (f, ((a : Int), (b : Int))) = mb (max dn ag) sn bt)
    (hab : a < b) (ha : a ≤ dt.length) (hb : b ≤ dt.length + 1) (tz : Nat) (fin : Bool) (hto : tz = upTo a b dt.length) (hfin : fin = decide (tz = dt.length ∧ tz < b)) (bs : List Int) (hbs : bs = (dt.drop a).take (tz - a)) (ag' : Nat) (hag : ag' = tz + (if fin then 1 else 0)) :
    Calls Try.prog 49 #[.pointer (some ⟨B, 0, none⟩)] w (PollX w T B ⟨0, a, bs, fin, true, false, 0⟩ dt cl sn ag' dn bt ed) := by
  have hB := h.lt
  have H := Lib.hid h
  have HMS : Hid (∀ w', Below w.heap.size w w' → Calls Try.prog 69 #[.pointer (some ⟨B, 0, none⟩)] w' fun e w'' => e = .returned (.agg #[.int .i64 a, .int .i64 b]) ∧ Below w'.heap.size w' w'') := Lib.hid (fun w' hw => missing_any w' T B dt cl sn ag dn bt ed (h.new hw) hbl f a b hr)
  have HPC : Hid (∀ w', Below w.heap.size w w' → Calls Try.prog 70 #[.pointer (some ⟨B, 0, none⟩), .agg #[.int .i64 a, .int .i64 b]] w' fun e w'' => ∃ A n c, e = .returned (.tuple #[.agg #[.int .i64 0, .int .i64 a, .slice A n c, .bool fin, .bool false, .bool false, .int .i64 0], .int .i64 ag']) ∧ OwnL byS 5 w'' w'.heap.size A n c bs ∧ Below w'.heap.size w' w'') := Lib.hid (fun w' hw => by
    rw [hbs, hag]; exact piece_any w' T B dt cl sn ag dn bt ed (h.new hw) hl a b tz fin ha (by omega) hb hto hfin)
  clear h hl hbl hr hto hfin hbs hag ha hb
  go_enter Try.func49, Try.ntmps49
  go_upto_region 2 with fail
  obtain ⟨q2, hq2⟩ : ∃ q, q = w.heap.size := ⟨_, rfl⟩
  obtain ⟨w1, hw1⟩ : ∃ w1, w1 = (w.alloc (.cells #[.int .i64 0, .int .i64 0, .slice none 0 0, .bool false, .bool false, .bool false, .int .i64 0] 29)).alloc (.cells #[.int .i64 0, .int .i64 0, .slice none 0 0, .bool false, .bool false, .bool false, .int .i64 0] 29) := ⟨_, rfl⟩
  have HB1 : Hid (Below w.heap.size w w1) := Lib.hid (by rw [hw1]; exact bthen (ba1 _ _) (ba1 _ _))
  have HX2 : Hid (Bx 29 w1 q2 #[.int .i64 0, .int .i64 0, .slice none 0 0, .bool false, .bool false, .bool false, .int .i64 0]) := Lib.hid (by rw [hw1, hq2]; exact (bx_new _ _ _).below (ba1 _ _))
  have HX3 : Hid (Bx 29 w1 (q2 + 1) #[.int .i64 0, .int .i64 0, .slice none 0 0, .bool false, .bool false, .bool false, .int .i64 0]) := Lib.hid (by
    rw [hw1, hq2]
    have := bx_new (w.alloc (.cells #[.int .i64 0, .int .i64 0, .slice none 0 0, .bool false, .bool false, .bool false, .int .i64 0] 29)) 29 #[.int .i64 0, .int .i64 0, .slice none 0 0, .bool false, .bool false, .bool false, .int .i64 0]
    rw [World.size_alloc] at this
    exact this)
  have hs1 : w1.heap.size = q2 + 2 := by rw [hw1, hq2]; simp
  rw [← hw1, ← hq2]
  obtain ⟨q3, hq3⟩ : ∃ q, q2 + 1 = q := ⟨_, rfl⟩
  rw [hq3] at HX3 ⊢
  have HQ2 := Lib.hid hq2
  have HQ3 := Lib.hid hq3
  have HS1 := Lib.hid hs1
  have hBq2 : B < q2 := by omega
  have nB2 : ¬ B = q2 := by omega
  have n2B : ¬ q2 = B := by omega
  have nB3 : ¬ B = q3 := by omega
  have n3B : ¬ q3 = B := by omega
  have n23 : ¬ q2 = q3 := by omega
  have n32 : ¬ q3 = q2 := by omega
  clear hw1 hq2 hq3 hs1 hB
  have habi : (a : Int) < (b : Int) := by omega
  go_upto_region 3 with (go_at_call 69; refine (HMS.out w1 HB1.out).mono ?_; rintro e w2 ⟨rfl, hb2⟩; have HB2 := Lib.hid hb2; clear hb2)
  obtain ⟨q4, hq4⟩ : ∃ q, q = w2.heap.size := ⟨_, rfl⟩
  obtain ⟨w3, hw3⟩ : ∃ w3, w3 = w2.alloc (.cells #[.int .i64 a, .int .i64 b] 44) := ⟨_, rfl⟩
  have HX4 : Hid (Bx 44 w3 q4 #[.int .i64 a, .int .i64 b]) := Lib.hid (by rw [hw3, hq4]; exact bx_new _ _ _)
  have HB3 : Hid (Below w1.heap.size w1 w3) := Lib.hid (by rw [hw3]; exact bthen HB2.out (ba1 _ _))
  rw [← hw3, ← hq4]
  have HBw3 : Hid (Below w.heap.size w w3) := Lib.hid (bthen HB1.out HB3.out)
  have hq24 : q3 < q4 := by rw [hq4]; exact Nat.lt_of_lt_of_le HX3.out.lt HB2.out.size
  clear hw3 hq4
  have r0 := HX4.out.cell 0 (.int .i64 a) rfl
  have r1 := HX4.out.cell 1 (.int .i64 b) rfl
  have l4 := HX4.out.lt
  have HW0 := HBw3
  have hq3l := HX3.out.lt
  go_upto_region 5 with (go_at_call 70; refine (HPC.out w3 HBw3.out).mono ?_; rintro e w5 ⟨A5, n5, c5, rfl, ho5, hb5⟩; have HO5 := Lib.hid ho5; have HB5 := Lib.hid hb5; have hb35 : Below w1.heap.size w1 w5 := bthen HB3.out hb5; have hx2 := HX2.out.below hb35; have hx3 := HX3.out.below hb35; have HX25 := Lib.hid hx2; have HX35 := Lib.hid hx3; have hm5 := H.out.new (bthen HB1.out hb35); have HM5 := Lib.hid hm5; obtain ⟨D5, dc5, Y5, yc5, ⟨m0, m1, m2, m3, m4, m5, m6⟩, hmf, -, -⟩ := hm5.cells; have mf := hmf 3; have hBl := hm5.lt; have y0 := hx3.cell 0 (.int .i64 0) rfl; have y1 := hx3.cell 1 (.int .i64 0) rfl; have y2 := hx3.cell 2 (.slice none 0 0) rfl; have y3 := hx3.cell 3 (.bool false) rfl; have y4 := hx3.cell 4 (.bool false) rfl; have y5 := hx3.cell 5 (.bool false) rfl; have y6 := hx3.cell 6 (.int .i64 0) rfl; have s0 := hx3.soft 0; have s1 := hx3.soft 1; have s2 := hx3.soft 2; have s3 := hx3.soft 3; have s4 := hx3.soft 4; have s5 := hx3.soft 5; have s6 := hx3.soft 6; have hl3 := hx3.lt; clear ho5 hb5 hx2 hx3 hm5 hmf hb35 r0 r1 l4)
  obtain ⟨W1, hW1⟩ : ∃ W1, W1 = put7 w5 q3 (.int .i64 0) (.int .i64 a) (.slice A5 n5 c5) (.bool fin) (.bool false) (.bool false) (.int .i64 0) := ⟨_, rfl⟩
  have HX31 : Hid (Bx 29 W1 q3 #[.int .i64 0, .int .i64 a, .slice A5 n5 c5, .bool fin, .bool false, .bool false, .int .i64 0]) := Lib.hid (by rw [hW1]; exact HX35.out.put7 _ _ _ _ _ _ _)
  have HN1 : Hid (Only (fun k => k = q3) w5 W1) := Lib.hid (by rw [hW1]; exact only_put7 _ _ _ _ _ _ _ _ _)
  have HM1 : Hid (SM W1 (fun k => T k ∨ w.heap.size ≤ k) B dt cl sn ag dn bt ed) := Lib.hid (by
    have h5 : SM w5 (fun k => T k ∨ w.heap.size ≤ k) B dt cl sn ag dn bt ed := H.out.only (S := fun _ => False) (only_new (bthen HB1.out (bthen HB3.out HB5.out))) (fun _ h => h.elim) (fun k hk => hk)
    exact h5.only HN1.out (fun k hk => .inl (.inr (by subst hk; have := HQ2.out; have := HQ3.out; omega))) (fun k hk => .inl hk))
  obtain ⟨W2, hW2⟩ : ∃ W2, W2 = W1.setCell ⟨B, 3, none⟩ (.int .i64 ag') := ⟨_, rfl⟩
  have HX32 : Hid (Bx 29 W2 q3 #[.int .i64 0, .int .i64 a, .slice A5 n5 c5, .bool fin, .bool false, .bool false, .int .i64 0]) := Lib.hid (by rw [hW2]; exact HX31.out.other n3B _)
  have HN2 : Hid (Only (fun k => k = B ∨ k = q3) w5 W2) := Lib.hid (by rw [hW2]; exact (HN1.out.mono (fun k hk => .inr hk)).set' (.inl rfl) _ _)
  have HM2 : Hid (SM W2 (fun k => T k ∨ w.heap.size ≤ k) B dt cl sn ag' dn bt ed) := Lib.hid (by rw [hW2]; exact HM1.out.set 3 _ _ _ _ _ _ (fun _ _ _ _ => rfl))
  have HX22 : Hid (Bx 29 W2 q2 #[.int .i64 0, .int .i64 0, .slice none 0 0, .bool false, .bool false, .bool false, .int .i64 0]) := Lib.hid (HX25.out.only HN2.out (fun h => h.elim n2B n23))
  unfold put7 at hW1
  rw [hW1] at hW2
  rw [← hW2]
  clear hW1 hW2 y0 y1 y2 y3 y4 y5 y6 s0 s1 s2 s3 s4 s5 s6 m0 m1 m2 m3 m4 m5 m6 mf hBl hl3 hq3l
  have y0 := HX32.out.cell 0 (.int .i64 0) rfl
  have y1 := HX32.out.cell 1 (.int .i64 a) rfl
  have y2 := HX32.out.cell 2 (.slice A5 n5 c5) rfl
  have y3 := HX32.out.cell 3 (.bool fin) rfl
  have y4 := HX32.out.cell 4 (.bool false) rfl
  have y5 := HX32.out.cell 5 (.bool false) rfl
  have y6 := HX32.out.cell 6 (.int .i64 0) rfl
  have s4 := HX32.out.soft 4
  have hl3 := HX32.out.lt
  have z0 := HX22.out.cell 0 (.int .i64 0) rfl
  have z1 := HX22.out.cell 1 (.int .i64 0) rfl
  have z2 := HX22.out.cell 2 (.slice none 0 0) rfl
  have z3 := HX22.out.cell 3 (.bool false) rfl
  have z4 := HX22.out.cell 4 (.bool false) rfl
  have z5 := HX22.out.cell 5 (.bool false) rfl
  have z6 := HX22.out.cell 6 (.int .i64 0) rfl
  have t0 := HX22.out.soft 0
  have t1 := HX22.out.soft 1
  have t2 := HX22.out.soft 2
  have t3 := HX22.out.soft 3
  have t4 := HX22.out.soft 4
  have t5 := HX22.out.soft 5
  have t6 := HX22.out.soft 6
  have hl2 := HX22.out.lt
  obtain ⟨W3, hW3⟩ : ∃ W3, W3 = W2.setCell ⟨q3, 4, none⟩ (.bool true) := ⟨_, rfl⟩
  obtain ⟨W, hW⟩ : ∃ W, W = put7 W3 q2 (.int .i64 0) (.int .i64 a) (.slice A5 n5 c5) (.bool fin) (.bool true) (.bool false) (.int .i64 0) := ⟨_, rfl⟩
  have HN3 : Hid (Only (fun k => k = q3) W2 W3) := Lib.hid (by rw [hW3]; exact only_set _ _ _ _)
  have HNW : Hid (Only (fun k => k = q2) W3 W) := Lib.hid (by rw [hW]; exact only_put7 _ _ _ _ _ _ _ _ _)
  have HNN : Hid (Only (fun k => k = q2 ∨ k = q3) W2 W) := Lib.hid ((HN3.out.mono (fun k hk => .inr hk)).trans HNW.out (fun k hk => .inl (.inl hk)))
  have HXW : Hid (Bx 29 W q2 #[.int .i64 0, .int .i64 a, .slice A5 n5 c5, .bool fin, .bool true, .bool false, .int .i64 0]) := Lib.hid (by rw [hW]; exact (HX22.out.only HN3.out n23).put7 _ _ _ _ _ _ _)
  go_wp2_with fail
  unfold put7 at hW
  rw [hW3] at hW
  rw [← hW]
  clear hW hW3 y0 y1 y2 y3 y4 y5 y6 s4 z0 z1 z2 z3 z4 z5 z6 t0 t1 t2 t3 t4 t5 t6
  have r0 := HXW.out.cell 0 (.int .i64 0) rfl
  have r1 := HXW.out.cell 1 (.int .i64 a) rfl
  have r2 := HXW.out.cell 2 (.slice A5 n5 c5) rfl
  have r3 := HXW.out.cell 3 (.bool fin) rfl
  have r4 := HXW.out.cell 4 (.bool true) rfl
  have r5 := HXW.out.cell 5 (.bool false) rfl
  have r6 := HXW.out.cell 6 (.int .i64 0) rfl
  refine end_ret (v := .agg #[.int .i64 0, .int .i64 a, .slice A5 n5 c5, .bool fin, .bool true, .bool false, .int .i64 0]) (by simp [results, Try.results49, go_sem, r0, r1, r2, r3, r4, r5, r6]) ?_
  have hq2 := HQ2.out
  have hq3 := HQ3.out
  have hz3 := HBw3.out.size
  have hw34 := HX4.out.lt
  have hw35 : q3 < w3.heap.size := by omega
  have HZ : Only (fun k => k = B ∨ k = q2 ∨ k = q3) w5 W := (HN2.out.mono (fun k hk => by rcases hk with hk | hk
                                                                                          · exact .inl hk
                                                                                          · exact .inr (.inr hk))).trans HNN.out (fun k hk => .inl (.inr hk))
  refine ⟨A5, n5, c5, rfl, (HO5.out.only HZ (fun k hk hs => by have := (HO5.out.lt k hk).1; omega)).base hz3, HM2.out.only HNN.out (fun k hk => .inl (.inr (by omega))) (fun k hk => .inl hk), ?_⟩
  refine Only.trans (only_new (bthen HBw3.out HB5.out)) HZ (fun j hj => ?_)
  rcases hj with hj | hj
  · subst hj; exact .inl ⟨Nat.le_refl _, H.out.notT⟩
  · exact .inr (by omega)

end Go.Proofs.Ytehckiihipnimaa
