/-
  The document's MsgAnswer.
-/
import Derived.Test.YtelfnlocgknpjaaMRefFault
namespace Go.Proofs.Ytelfnlocgknpjaa
open Go.RowKit
set_option linter.unusedVariables false
set_option linter.unusedSimpArgs false

theorem only_of_below {B : Nat} {w w' : World} (h : Below B w w') : Only (fun k => B ≤ k) w w' := ⟨h.os, h.tape, h.output, h.size, fun k hk hn => h.block k (by have hn : ¬ B ≤ k := hn; omega)⟩
theorem lsK {e : TypeId} {w w' w0 : World} {base : Nat} {A : Option Addr} {n c : Nat} {zs l : List Int} {u' : Value} {q : Nat} (h : Ls byS w (some ⟨q, 0, none⟩) l) (hs : Beside (.slice A n c) u' w w') (ho : OwnL byS e w0 base A n c zs) (hq : w0.heap.size ≤ q) (hz : w.heap.size ≤ w'.heap.size) : Ls byS w' (some ⟨q, 0, none⟩) l :=
  h.aside hs (.inr (Fre.high ho fun x hx => by injection hx with hx; subst hx; exact hq)) hz
theorem be1 (v : Int) (h : 0 ≤ v ∧ v < 256) : be 1 v = [v] := by
  rw [be_succ, be_zero, List.nil_append]
  congr 1
  omega
set_option maxRecDepth 100000 in
set_option maxHeartbeats 16000000 in
theorem refAns_any (x : Rpv) (w : World) (hin : x.In w) (hn : x.n ≤ 140737488355328) (hoz : Oct x.zs) :
    Calls Try.prog 17 #[.agg #[.int .i64 x.mrk, .int .i64 x.code, .int .i64 x.han, .int .i64 x.kd, .int .i64 x.sz, .slice x.D x.m x.d, .slice x.N x.n x.c]] w (RetAns w x) := by
  obtain ⟨w1, hw1⟩ : ∃ w1, w1 = w.alloc (.cells #[.int .i64 x.mrk, .int .i64 x.code, .int .i64 x.han, .int .i64 x.kd, .int .i64 x.sz, .slice x.D x.m x.d, .slice x.N x.n x.c] 36) := ⟨_, rfl⟩
  obtain ⟨B, hB⟩ : ∃ B, B = w.heap.size := ⟨_, rfl⟩
  have HB1 : Hid (Below w.heap.size w w1) := Lib.hid (by rw [hw1]; exact ba1 _ _)
  have HX : Hid (Bx 36 w1 B #[.int .i64 x.mrk, .int .i64 x.code, .int .i64 x.han, .int .i64 x.kd, .int .i64 x.sz, .slice x.D x.m x.d, .slice x.N x.n x.c]) := Lib.hid (by rw [hw1, hB]; exact bx_new _ _ _)
  have HBV : Hid (w.heap.size ≤ B) := Lib.hid (by omega)
  have HIN1 := Lib.hid (hin.below HB1.out)
  have HFT := Lib.hid (ansFault_any x w1 HIN1.out hn)
  obtain ⟨v, hv⟩ : ∃ v, v = x.fault := ⟨_, rfl⟩
  rw [← hv] at HFT
  have HV := Lib.hid hv
  obtain ⟨lb, b0, b1, b2, b3, b4, b5, b6, -⟩ := HX.out.cells7
  have HOZ := Lib.hid hoz
  clear hin hv hoz
  go_enter Try.func17, Try.ntmps17
  go_upto_region 1 with fail
  rw [← hw1, ← hB]
  clear hw1 hB
  by_cases hv0 : v = 0
  · subst hv0
    have HF : Hid (x.fault = 0) := Lib.hid HV.out.symm
    obtain ⟨hh, h40, hall⟩ := fault_zeroR HF.out
    obtain ⟨r0, r1, r2, r3, r4, r5⟩ := head_zero hh
    have HALL := Lib.hid hall
    have HNL : Hid (x.ns.length = x.n) := Lib.hid HIN1.out.2.2
    have HML : Hid (x.zs.length = x.m) := Lib.hid HIN1.out.1.2
    have R0 := Lib.hid r0
    have R1 := Lib.hid r1
    have R2 := Lib.hid r2
    have R3 := Lib.hid r3
    have R4 := Lib.hid r4
    have hn4 : x.n ≤ 40 := by have := HNL.out; omega
    clear hh hall r0 r1 r2 r3 r4
    go_upto_region 4 with (go_at_call 40; (with_reducible refine HFT.out.mono ?_); rintro e w2 ⟨rfl, hb2⟩; have HB2 := Lib.hid hb2; clear hb2)
    have HX2 := Lib.hid (HX.out.below HB2.out)
    have HIN2 := Lib.hid (HIN1.out.below HB2.out)
    have HBW2 : Hid (Below w.heap.size w w2) := Lib.hid (bthen HB1.out HB2.out)
    clear lb b0 b1 b2 b3 b4 b5 b6
    obtain ⟨lb, b0, b1, b2, b3, b4, b5, b6, -⟩ := HX2.out.cells7
    have wc : IntKind.u8.wrap x.code = x.code := by have := R1.out; simp [IntKind.wrap, IntKind.signed, IntKind.bits]; omega
    have wk : IntKind.u8.wrap x.kd = x.kd := by have := R3.out; simp [IntKind.wrap, IntKind.signed, IntKind.bits]; omega
    have HBM : Hid (∀ ww : World, Calls Try.prog 31 #[.int .i64 x.mrk, .int .i64 4] ww fun e w' => e = .returned (.slice (some ⟨ww.heap.size, 0, none⟩) 4 4) ∧ Wh byS 5 w' ww.heap.size (be 4 x.mrk) ∧ Below ww.heap.size ww w') := Lib.hid (fun ww => bytesOf_any 4 x.mrk ww (by omega) R0.out.1 (by have := R0.out; omega))
    have HBH : Hid (∀ ww : World, Calls Try.prog 31 #[.int .i64 x.han, .int .i64 4] ww fun e w' => e = .returned (.slice (some ⟨ww.heap.size, 0, none⟩) 4 4) ∧ Wh byS 5 w' ww.heap.size (be 4 x.han) ∧ Below ww.heap.size ww w') := Lib.hid (fun ww => bytesOf_any 4 x.han ww (by omega) R2.out.1 (by have := R2.out; omega))
    have HBZ : Hid (∀ ww : World, Calls Try.prog 31 #[.int .i64 x.sz, .int .i64 4] ww fun e w' => e = .returned (.slice (some ⟨ww.heap.size, 0, none⟩) 4 4) ∧ Wh byS 5 w' ww.heap.size (be 4 x.sz) ∧ Below ww.heap.size ww w') := Lib.hid (fun ww => bytesOf_any 4 x.sz ww (by omega) R4.out.1 (by have := R4.out; omega))
    obtain ⟨base, hbs⟩ : ∃ base, base = w2.heap.size := ⟨_, rfl⟩
    have HBS := Lib.hid hbs
    clear hbs
    have HLC : Hid (∀ ww : World, Ls byS (ww.alloc (.cells #[.int .u8 x.code] 5)) (some ⟨ww.heap.size, 0, none⟩) ([x.code] : List Int)) := Lib.hid (fun ww => ls_new ww 5 ([x.code] : List Int) _ rfl _ rfl)
    have m0 := b0
    have m1 := b1
    go_cut [5] (fun o wc => ∃ A c, o = .slice A 5 c ∧ Hid (OwnL byS 5 wc base A 5 c (be 4 x.mrk ++ [x.code])) ∧ Hid (Below w2.heap.size w2 wc))
    case first =>
      go_region_held3 (fun w' => w'.cell? ⟨B, 0, none⟩ = some (.int .i64 x.mrk) ∧ w'.cell? ⟨B, 1, none⟩ = some (.int .i64 x.code)) (first | (with_reducible exact ⟨p0, p1⟩) | (with_reducible exact ⟨k0, k1⟩) | (with_reducible exact ⟨m0, m1⟩) | go_keep) (first
        | (go_at_call 31; (with_reducible refine (HBM.out _).mono ?_); rintro e w3 ⟨rfl, hw3, hb3⟩; have HO3 : Hid (OwnL byS 5 w3 base _ 4 4 (be 4 x.mrk)) := Lib.hid (hw3.own (by rw [HBS.out]; simp) (be_len _ _) (by omega)); have HBA := Lib.hid hb3; have HB3 : Hid (Below w2.heap.size w2 w3) := Lib.hid (by first | exact (Below.refl _ _).drew.trans hb3 | exact (ba1 _ _).drew.trans (hb3.mono (by simp))); have HX3 := Lib.hid (HX2.out.below HB3.out); have k0 := HX3.out.cell 0 _ rfl; have k1 := HX3.out.cell 1 _ rfl; clear hw3 hb3)
        | (refine wp_appL (F := byS) _ (.tmp 15) (.tmp 19) 22 rfl _ 1 Try.underlying22 byInfo rfl base _ 4 4 _ (by simp [Act.eval, Act.put]) (HO3.out.below (ba1 _ _)) (some ⟨w3.heap.size, 0, none⟩) 1 1 [x.code] (by simp [Act.eval, Act.put]) (HLC.out w3) rfl 5 rfl (by omega) (by omega) (by have := HB3.out.size; have := HBS.out; simp; omega) ?_; intro A4 c4 w4 ho4 hb4 _; have HO4 := Lib.hid ho4; have HB4 : Hid (Below w2.heap.size w2 w4) := Lib.hid (by rw [← HBS.out]; exact (((HB3.out.mono (by rw [HBS.out]; exact Nat.le_refl _)).alloc (by have := HB3.out.size; have := HBS.out; omega) _).trans hb4)); have HX4 := Lib.hid (HX2.out.below HB4.out); have p0 := HX4.out.cell 0 _ rfl; have p1 := HX4.out.cell 1 _ rfl; clear ho4 hb4)
        | (refine wp_appL (F := byS) _ (.tmp 15) (.tmp 19) 22 rfl _ 1 Try.underlying22 byInfo rfl base _ 4 4 _ (by simp [Act.eval, Act.put]) HO3.out (some ⟨w2.heap.size, 0, none⟩) 1 1 [x.code] (by simp [Act.eval, Act.put]) (((HLC.out w2).below (Below.refl _ _).drew).below HBA.out) rfl 5 rfl (by omega) (by omega) (by have := HB3.out.size; have := HBS.out; omega) ?_; intro A4 c4 w4 ho4 hb4 _; have HO4 := Lib.hid ho4; have HB4 : Hid (Below w2.heap.size w2 w4) := Lib.hid (by rw [← HBS.out]; exact ((HB3.out.mono (by rw [HBS.out]; exact Nat.le_refl _)).trans hb4)); have HX4 := Lib.hid (HX2.out.below HB4.out); have p0 := HX4.out.cell 0 _ rfl; have p1 := HX4.out.cell 1 _ rfl; clear ho4 hb4))
      all_goals
        go_wp2_with fail
        go_meet
        exact ⟨A4, c4, rfl, HO4, HB4⟩
    case rest =>
      obtain ⟨A4, c4, rfl, HO4, HB4⟩ := hcut
      obtain ⟨w4, hw4⟩ : ∃ w4, w4 = wc := ⟨_, rfl⟩
      subst hw4
      clear lb b0 b1 b2 b3 b4 b5 b6 m0 m1
      have HX4 := Lib.hid (HX2.out.below HB4.out)
      obtain ⟨lb, b0, b1, m2, m3, m4, b5, b6, -⟩ := HX4.out.cells7
      have hz4 : base ≤ w4.heap.size := by rw [HBS.out]; exact HB4.out.size
      have HLK : Hid (∀ ww : World, Ls byS (ww.alloc (.cells #[.int .u8 x.kd] 5)) (some ⟨ww.heap.size, 0, none⟩) ([x.kd] : List Int)) := Lib.hid (fun ww => ls_new ww 5 ([x.kd] : List Int) _ rfl _ rfl)
      have HBS' : Hid (B < base) := Lib.hid (by rw [HBS.out]; exact HX2.out.lt)
      go_upto_region 5 with fail
      go_cut [5] (fun o wc => ∃ A c, o = .slice A 14 c ∧ Hid (OwnL byS 5 wc base A 14 c (be 4 x.mrk ++ [x.code] ++ be 4 x.han ++ [x.kd] ++ be 4 x.sz)) ∧ Hid (Below base w4 wc))
      case first =>
        go_region_held3 (fun w' => w'.cell? ⟨B, 2, none⟩ = some (.int .i64 x.han) ∧ w'.cell? ⟨B, 3, none⟩ = some (.int .i64 x.kd) ∧ w'.cell? ⟨B, 4, none⟩ = some (.int .i64 x.sz)) (first | (with_reducible exact ⟨s2, s3, s4⟩) | (with_reducible exact ⟨p2, p3, p4⟩) | (with_reducible exact ⟨m2, m3, m4⟩) | go_keep) (first
          | (go_at_call 31; (with_reducible refine (HBH.out _).mono ?_); rintro e w5 ⟨rfl, hw5, hb5⟩; have HL5 := Lib.hid hw5.ls; have HBA := Lib.hid hb5; have HB5 : Hid (Below w4.heap.size w4 w5) := Lib.hid (by first | exact (Below.refl _ _).drew.trans hb5 | exact (ba1 _ _).drew.trans (hb5.mono (by simp))); have HX5 := Lib.hid (HX4.out.below HB5.out); have p2 := HX5.out.cell 2 _ rfl; have p3 := HX5.out.cell 3 _ rfl; have p4 := HX5.out.cell 4 _ rfl; clear hw5 hb5)
          | (refine wp_appL (F := byS) w5 (.tmp 21) (.tmp 24) 22 rfl _ 1 Try.underlying22 byInfo rfl base _ 5 _ _ (by simp [Act.eval, Act.put]) (HO4.out.below HB5.out) _ 4 4 _ (by simp [Act.eval, Act.put]) HL5.out (be_len _ _) 9 rfl (by omega) (by omega) (Nat.le_trans hz4 HB5.out.size) ?_; intro A6 c6 w6 ho6 hb6 hs6; have HLK6 : Hid (Ls byS w6 (some ⟨w4.heap.size, 0, none⟩) ([x.kd] : List Int)) := Lib.hid (lsK (((HLK.out w4).below (Below.refl _ _).drew).below HBA.out) hs6 HO4.out (Nat.le_refl _) hb6.size); have HO6 := Lib.hid ho6; have HB6 : Hid (Below base w4 w6) := Lib.hid ((HB5.out.mono hz4).trans hb6); have HX6 := Lib.hid (HX4.out.below' HB6.out HBS'.out); have p2 := HX6.out.cell 2 _ rfl; have p3 := HX6.out.cell 3 _ rfl; have p4 := HX6.out.cell 4 _ rfl; clear ho6 hb6 hs6)
          | (refine wp_appL (F := byS) w5 (.tmp 21) (.tmp 24) 22 rfl _ 1 Try.underlying22 byInfo rfl base _ 5 _ _ (by simp [Act.eval, Act.put]) (HO4.out.below HB5.out) _ 4 4 _ (by simp [Act.eval, Act.put]) HL5.out (be_len _ _) 9 rfl (by omega) (by omega) (Nat.le_trans hz4 HB5.out.size) ?_; intro A6 c6 w6 ho6 hb6 hs6; have HO6 := Lib.hid ho6; have HB6 : Hid (Below base w4 w6) := Lib.hid ((HB5.out.mono hz4).trans hb6); have HX6 := Lib.hid (HX4.out.below' HB6.out HBS'.out); have p2 := HX6.out.cell 2 _ rfl; have p3 := HX6.out.cell 3 _ rfl; have p4 := HX6.out.cell 4 _ rfl; clear ho6 hb6 hs6)
          | (refine wp_appL (F := byS) (w5.alloc (.cells #[.int .u8 x.kd] 5)) (.tmp 21) (.tmp 24) 22 rfl _ 1 Try.underlying22 byInfo rfl base _ 5 _ _ (by simp [Act.eval, Act.put]) ((HO4.out.below HB5.out).below (ba1 _ _)) _ 4 4 _ (by simp [Act.eval, Act.put]) (HL5.out.below (ba1 _ _)) (be_len _ _) 9 rfl (by omega) (by omega) (by have := HB5.out.size; simp; omega) ?_; intro A6 c6 w6 ho6 hb6 hs6; have HLK6 : Hid (Ls byS w6 (some ⟨w5.heap.size, 0, none⟩) ([x.kd] : List Int)) := Lib.hid (lsK (HLK.out w5) hs6 HO4.out HB5.out.size hb6.size); have HO6 := Lib.hid ho6; have HB6 : Hid (Below base w4 w6) := Lib.hid (((HB5.out.mono hz4).alloc (Nat.le_trans hz4 HB5.out.size) _).trans hb6); have HX6 := Lib.hid (HX4.out.below' HB6.out HBS'.out); have p2 := HX6.out.cell 2 _ rfl; have p3 := HX6.out.cell 3 _ rfl; have p4 := HX6.out.cell 4 _ rfl; clear ho6 hb6 hs6)
          | (refine wp_appL (F := byS) w6 (.tmp 25) (.tmp 29) 22 rfl _ 1 Try.underlying22 byInfo rfl base _ 9 _ _ (by simp [Act.eval, Act.put]) HO6.out _ 1 1 _ (by simp [Act.eval, Act.put]) HLK6.out rfl 10 rfl (by omega) (by omega) (Nat.le_trans hz4 HB6.out.size) ?_; intro A7 c7 w7 ho7 hb7 hs7; have HO7 := Lib.hid ho7; have HB7 : Hid (Below base w4 w7) := Lib.hid (HB6.out.trans hb7); have HX7 := Lib.hid (HX4.out.below' HB7.out HBS'.out); have p2 := HX7.out.cell 2 _ rfl; have p3 := HX7.out.cell 3 _ rfl; have p4 := HX7.out.cell 4 _ rfl; clear ho7 hb7 hs7)
          | (refine wp_appL (F := byS) (w6.alloc (.cells #[.int .u8 x.kd] 5)) (.tmp 25) (.tmp 29) 22 rfl _ 1 Try.underlying22 byInfo rfl base _ 9 _ _ (by simp [Act.eval, Act.put]) (HO6.out.below (ba1 _ _)) _ 1 1 _ (by simp [Act.eval, Act.put]) (HLK.out w6) rfl 10 rfl (by omega) (by omega) (by have := HB6.out.size; simp; omega) ?_; intro A7 c7 w7 ho7 hb7 hs7; have HO7 := Lib.hid ho7; have HB7 : Hid (Below base w4 w7) := Lib.hid ((HB6.out.alloc (Nat.le_trans hz4 HB6.out.size) _).trans hb7); have HX7 := Lib.hid (HX4.out.below' HB7.out HBS'.out); have p2 := HX7.out.cell 2 _ rfl; have p3 := HX7.out.cell 3 _ rfl; have p4 := HX7.out.cell 4 _ rfl; clear ho7 hb7 hs7)
          | (go_at_call 31; (with_reducible refine (HBZ.out _).mono ?_); rintro e w8 ⟨rfl, hw8, hb8⟩; have HL8 := Lib.hid hw8.ls; have HB8 := Lib.hid hb8; have HB48 : Hid (Below base w4 w8) := Lib.hid (HB7.out.trans (hb8.mono (Nat.le_trans hz4 HB7.out.size))); have HX8 := Lib.hid (HX4.out.below' HB48.out HBS'.out); have p2 := HX8.out.cell 2 _ rfl; have p3 := HX8.out.cell 3 _ rfl; have p4 := HX8.out.cell 4 _ rfl; clear hw8 hb8)
          | (refine wp_appL (F := byS) w8 (.tmp 30) (.tmp 33) 22 rfl _ 1 Try.underlying22 byInfo rfl base _ 10 _ _ (by simp [Act.eval, Act.put]) (HO7.out.below HB8.out) _ 4 4 _ (by simp [Act.eval, Act.put]) HL8.out (be_len _ _) 14 rfl (by omega) (by omega) (Nat.le_trans hz4 HB48.out.size) ?_; intro A9 c9 w9 ho9 hb9 hs9; have HO9 := Lib.hid ho9; have HB9 : Hid (Below base w4 w9) := Lib.hid (HB48.out.trans hb9); have HX9 := Lib.hid (HX4.out.below' HB9.out HBS'.out); have p2 := HX9.out.cell 2 _ rfl; have p3 := HX9.out.cell 3 _ rfl; have p4 := HX9.out.cell 4 _ rfl; clear ho9 hb9 hs9))
        all_goals
          go_wp2_with fail
          go_meet
          exact ⟨A9, c9, rfl, HO9, HB9⟩
      case rest =>
        obtain ⟨A5, c5, rfl, HO5, HB5⟩ := hcut
        obtain ⟨u, hu⟩ : ∃ u, u = wc := ⟨_, rfl⟩
        subst hu
        clear lb b0 b1 m2 m3 m4 b5 b6
        have HXU := Lib.hid (HX4.out.below' HB5.out HBS'.out)
        obtain ⟨lb, b0, b1, b2, b3, b4, m5, m6, -⟩ := HXU.out.cells7
        have hzu : base ≤ u.heap.size := Nat.le_trans hz4 HB5.out.size
        have HB2u : Hid (Below w2.heap.size w2 u) := Lib.hid (by rw [← HBS.out]; exact (HB4.out.mono (by rw [HBS.out]; exact Nat.le_refl _)).trans HB5.out)
        have HINU := Lib.hid (HIN2.out.below HB2u.out)
        have hm5 : x.m ≤ 100 := r5
        have wn : IntKind.u8.wrap (x.n : Int) = (x.n : Int) := by simp [IntKind.wrap, IntKind.signed, IntKind.bits]; omega
        have HLN : Hid (∀ ww : World, Ls byS (ww.alloc (.cells #[.int .u8 (x.n : Int)] 5)) (some ⟨ww.heap.size, 0, none⟩) ([(x.n : Int)] : List Int)) := Lib.hid (fun ww => ls_new ww 5 ([(x.n : Int)] : List Int) _ rfl _ rfl)
        have HCV : Hid (∀ w', Below base w2 w' → (convert 22 9 (.slice x.D x.m x.d)).run Try.prog w' = .ok (.string (tx (toT x.zs))) w') := Lib.hid (fun w' h => conv_text x.D x.m x.d x.zs w' (HIN2.out.1.1.below (by rw [← HBS.out]; exact h)) HML.out)
        have HBu : Hid (Below base w2 u) := Lib.hid (HB2u.out.mono (by rw [HBS.out]; exact Nat.le_refl _))
        have n5 : u.drew.cell? ⟨B, 5, none⟩ = some (.slice x.D x.m x.d) := cell_drew1 m5
        have n6 : u.drew.cell? ⟨B, 6, none⟩ = some (.slice x.N x.n x.c) := cell_drew1 m6
        have n7 := HCV.out u.drew HBu.out.drew
        have q5 : (u.alloc (.cells #[.int .u8 (x.n : Int)] 5)).drew.cell? ⟨B, 5, none⟩ = some (.slice x.D x.m x.d) := cell_drew1 (cell_alloc1 m5)
        have q6 : (u.alloc (.cells #[.int .u8 (x.n : Int)] 5)).drew.cell? ⟨B, 6, none⟩ = some (.slice x.N x.n x.c) := cell_drew1 (cell_alloc1 m6)
        have q7 := HCV.out (u.alloc (.cells #[.int .u8 (x.n : Int)] 5)).drew (HBu.out.alloc hzu _).drew
        have HTX : Hid (∀ ww : World, Calls Try.prog 33 #[.string (tx (toT x.zs))] ww fun e w' => ∃ A c, e = .returned (.slice A (2 + x.m) c) ∧ OwnL byS 5 w' ww.heap.size A (2 + x.m) c (enc x.zs) ∧ Below ww.heap.size ww w') := Lib.hid (fun ww => by
          have h := textOf_any (toT x.zs) ww (by rw [toT_len, HML.out]; omega)
          rw [toT_len, HML.out, ofT_toT _ HOZ.out] at h
          exact h.mono fun e w' h => (by obtain ⟨h1, A, c, h2, h3⟩ := h; exact ⟨A, c, h2, h3, h1⟩))
        go_upto_region 6 with fail
        go_cut [5] (fun o wc => ∃ A c, o = .slice A (17 + x.m) c ∧ Hid (OwnL byS 5 wc base A (17 + x.m) c (be 4 x.mrk ++ [x.code] ++ be 4 x.han ++ [x.kd] ++ be 4 x.sz ++ enc x.zs ++ [(x.n : Int)])) ∧ Hid (Below base u wc))
        case first =>
          go_region_held3 (fun w' => w'.cell? ⟨B, 5, none⟩ = some (.slice x.D x.m x.d) ∧ w'.cell? ⟨B, 6, none⟩ = some (.slice x.N x.n x.c) ∧ (convert 22 9 (.slice x.D x.m x.d)).run Try.prog w' = .ok (.string (tx (toT x.zs))) w') (first | (with_reducible exact ⟨p5, p6, p7⟩) | (with_reducible exact ⟨a5, a6, a7⟩) | (with_reducible exact ⟨n5, n6, n7⟩) | (with_reducible exact ⟨q5, q6, q7⟩) | go_keep) (first
            | (go_at_call 33; (with_reducible refine (HTX.out _).mono ?_); rintro e w5 ⟨At, ct, rfl, ho5, hb5⟩; have HL5 := Lib.hid ho5.ls; have HBA := Lib.hid hb5; have HB6 : Hid (Below u.heap.size u w5) := Lib.hid (by first | exact (Below.refl _ _).drew.trans hb5 | exact (ba1 _ _).drew.trans (hb5.mono (by simp))); have HX5 := Lib.hid (HXU.out.below HB6.out); have p5 := HX5.out.cell 5 _ rfl; have p6 := HX5.out.cell 6 _ rfl; have p7 := HCV.out w5 (HBu.out.trans (HB6.out.mono hzu)); have a5 := cell_alloc1 (o := .cells #[.int .u8 (x.n : Int)] 5) p5; have a6 := cell_alloc1 (o := .cells #[.int .u8 (x.n : Int)] 5) p6; have a7 := HCV.out (w5.alloc (.cells #[.int .u8 (x.n : Int)] 5)) (((HBu.out.trans (HB6.out.mono hzu))).alloc (by have := ((HBu.out.trans (HB6.out.mono hzu))).size; have := HBS.out; omega) _); have HLL := Lib.hid ho5.1; clear ho5 hb5)
            | (refine wp_appL (F := byS) w5 (.tmp 35) (.tmp 39) 22 rfl _ 1 Try.underlying22 byInfo rfl base _ 14 _ _ (by simp [Act.eval, Act.put]) (HO5.out.below HB6.out) _ (2 + x.m) ct _ (by simp [Act.eval, Act.put]) HL5.out HLL.out (16 + x.m) (by omega) (by omega) (by omega) (Nat.le_trans hzu HB6.out.size) ?_; intro A6 c6 w6 ho6 hb6 hs6; have HLK6 : Hid (Ls byS w6 (some ⟨u.heap.size, 0, none⟩) ([(x.n : Int)] : List Int)) := Lib.hid (lsK (((HLN.out u).below (Below.refl _ _).drew).below HBA.out) hs6 HO5.out (Nat.le_refl _) hb6.size); have HO6 := Lib.hid ho6; have HB7 : Hid (Below base u w6) := Lib.hid ((HB6.out.mono hzu).trans hb6); have HX6 := Lib.hid (HXU.out.below' HB7.out HBS'.out); have p5 := HX6.out.cell 5 _ rfl; have p6 := HX6.out.cell 6 _ rfl; have p7 := HCV.out w6 (HBu.out.trans HB7.out); have a5 := cell_alloc1 (o := .cells #[.int .u8 (x.n : Int)] 5) p5; have a6 := cell_alloc1 (o := .cells #[.int .u8 (x.n : Int)] 5) p6; have a7 := HCV.out (w6.alloc (.cells #[.int .u8 (x.n : Int)] 5)) (((HBu.out.trans HB7.out)).alloc (by have := ((HBu.out.trans HB7.out)).size; have := HBS.out; omega) _); clear ho6 hb6 hs6)
            | (refine wp_appL (F := byS) w5 (.tmp 35) (.tmp 39) 22 rfl _ 1 Try.underlying22 byInfo rfl base _ 14 _ _ (by simp [Act.eval, Act.put]) (HO5.out.below HB6.out) _ (2 + x.m) ct _ (by simp [Act.eval, Act.put]) HL5.out HLL.out (16 + x.m) (by omega) (by omega) (by omega) (Nat.le_trans hzu HB6.out.size) ?_; intro A6 c6 w6 ho6 hb6 hs6; have HO6 := Lib.hid ho6; have HB7 : Hid (Below base u w6) := Lib.hid ((HB6.out.mono hzu).trans hb6); have HX6 := Lib.hid (HXU.out.below' HB7.out HBS'.out); have p5 := HX6.out.cell 5 _ rfl; have p6 := HX6.out.cell 6 _ rfl; have p7 := HCV.out w6 (HBu.out.trans HB7.out); have a5 := cell_alloc1 (o := .cells #[.int .u8 (x.n : Int)] 5) p5; have a6 := cell_alloc1 (o := .cells #[.int .u8 (x.n : Int)] 5) p6; have a7 := HCV.out (w6.alloc (.cells #[.int .u8 (x.n : Int)] 5)) (((HBu.out.trans HB7.out)).alloc (by have := ((HBu.out.trans HB7.out)).size; have := HBS.out; omega) _); clear ho6 hb6 hs6)
            | (refine wp_appL (F := byS) (w5.alloc (.cells #[.int .u8 (x.n : Int)] 5)) (.tmp 35) (.tmp 39) 22 rfl _ 1 Try.underlying22 byInfo rfl base _ 14 _ _ (by simp [Act.eval, Act.put]) ((HO5.out.below HB6.out).below (ba1 _ _)) _ (2 + x.m) ct _ (by simp [Act.eval, Act.put]) (HL5.out.below (ba1 _ _)) HLL.out (16 + x.m) (by omega) (by omega) (by omega) (by have := HB6.out.size; simp; omega) ?_; intro A6 c6 w6 ho6 hb6 hs6; have HLK6 : Hid (Ls byS w6 (some ⟨w5.heap.size, 0, none⟩) ([(x.n : Int)] : List Int)) := Lib.hid (lsK (HLN.out w5) hs6 HO5.out HB6.out.size hb6.size); have HO6 := Lib.hid ho6; have HB7 : Hid (Below base u w6) := Lib.hid (((HB6.out.mono hzu).alloc (Nat.le_trans hzu HB6.out.size) _).trans hb6); have HX6 := Lib.hid (HXU.out.below' HB7.out HBS'.out); have p5 := HX6.out.cell 5 _ rfl; have p6 := HX6.out.cell 6 _ rfl; have p7 := HCV.out w6 (HBu.out.trans HB7.out); have a5 := cell_alloc1 (o := .cells #[.int .u8 (x.n : Int)] 5) p5; have a6 := cell_alloc1 (o := .cells #[.int .u8 (x.n : Int)] 5) p6; have a7 := HCV.out (w6.alloc (.cells #[.int .u8 (x.n : Int)] 5)) (((HBu.out.trans HB7.out)).alloc (by have := ((HBu.out.trans HB7.out)).size; have := HBS.out; omega) _); clear ho6 hb6 hs6)
            | (refine wp_appL (F := byS) w6 (.tmp 40) (.tmp 45) 22 rfl _ 1 Try.underlying22 byInfo rfl base _ (16 + x.m) _ _ (by simp [Act.eval, Act.put]) HO6.out _ 1 1 _ (by simp [Act.eval, Act.put]) HLK6.out rfl (17 + x.m) (by omega) (by omega) (by omega) (Nat.le_trans hzu HB7.out.size) ?_; intro A7 c7 w7 ho7 hb7 hs7; have HO7 := Lib.hid ho7; have HB8 : Hid (Below base u w7) := Lib.hid (HB7.out.trans hb7); have HX7 := Lib.hid (HXU.out.below' HB8.out HBS'.out); have p5 := HX7.out.cell 5 _ rfl; have p6 := HX7.out.cell 6 _ rfl; have p7 := HCV.out w7 (HBu.out.trans HB8.out); have a5 := cell_alloc1 (o := .cells #[.int .u8 (x.n : Int)] 5) p5; have a6 := cell_alloc1 (o := .cells #[.int .u8 (x.n : Int)] 5) p6; have a7 := HCV.out (w7.alloc (.cells #[.int .u8 (x.n : Int)] 5)) (((HBu.out.trans HB8.out)).alloc (by have := ((HBu.out.trans HB8.out)).size; have := HBS.out; omega) _); clear ho7 hb7 hs7)
            | (refine wp_appL (F := byS) (w6.alloc (.cells #[.int .u8 (x.n : Int)] 5)) (.tmp 40) (.tmp 45) 22 rfl _ 1 Try.underlying22 byInfo rfl base _ (16 + x.m) _ _ (by simp [Act.eval, Act.put]) (HO6.out.below (ba1 _ _)) _ 1 1 _ (by simp [Act.eval, Act.put]) (HLN.out w6) rfl (17 + x.m) (by omega) (by omega) (by omega) (by have := HB7.out.size; simp; omega) ?_; intro A7 c7 w7 ho7 hb7 hs7; have HO7 := Lib.hid ho7; have HB8 : Hid (Below base u w7) := Lib.hid ((HB7.out.alloc (Nat.le_trans hzu HB7.out.size) _).trans hb7); have HX7 := Lib.hid (HXU.out.below' HB8.out HBS'.out); have p5 := HX7.out.cell 5 _ rfl; have p6 := HX7.out.cell 6 _ rfl; have p7 := HCV.out w7 (HBu.out.trans HB8.out); have a5 := cell_alloc1 (o := .cells #[.int .u8 (x.n : Int)] 5) p5; have a6 := cell_alloc1 (o := .cells #[.int .u8 (x.n : Int)] 5) p6; have a7 := HCV.out (w7.alloc (.cells #[.int .u8 (x.n : Int)] 5)) (((HBu.out.trans HB8.out)).alloc (by have := ((HBu.out.trans HB8.out)).size; have := HBS.out; omega) _); clear ho7 hb7 hs7))
          all_goals
            go_wp2_with fail
            go_meet
            exact ⟨A7, c7, rfl, HO7, HB8⟩
        case rest =>
          obtain ⟨A6, c6, rfl, HO6, HB6⟩ := hcut
          obtain ⟨t, ht⟩ : ∃ t, t = wc := ⟨_, rfl⟩
          subst ht
          clear lb b0 b1 b2 b3 b4 m5 m6 n5 n6 n7 q5 q6 q7 wn wc wk
          have HXT := Lib.hid (HXU.out.below' HB6.out HBS'.out)
          obtain ⟨lb, b0, b1, b2, b3, b4, b5, b6, -⟩ := HXT.out.cells7
          have hzt : base ≤ t.heap.size := Nat.le_trans hzu HB6.out.size
          have HBT : Hid (Below base w2 t) := Lib.hid (((HB2u.out.mono (by rw [HBS.out]; exact Nat.le_refl _))).trans HB6.out)
          have HNT : Hid (Ls stS t x.N x.ns) := Lib.hid ((HIN2.out.below (w' := t) (by rw [← HBS.out]; exact HBT.out)).2.1)
          have HNX : Hid (x.ns = [] ∨ Clear (fun k => base ≤ k) x.N) := Lib.hid (by rw [HBS.out]; exact ls_top HIN2.out.2.1)
          have HHD : Hid ((be 4 x.mrk ++ [x.code] ++ be 4 x.han ++ [x.kd] ++ be 4 x.sz ++ enc x.zs ++ [(x.n : Int)]).length = 17 + x.m) := Lib.hid HO6.out.1
          obtain ⟨hd, hhd⟩ : ∃ hd, hd = be 4 x.mrk ++ [x.code] ++ be 4 x.han ++ [x.kd] ++ be 4 x.sz ++ enc x.zs ++ [(x.n : Int)] := ⟨_, rfl⟩
          rw [← hhd] at HO6 HHD
          have HBY : Hid (hd ++ nmL x.ns = x.bytes) := Lib.hid (by
            rw [hhd]
            unfold Rpv.bytes ansL headL
            rw [be1 x.code R1.out, be1 x.kd R3.out, be1 (x.ns.length : Int) (by have := HNL.out; omega), HNL.out]
            simp)
          have HBWT : Hid (Below w.heap.size w t) := Lib.hid (HBW2.out.trans (HBT.out.mono (by rw [HBS.out]; exact HBW2.out.size)))
          have HWB : Hid (w.heap.size ≤ base) := Lib.hid (by rw [HBS.out]; exact HBW2.out.size)
          clear hhd
          go_wp2_with fail
          go_loopw [5, 50] (fun o i wr => ∃ (k : Nat) (A : Option Addr) (c N : Nat), i = .int .i64 (k : Int) ∧ k ≤ x.n ∧ o = .slice A N c ∧ OwnL byS 5 wr base A N c (hd ++ nmL (x.ns.take k)) ∧ Below base t wr) (fun _ i _ => x.n - (intOf i).toNat)
          case atStart => exact ⟨0, A6, c6, _, rfl, Nat.zero_le _, rfl, by rw [List.take_zero]; show OwnL _ _ _ _ _ _ _ (hd ++ []); rw [List.append_nil]; exact HO6.out, Below.refl _ _⟩
          case round =>
            obtain ⟨k, A, c, N, rfl, hk, rfl, ho, hbw⟩ := hrel
            have HO := Lib.hid ho
            have HBW := Lib.hid hbw
            have hbr : base ≤ wr.heap.size := Nat.le_trans hzt hbw.size
            have HNLK : Hid ((nmL (x.ns.take k)).length ≤ 18 * k) := Lib.hid (by
              have h := nmL_len (ns := x.ns.take k) (List.all_eq_true.2 fun y hy => List.all_eq_true.1 HALL.out y (List.mem_of_mem_take hy))
              rw [List.length_take] at h
              omega)
            have hNb : N ≤ 2000 := by
              have h := ho.1
              rw [List.length_append, HHD.out] at h
              have := HNLK.out
              omega
            have HNr : Hid (Ls stS wr x.N x.ns) := Lib.hid (by
              rcases HNX.out with h | h
              · rw [h]; exact Ls.nil _ _
              · exact HNT.out.only (only_of_below hbw) h)
            clear ho hbw
            by_cases hlt : k < x.n
            · have hlti : (k : Int) < (x.n : Int) := by omega
              obtain ⟨b, o, hNb', hbl, hc⟩ := HNr.out.text k (by rw [HNL.out]; exact hlt)
              obtain ⟨s, hs⟩ : ∃ s, s = x.ns.getD k [] := ⟨_, rfl⟩
              rw [← hs] at hc
              have hsl : s.length ≤ 16 := name_len (by rw [hs]; exact List.all_eq_true.1 HALL.out _ (getD_mem (by rw [HNL.out]; exact hlt)))
              have HSU : Hid (nmL (x.ns.take (k + 1)) = nmL (x.ns.take k) ++ enc (ofT s)) := Lib.hid (by
                rw [List.take_add_one, List.getElem?_eq_getElem (by rw [HNL.out]; exact hlt)]
                unfold nmL
                rw [List.map_append, List.flatten_append, hs, List.getD_eq_getElem?_getD, List.getElem?_eq_getElem (by rw [HNL.out]; exact hlt)]
                simp)
              have HTS := Lib.hid (textOf_any s wr (by omega))
              have HEL : Hid ((enc (ofT s)).length = 2 + s.length) := Lib.hid (by unfold enc; rw [List.length_append, be_len, ofT_len])
              rw [hNb'] at *
              clear hs
              go_wp2_with (first
                | (go_at_call 33; (with_reducible refine HTS.out.mono ?_); rintro e w5 ⟨hb5, At, ct, rfl, ho5⟩; have HO5' := Lib.hid ho5; have HB5' := Lib.hid hb5; clear hb5 ho5)
                | (at_builtin; refine wpList_appL (F := byS) rfl w5 (.tmp 54) (.tmp 56) 22 rfl _ 1 Try.underlying22 byInfo rfl base A N c _ rfl (HO.out.below HB5'.out) At (2 + s.length) ct _ rfl HO5'.out.ls HEL.out (N + (2 + s.length)) rfl (by omega) (by omega) (Nat.le_trans hbr HB5'.out.size) ?_; intro A7 c7 w7 ho7 hb7 _; have HO7 := Lib.hid ho7; have HB7 := Lib.hid hb7; clear ho7 hb7))
              exact ⟨⟨k + 1, A7, c7, _, by go_num, by omega, rfl, by rw [HSU.out, ← List.append_assoc]; exact HO7.out, HBW.out.trans ((HB5'.out.mono hbr).trans HB7.out)⟩, by simp [intOf]; omega⟩
            · have hlti : ¬ (k : Int) < (x.n : Int) := by omega
              have HTK : Hid (x.ns.take k = x.ns) := Lib.hid (List.take_of_length_le (by rw [HNL.out]; omega))
              go_wp2_with fail
              go_ret2
              refine ⟨HBWT.out.trans (HBW.out.mono HWB.out), ?_⟩
              rw [if_pos HF.out]
              refine ⟨A, N, c, rfl, ?_⟩
              have h := HO.out.base HWB.out
              rw [HTK.out, HBY.out] at h
              exact h
  · have hv1 : (v == 0) = false := by simpa using hv0
    have hv2 : (v != 0) = true := by simpa using hv0
    have HNZ : Hid (¬ x.fault = 0) := Lib.hid (by rw [← HV.out]; exact hv0)
    go_wp2_with (go_at_call 40; (with_reducible refine HFT.out.mono ?_); rintro e w2 ⟨rfl, hb2⟩; have HB2 := Lib.hid hb2; clear hb2)
    go_ret2
    refine ⟨bthen HB1.out HB2.out, ?_⟩
    rw [if_neg HNZ.out, ← HV.out]; rfl

end Go.Proofs.Ytelfnlocgknpjaa
