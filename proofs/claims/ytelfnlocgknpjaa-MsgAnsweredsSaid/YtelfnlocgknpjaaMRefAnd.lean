/-
  The document's MsgAnswered.
-/
import Derived.Test.YtelfnlocgknpjaaMRefRead
import Derived.Test.YtelfnlocgknpjaaMRefFault
import Derived.Test.YtelfnlocgknpjaaMRefRep
import Derived.Lib.ConvBytes
namespace Go.Proofs.Ytelfnlocgknpjaa
open Go.RowKit
set_option linter.unusedVariables false
set_option linter.unusedSimpArgs false

theorem num_at4 {R : Nat} {ys y : List Int} {sh s : Bool} {v : Int} (w : World) (hr : RdIs R w ys sh) (h : numR 4 ys sh = (v, y, s)) :
    Calls Try.prog 35 #[.pointer (some ⟨R, 0, none⟩), .int .i64 4] w fun e w' => Only (fun j => j = R) w w' ∧ e = .returned (.int .i64 v) ∧ RdIs R w' y s := by
  have := num_any R 4 ys sh w (by omega) hr
  rw [h] at this
  exact this
theorem num_at1 {R : Nat} {ys y : List Int} {sh s : Bool} {v : Int} (w : World) (hr : RdIs R w ys sh) (h : numR 1 ys sh = (v, y, s)) :
    Calls Try.prog 35 #[.pointer (some ⟨R, 0, none⟩), .int .i64 1] w fun e w' => Only (fun j => j = R) w w' ∧ e = .returned (.int .i64 v) ∧ RdIs R w' y s := by
  have := num_any R 1 ys sh w (by omega) hr
  rw [h] at this
  exact this
theorem text_at {R : Nat} {ys y : List Int} {sh s : Bool} {v : Byt} (w : World) (hr : RdIs R w ys sh) (h : txtR ys sh = (v, y, s)) :
    Calls Try.prog 36 #[.pointer (some ⟨R, 0, none⟩)] w fun e w' => Only (fun j => j = R) w w' ∧ e = .returned (.string (tx v)) ∧ RdIs R w' y s := by
  have := text_any R ys sh w hr
  rw [h] at this
  exact this
theorem only_ofB {B : Nat} {w w' : World} (h : Below B w w') : Only (fun k => B ≤ k) w w' := ⟨h.os, h.tape, h.output, h.size, fun k hk hn => h.block k (by have hn : ¬ B ≤ k := hn; omega)⟩
theorem RdIs.under {R B : Nat} {w w' : World} {ys : List Int} {sh : Bool} (h : RdIs R w ys sh) (hb : Below B w w') (hB : R < B) : RdIs R w' ys sh := by
  obtain ⟨A, n, c, h1, h2, h3, h4, h5, h6, h7⟩ := h
  exact ⟨A, n, c, h1.below' hb hB, h2.only (only_ofB hb) (h6.mono fun k hk => by have hk : B ≤ k := hk; show R ≤ k; omega), h3, h4, h5, h6, h7⟩
theorem RdIs.put {R X j : Nat} {w : World} {ys : List Int} {sh : Bool} (h : RdIs R w ys sh) (hX : R < X) (u : Value) : RdIs R (w.setCell ⟨X, j, none⟩ u) ys sh := by
  obtain ⟨A, n, c, h1, h2, h3, h4, h5, h6, h7⟩ := h
  exact ⟨A, n, c, h1.other (by omega) u, h2.only ((Only.refl (fun k => k = X) w).setCell (.inl rfl) u) (h6.mono fun k hk => by have hk : k = X := hk; show R ≤ k; omega), h3, h4, h5, h6, h7⟩
theorem conv_bytes (w : World) (l : Byt) : (convert 9 22 (.string (tx l))).run Try.prog w = .ok (.slice (some ⟨w.heap.size, 0, none⟩) l.length (grownCap w (tx l).size 0 5)) (Lib.bytesWorld w 5 (tx l)) ∧ Below w.heap.size w (Lib.bytesWorld w 5 (tx l)) ∧ Ls byS (Lib.bytesWorld w 5 (tx l)) (some ⟨w.heap.size, 0, none⟩) (ofT l) ∧ (Lib.bytesWorld w 5 (tx l)).heap.size = w.heap.size + 1 := by
  refine ⟨?_, ⟨rfl, rfl, rfl, by rw [Lib.bytesWorld_size]; omega, fun j hj => Lib.bytesWorld_at_old w 5 (tx l) j hj⟩, ?_, Lib.bytesWorld_size w 5 (tx l)⟩
  · have h := Lib.run_convert_string_bytes (P := Try.prog) w 9 22 5 (tx l) (u := .string) Try.underlying9 Try.underlying22 Try.underlying5
    have e : (tx l).size = l.length := by simp [tx, ByteArray.size]
    rw [e] at h ⊢
    exact h
  · rcases l with _ | ⟨x, r⟩
    · exact Ls.nil _ _
    · refine .inr ⟨w.heap.size, 0, rfl, by rw [Lib.bytesWorld_size]; omega, fun j u hu => ?_⟩
      rw [flat_by, List.getElem?_map] at hu
      unfold ofT at hu
      rw [List.getElem?_map] at hu
      rcases hx : (x :: r)[j]? with _ | b
      · rw [hx] at hu; cases hu
      · rw [hx] at hu
        have hj : j < (x :: r).length := (List.getElem?_eq_some_iff.1 hx).1
        rw [Nat.zero_add, Lib.bytesWorld_cell w 5 (tx (x :: r)) j (by rw [tx_size]; exact hj), tx_list, List.getD_eq_getElem?_getD, hx]
        exact hu
theorem num1_bd {ys y : List Int} {sh s : Bool} {v : Int} (ho : Oct ys) (h : numR 1 ys sh = (v, y, s)) : ∃ k : Nat, v = (k : Int) ∧ k ≤ 255 := by
  unfold numR at h
  split at h
  · injection h with h1 h2
    exact ⟨0, h1.symm, by omega⟩
  · rename_i hn
    injection h with h1 h2
    obtain ⟨g1, g2⟩ := val_bound 1 (ys.take 1) (by rw [List.length_take]; omega) (fun z hz => ho z (List.mem_of_mem_take hz))
    exact ⟨v.toNat, by omega, by omega⟩
set_option maxRecDepth 100000 in
set_option maxHeartbeats 16000000 in
theorem refAnd_any (A : Option Addr) (n c : Nat) (zs : List Int) (w : World) (hs : Ls byS w A zs) (hl : zs.length = n) (hc : n ≤ c) (hc2 : c ≤ 9223372036854775807) (ho : Oct zs) (hA : ∀ q, A = some q → q.block < w.heap.size) :
    Calls Try.prog 19 #[.slice A n c] w (RetAnd w zs) := by
  obtain ⟨v1, y1, s1, h1⟩ : ∃ v y s, numR 4 zs false = (v, y, s) := ⟨_, _, _, rfl⟩
  obtain ⟨v2, y2, s2, h2⟩ : ∃ v y s, numR 1 y1 s1 = (v, y, s) := ⟨_, _, _, rfl⟩
  obtain ⟨v3, y3, s3, h3⟩ : ∃ v y s, numR 4 y2 s2 = (v, y, s) := ⟨_, _, _, rfl⟩
  obtain ⟨v4, y4, s4, h4⟩ : ∃ v y s, numR 1 y3 s3 = (v, y, s) := ⟨_, _, _, rfl⟩
  obtain ⟨v5, y5, s5, h5⟩ : ∃ v y s, numR 4 y4 s4 = (v, y, s) := ⟨_, _, _, rfl⟩
  obtain ⟨v6, y6, s6, h6⟩ : ∃ v y s, txtR y5 s5 = (v, y, s) := ⟨_, _, _, rfl⟩
  obtain ⟨v7, y7, s7, h7⟩ : ∃ v y s, numR 1 y6 s6 = (v, y, s) := ⟨_, _, _, rfl⟩
  have H1 := Lib.hid h1
  have H2 := Lib.hid h2
  have H3 := Lib.hid h3
  have H4 := Lib.hid h4
  have H5 := Lib.hid h5
  have H6 := Lib.hid h6
  have H7 := Lib.hid h7
  obtain ⟨w1, hw1⟩ : ∃ w1, w1 = (w.alloc (.cells #[.int .i64 0, .int .i64 0, .int .i64 0, .int .i64 0, .int .i64 0, .slice none 0 0, .slice none 0 0] 36)).alloc (.cells #[.slice A n c, .bool false] 60) := ⟨_, rfl⟩
  obtain ⟨RR, hRR⟩ : ∃ RR, RR = w.heap.size := ⟨_, rfl⟩
  obtain ⟨R, hR⟩ : ∃ R, R = w.heap.size + 1 := ⟨_, rfl⟩
  have HB1 : Hid (Below w.heap.size w w1) := Lib.hid (by rw [hw1]; exact ba2 _ _ _)
  have HXR : Hid (Bx 36 w1 RR #[.int .i64 0, .int .i64 0, .int .i64 0, .int .i64 0, .int .i64 0, .slice none 0 0, .slice none 0 0]) := Lib.hid (by rw [hw1, hRR]; exact (bx_new w _ _).below (ba1 _ _))
  have HRV : Hid (RR = w.heap.size ∧ R = w.heap.size + 1) := Lib.hid ⟨hRR, hR⟩
  have HRD : Hid (RdIs R w1 zs false) := Lib.hid ⟨A, n, c, by
    have := bx_new (w.alloc (.cells #[.int .i64 0, .int .i64 0, .int .i64 0, .int .i64 0, .int .i64 0, .slice none 0 0, .slice none 0 0] 36)) 60 #[.slice A n c, .bool false]
    rw [World.size_alloc] at this
    rw [hw1, hR]; exact this, hs.below HB1.out, hl, hc, hc2, fun q hq e => by have := hA q hq; have e : R ≤ q.block := e; omega, ho⟩
  have HOZ := Lib.hid ho
  clear h1 h2 h3 h4 h5 h6 h7 hs hl hc hc2 ho hA
  go_enter Try.func19, Try.ntmps19
  go_upto_region 2 with fail
  rw [← hw1, ← hR, ← hRR]
  clear hw1 hR hRR
  go_upto_region 3 with (first
    | (go_at_call 35; (with_reducible refine (num_at4 w1 HRD.out H1.out).mono ?_); rintro e w2 ⟨o2, rfl, r2⟩; have O2 := Lib.hid o2; have R2 := Lib.hid r2; clear o2 r2)
    | (go_at_call 35; (with_reducible refine (num_at1 w2 R2.out H2.out).mono ?_); rintro e w3 ⟨o3, rfl, r3⟩; have O3 := Lib.hid o3; have R3 := Lib.hid r3; clear o3 r3)
    | (go_at_call 35; (with_reducible refine (num_at4 w3 R3.out H3.out).mono ?_); rintro e w4 ⟨o4, rfl, r4⟩; have O4 := Lib.hid o4; have R4 := Lib.hid r4; clear o4 r4)
    | (go_at_call 35; (with_reducible refine (num_at1 w4 R4.out H4.out).mono ?_); rintro e w5 ⟨o5, rfl, r5⟩; have O5 := Lib.hid o5; have R5 := Lib.hid r5; clear o5 r5)
    | (go_at_call 35; (with_reducible refine (num_at4 w5 R5.out H5.out).mono ?_); rintro e w6 ⟨o6, rfl, r6⟩; have O6 := Lib.hid o6; have R6 := Lib.hid r6; clear o6 r6)
    | (go_at_call 36; (with_reducible refine (text_at w6 R6.out H6.out).mono ?_); rintro e w7 ⟨o7, rfl, r7⟩; have O7 := Lib.hid o7; have R7 := Lib.hid r7; clear o7 r7; have hcv := (conv_bytes w7 v6).1; have HBY := Lib.hid (conv_bytes w7 v6).2; obtain ⟨w8, hw8⟩ : ∃ w8, w8 = Lib.bytesWorld w7 5 (tx v6) := ⟨_, rfl⟩; rw [← hw8] at hcv HBY; obtain ⟨c8, hc8⟩ : ∃ c8, c8 = grownCap w7 (tx v6).size 0 5 := ⟨_, rfl⟩; rw [← hc8] at hcv; clear hc8 hw8))
  obtain ⟨hb8, hl8, hz8⟩ := HBY.out
  obtain ⟨w9, hw9⟩ : ∃ w9, w9 = w8.alloc (.cells #[.int .i64 v1, .int .i64 v2, .int .i64 v3, .int .i64 v4, .int .i64 v5, .slice (some ⟨w7.heap.size, 0, none⟩) v6.length c8, .slice none 0 0] 36) := ⟨_, rfl⟩
  obtain ⟨D, hD⟩ : ∃ D, D = w7.heap.size := ⟨_, rfl⟩
  obtain ⟨X, hX⟩ : ∃ X, X = w8.heap.size := ⟨_, rfl⟩
  have HON7 : Hid (Only (fun j => j = R) w1 w7) := Lib.hid (((((O2.out.trans O3.out (fun j hj => .inl hj)).trans O4.out (fun j hj => .inl hj)).trans O5.out (fun j hj => .inl hj)).trans O6.out (fun j hj => .inl hj)).trans O7.out (fun j hj => .inl hj))
  have hb89 : Below w8.heap.size w8 w9 := by rw [hw9]; exact ba1 _ _
  have hb79 : Below w7.heap.size w7 w9 := bthen hb8 hb89
  have HR9 : Hid (RdIs R w9 y6 s6) := Lib.hid (R7.out.new hb79)
  have HL9 : Hid (Ls byS w9 (some ⟨D, 0, none⟩) (ofT v6)) := Lib.hid (by rw [hD]; exact hl8.below hb89)
  rw [← hD] at hw9
  have HX9 : Hid (Bx 36 w9 X #[.int .i64 v1, .int .i64 v2, .int .i64 v3, .int .i64 v4, .int .i64 v5, .slice (some ⟨D, 0, none⟩) v6.length c8, .slice none 0 0]) := Lib.hid (by rw [hw9, hX]; exact bx_new _ _ _)
  have HRX : Hid (R < D ∧ D < X ∧ RR < R ∧ X < w9.heap.size) := Lib.hid (by
    obtain ⟨A', n', c', h', -⟩ := R7.out
    have h1 := h'.lt
    have h2 := HX9.out.lt
    have h3 := HRV.out
    omega)
  have HON9 : Hid (Only (fun j => j = R) w1 w9) := Lib.hid (HON7.out.new hb79)
  obtain ⟨k7, hk7, hk255⟩ : ∃ k : Nat, v7 = (k : Int) ∧ k ≤ 255 := num1_bd (by obtain ⟨A', n', c', -, -, -, -, -, -, h⟩ := HR9.out; exact h) H7.out
  subst hk7
  rw [← hD, ← hX, ← hw9]
  clear hb8 hl8 hz8 hb89 hb79 hD hX hw9 hcv
  go_upto_region 4 with (go_at_call 35; (with_reducible refine (num_at1 w9 HR9.out H7.out).mono ?_); rintro e wb ⟨ob, rfl, rb⟩; have OB := Lib.hid ob; have RB := Lib.hid rb; clear ob rb)
  obtain ⟨base, hbs⟩ : ∃ base, base = wb.heap.size := ⟨_, rfl⟩
  have HBS := Lib.hid hbs
  have HXB : Hid (Bx 36 wb X #[.int .i64 v1, .int .i64 v2, .int .i64 v3, .int .i64 v4, .int .i64 v5, .slice (some ⟨D, 0, none⟩) v6.length c8, .slice none 0 0]) := Lib.hid (HX9.out.only OB.out (fun e => by have h := HRX.out; have e : X = R := e; omega))
  have HLB : Hid (Ls byS wb (some ⟨D, 0, none⟩) (ofT v6)) := Lib.hid (HL9.out.only OB.out (fun q hq e => by injection hq with hq; subst hq; have h := HRX.out; have e : D = R := e; omega))
  have HONB : Hid (Only (fun b => b = R ∨ b = X) w1 wb) := Lib.hid ((HON9.out.trans OB.out (fun j hj => .inl hj)).mono fun k hk => .inl hk)
  have HXb : Hid (X < base) := Lib.hid (by rw [hbs]; exact HXB.out.lt)
  obtain ⟨ns, yf, sf, hns⟩ : ∃ ns yf sf, nmsR k7 y7 s7 = (ns, yf, sf) := ⟨_, _, _, rfl⟩
  have HREF := Lib.hid (rep_ref HOZ.out H1.out H2.out H3.out H4.out H5.out H6.out H7.out hns)
  have HNS := Lib.hid hns
  clear hbs hns
  go_loopw [6] (fun i wr => ∃ (k : Nat) (acc : List Byt) (y : List Int) (s : Bool) (N : Option Addr) (j c' : Nat), i = .int .i64 (k : Int) ∧ j + k ≤ 255 ∧ RdIs R wr y s ∧ Bx 36 wr X #[.int .i64 v1, .int .i64 v2, .int .i64 v3, .int .i64 v4, .int .i64 v5, .slice (some ⟨D, 0, none⟩) v6.length c8, .slice N j c'] ∧ OwnL stS 9 wr base N j c' acc ∧ Only (fun b => b = R ∨ b = X) wb wr ∧ acc ++ (nmsR k y s).1 = ns ∧ (nmsR k y s).2 = (yf, sf)) (fun i _ => (intOf i).toNat)
  case atStart => exact ⟨k7, [], y7, s7, none, 0, 0, rfl, by omega, RB.out, HXB.out, OwnL.nil _ _, Only.refl _ _, by rw [HNS.out]; rfl, by rw [HNS.out]⟩
  case round =>
    obtain ⟨k, acc, y, s, N, j, c', rfl, hjk, hr, hx, ho, hon, hn1, hn2⟩ := hrel
    have HR := Lib.hid hr
    have HX := Lib.hid hx
    have HO := Lib.hid ho
    have HON := Lib.hid hon
    have HN1 := Lib.hid hn1
    have HN2 := Lib.hid hn2
    have HNA : Hid (acc.length = j) := Lib.hid ho.1
    obtain ⟨Ar, nr, cr, hbx, -, hyl, hnc, hcc, -⟩ := hr
    have HBXR := Lib.hid hbx
    have r0 := hbx.cell 0 _ rfl
    have r1 := hbx.cell 1 _ rfl
    have HYL := Lib.hid hyl
    clear hx ho hon hn1 hn2 hbx hyl
    rcases s with _ | _
    · by_cases hk : 0 < k
      · obtain ⟨k', rfl⟩ : ∃ k', k = k' + 1 := ⟨k - 1, by omega⟩
        have g1 : (0 : Int) < ((k' + 1 : Nat) : Int) := by omega
        obtain ⟨t, y', s', ht⟩ : ∃ t y' s', txtR y false = (t, y', s') := ⟨_, _, _, rfl⟩
        have HT := Lib.hid ht
        have HTX : Hid (∀ ww, Below wr.heap.size wr ww → Calls Try.prog 36 #[.pointer (some ⟨R, 0, none⟩)] ww fun e w' => Only (fun j => j = R) ww w' ∧ e = .returned (.string (tx t)) ∧ RdIs R w' y' s') := Lib.hid (fun ww h => text_at ww (HR.out.new h) HT.out)
        have x6 : wr.cell? ⟨X, 6, none⟩ = some (.slice N j c') := HX.out.cell 6 _ rfl
        have HE1 : Hid ((acc ++ [t]) ++ (nmsR k' y' s').1 = ns) := Lib.hid (by have h := HN1.out; rw [nmsR_go k' ht] at h; rw [List.append_assoc]; exact h)
        have HE2 : Hid ((nmsR k' y' s').2 = (yf, sf)) := Lib.hid (by have h := HN2.out; rw [nmsR_go k' ht] at h; exact h)
        clear ht
        have hRX : R < X := by have h := HRX.out; omega
        have hz0 : base ≤ wr.heap.size := by rw [HBS.out]; exact HON.out.size
        have HOFF : Hid (Off X (.slice N j c')) := Lib.hid (Off.under (fun q hq => (HO.out.lt q hq).1) HXb.out)
        go_upto_region 6 with fail
        go_region_law (first
          | (go_simp; go_at_call 36; (with_reducible refine (HTX.out _ (by first | exact Below.refl _ _ | exact (Below.refl _ _).drew)).mono ?_); rintro e w5 ⟨o5, rfl, r5⟩; have O5 : Hid (Only (fun j => j = R) wr w5) := Lib.hid (by first | exact o5 | exact ((Only.refl _ wr).new (Below.refl _ _).drew).trans o5 (fun j hj => .inl hj)); have R5 := Lib.hid r5; have X5 := Lib.hid (HX.out.only O5.out (fun e => by have e : X = R := e; omega)); have x65 := X5.out.cell 6 _ rfl; have x65a := (X5.out.below (ba1 w5 (.cells #[.string (tx t)] 9))).cell 6 _ rfl; have hz5 : base ≤ w5.heap.size := Nat.le_trans hz0 O5.out.size; have OL5 : Hid (OwnL stS 9 w5 base N j c' acc) := Lib.hid (HO.out.keep (fun g hg => O5.out.block g (HO.out.lt g hg).2 (fun e => by have h1 := (HO.out.lt g hg).1; have h2 := HXb.out; have e : g = R := e; omega))); clear o5 r5)
          | (refine step_appL (F := stS) rfl _ (.tmp 38) (.tmp 41) 34 rfl _ 16 Try.underlying34 stInfo rfl base N j c' _ (by first | rfl | simp [Act.eval, Act.put]) (OL5.out.below (ba1 _ _)) (some ⟨w5.heap.size, 0, none⟩) 1 1 ([t] : List Byt) (by first | rfl | simp [Act.eval, Act.put]) (ls_new w5 9 ([t] : List Byt) _ rfl _ rfl) rfl (j + 1) rfl (by omega) (by omega) (by simp; omega) ?_; intro N6 c6 w6 ho6 hb6 hs6; have HO6 := Lib.hid ho6; have HX6 := Lib.hid ((X5.out.below (ba1 _ _)).beside hs6 HOFF.out); have HB6 := Lib.hid hb6; have HS6 := Lib.hid hs6; have x66 := HX6.out.cell 6 _ rfl; have z66 := HX6.out.soft 6; have lx6 := HX6.out.lt; clear ho6 hb6 hs6))
        all_goals
          go_wp2_with fail
          exact ⟨⟨k', acc ++ [t], y', s', N6, j + 1, c6, by go_num, by omega, ((R5.out.new (ba1 _ _)).under HB6.out (Nat.lt_trans hRX HXb.out)).put hRX _, HX6.out.set 6 _, HO6.out.set (HOFF.out.grow HS6.out (by have h := HXb.out; simp; omega)) 6 _, ((((HON.out.trans O5.out (fun q hq => .inl (.inl hq))).new (ba1 _ _)).trans (only_ofB HB6.out) (fun q hq => .inr (by rw [← HBS.out]; exact hq))).setCell (.inl (.inr rfl)) _), HE1.out, HE2.out⟩, by simp [intOf]⟩
      · obtain rfl : k = 0 := by omega
        have hef : sf = false ∧ y = yf ∧ acc = ns := by
          have h1 := HN1.out
          have h2 := HN2.out
          change acc ++ [] = ns at h1
          change (y, false) = (yf, sf) at h2
          rw [List.append_nil] at h1
          injection h2 with h2 h3
          exact ⟨h3.symm, h2, h1⟩
        obtain ⟨rfl, rfl, rfl⟩ := hef
        obtain ⟨x, hxd⟩ : ∃ x : Rpv, x = ⟨v1, v2, v3, v4, v5, some ⟨D, 0, none⟩, v6.length, c8, ofT v6, N, j, c', acc⟩ := ⟨_, rfl⟩
        have hin : x.In wr := by
          rw [hxd]
          exact ⟨⟨HLB.out.only HON.out (fun q hq e => by injection hq with hq; subst hq; have h := HRX.out; have e : D = R ∨ D = X := e; omega), ofT_len v6⟩, HO.out.ls, HNA.out⟩
        have hj : x.n ≤ 140737488355328 := by rw [hxd]; show j ≤ _; omega
        have HIN := Lib.hid hin
        have HXV : Hid (Bx 36 wr X #[.int .i64 x.mrk, .int .i64 x.code, .int .i64 x.han, .int .i64 x.kd, .int .i64 x.sz, .slice x.D x.m x.d, .slice x.N x.n x.c]) := Lib.hid (by rw [hxd]; exact HX.out)
        have HAS : Hid (answeredT zs = if 0 < y.length ∨ x.rp.fault ≠ 0 then (4, Rp.zero) else (0, x.rp)) := Lib.hid (by rw [hxd]; exact HREF.out.2 rfl)
        have HXRr : Hid (Bx 36 wr RR #[.int .i64 0, .int .i64 0, .int .i64 0, .int .i64 0, .int .i64 0, .slice none 0 0, .slice none 0 0]) := Lib.hid ((HXR.out.only HONB.out (fun e => by have h := HRX.out; have e : RR = R ∨ RR = X := e; omega)).only HON.out (fun e => by have h := HRX.out; have e : RR = R ∨ RR = X := e; omega))
        have HBW : Hid (Below w.heap.size w wr) := Lib.hid (HB1.out.trans ((HONB.out.trans HON.out (fun q hq => .inl hq)).below (fun q hq => by have h := HRX.out; have h2 := HRV.out; have hq : q = R ∨ q = X := hq; omega) HB1.out.size))
        clear hxd hin
        by_cases hn3 : 0 < nr
        · have g1 : (0 : Int) < (nr : Int) := by omega
          have HK4 : Hid (answeredT zs = (4, Rp.zero)) := Lib.hid (by rw [HAS.out]; exact if_pos (.inl (by rw [HYL.out]; exact hn3)))
          obtain ⟨lR, c0, c1, c2, c3, c4, c5, c6, fr⟩ := HXRr.out.cells7
          have z0 := fr 0
          have z1 := fr 1
          have z2 := fr 2
          have z3 := fr 3
          have z4 := fr 4
          have z5 := fr 5
          have z6 := fr 6
          clear fr
          go_wp2_with fail
          obtain ⟨wf, hwf⟩ : ∃ wf, wf = put7 wr RR (.int .i64 0) (.int .i64 0) (.int .i64 0) (.int .i64 0) (.int .i64 0) (.slice none 0 0) (.slice none 0 0) := ⟨_, rfl⟩
          have hf := HXRr.out.put7 (.int .i64 0) (.int .i64 0) (.int .i64 0) (.int .i64 0) (.int .i64 0) (.slice none 0 0) (.slice none 0 0)
          have hon : Only (fun k => k = RR) wr wf := by rw [hwf]; exact only_put7 wr RR (.int .i64 0) (.int .i64 0) (.int .i64 0) (.int .i64 0) (.int .i64 0) (.slice none 0 0) (.slice none 0 0)
          have hbf : Below w.heap.size w wf := HBW.out.trans (hon.below (fun k hk => by have hk : k = RR := hk; have := HRV.out; omega) HBW.out.size)
          rw [← hwf] at hf
          obtain ⟨-, r0, r1, r2, r3, r4, r5, r6, -⟩ := hf.cells7
          unfold put7 at hwf
          rw [← hwf]
          refine end_ret (v := .tuple #[.agg #[.int .i64 0, .int .i64 0, .int .i64 0, .int .i64 0, .int .i64 0, .slice none 0 0, .slice none 0 0], .int .i64 4]) (by simp [results, Try.results19, go_sem, r0, r1, r2, r3, r4, r5, r6]) ?_
          exact ret_noneR hbf HK4.out
        · obtain rfl : nr = 0 := by omega
          have HFT := Lib.hid (ansFault_any x wr HIN.out hj)
          have HFC : Hid (x.fault = x.rp.fault) := Lib.hid (by unfold Rpv.fault Rp.fault Rpv.rp; rw [HIN.out.1.2])
          obtain ⟨v, hv⟩ : ∃ v, v = x.fault := ⟨_, rfl⟩
          rw [← hv] at HFT HFC
          clear hv
          obtain ⟨lx, q0, q1, q2, q3, q4, q5, q6, -⟩ := HXV.out.cells7
          have HY0 : Hid (¬ 0 < y.length) := Lib.hid (by rw [HYL.out]; omega)
          by_cases hv0 : v = 0
          · have HK0 : Hid (answeredT zs = (0, x.rp)) := Lib.hid (by
              rw [HAS.out]
              exact if_neg (by rintro (h | h); exact HY0.out h; exact h (by rw [← HFC.out]; exact hv0)))
            subst hv0
            go_wp2_with (go_at_call 40; (with_reducible refine HFT.out.mono ?_); rintro e w4 ⟨rfl, hb4⟩; have HB4 := Lib.hid hb4; have HXR5 := Lib.hid (HXRr.out.below hb4); have HBW5 := Lib.hid (bthen HBW.out hb4); obtain ⟨lR, c0, c1, c2, c3, c4, c5, c6, fr⟩ := HXR5.out.cells7; have z0 := fr 0; have z1 := fr 1; have z2 := fr 2; have z3 := fr 3; have z4 := fr 4; have z5 := fr 5; have z6 := fr 6; clear fr; obtain ⟨lx, q0, q1, q2, q3, q4, q5, q6, -⟩ := (HXV.out.below hb4).cells7; clear hb4)
            obtain ⟨wf, hwf⟩ : ∃ wf, wf = put7 w4 RR (.int .i64 x.mrk) (.int .i64 x.code) (.int .i64 x.han) (.int .i64 x.kd) (.int .i64 x.sz) (.slice x.D x.m x.d) (.slice x.N x.n x.c) := ⟨_, rfl⟩
            have hf := HXR5.out.put7 (.int .i64 x.mrk) (.int .i64 x.code) (.int .i64 x.han) (.int .i64 x.kd) (.int .i64 x.sz) (.slice x.D x.m x.d) (.slice x.N x.n x.c)
            have hon : Only (fun k => k = RR) w4 wf := by rw [hwf]; exact only_put7 w4 RR (.int .i64 x.mrk) (.int .i64 x.code) (.int .i64 x.han) (.int .i64 x.kd) (.int .i64 x.sz) (.slice x.D x.m x.d) (.slice x.N x.n x.c)
            have hbf : Below w.heap.size w wf := HBW5.out.trans (hon.below (fun k hk => by have hk : k = RR := hk; have := HRV.out; omega) HBW5.out.size)
            rw [← hwf] at hf
            obtain ⟨-, r0, r1, r2, r3, r4, r5, r6, -⟩ := hf.cells7
            unfold put7 at hwf
            rw [← hwf]
            refine end_ret (v := .tuple #[.agg #[.int .i64 x.mrk, .int .i64 x.code, .int .i64 x.han, .int .i64 x.kd, .int .i64 x.sz, .slice x.D x.m x.d, .slice x.N x.n x.c], .int .i64 0]) (by simp [results, Try.results19, go_sem, r0, r1, r2, r3, r4, r5, r6]) ?_
            exact ⟨hbf, x, by rw [HK0.out], (HIN.out.below HB4.out).put HXR5.out hon, by rw [HK0.out]⟩
          · have HK4 : Hid (answeredT zs = (4, Rp.zero)) := Lib.hid (by
              rw [HAS.out]
              exact if_pos (.inr (by rw [← HFC.out]; exact hv0)))
            have hv1 : (v == 0) = false := by simpa using hv0
            have hv2 : (v != 0) = true := by simpa using hv0
            go_wp2_with (go_at_call 40; (with_reducible refine HFT.out.mono ?_); rintro e w4 ⟨rfl, hb4⟩; have HB4 := Lib.hid hb4; have HXR5 := Lib.hid (HXRr.out.below hb4); have HBW5 := Lib.hid (bthen HBW.out hb4); obtain ⟨lR, c0, c1, c2, c3, c4, c5, c6, fr⟩ := HXR5.out.cells7; have z0 := fr 0; have z1 := fr 1; have z2 := fr 2; have z3 := fr 3; have z4 := fr 4; have z5 := fr 5; have z6 := fr 6; clear fr; obtain ⟨lx, q0, q1, q2, q3, q4, q5, q6, -⟩ := (HXV.out.below hb4).cells7; clear hb4)
            obtain ⟨wf, hwf⟩ : ∃ wf, wf = put7 w4 RR (.int .i64 0) (.int .i64 0) (.int .i64 0) (.int .i64 0) (.int .i64 0) (.slice none 0 0) (.slice none 0 0) := ⟨_, rfl⟩
            have hf := HXR5.out.put7 (.int .i64 0) (.int .i64 0) (.int .i64 0) (.int .i64 0) (.int .i64 0) (.slice none 0 0) (.slice none 0 0)
            have hon : Only (fun k => k = RR) w4 wf := by rw [hwf]; exact only_put7 w4 RR (.int .i64 0) (.int .i64 0) (.int .i64 0) (.int .i64 0) (.int .i64 0) (.slice none 0 0) (.slice none 0 0)
            have hbf : Below w.heap.size w wf := HBW5.out.trans (hon.below (fun k hk => by have hk : k = RR := hk; have := HRV.out; omega) HBW5.out.size)
            rw [← hwf] at hf
            obtain ⟨-, r0, r1, r2, r3, r4, r5, r6, -⟩ := hf.cells7
            unfold put7 at hwf
            rw [← hwf]
            refine end_ret (v := .tuple #[.agg #[.int .i64 0, .int .i64 0, .int .i64 0, .int .i64 0, .int .i64 0, .slice none 0 0, .slice none 0 0], .int .i64 4]) (by simp [results, Try.results19, go_sem, r0, r1, r2, r3, r4, r5, r6]) ?_
            exact ret_noneR hbf HK4.out
    · have hef : sf = true ∧ y = yf := by
        have h2 := HN2.out
        rw [nmsR_short] at h2
        injection h2 with h2 h3
        exact ⟨h3.symm, h2⟩
      have HK : Hid (answeredT zs = (5, Rp.zero)) := Lib.hid (HREF.out.1 hef.1)
      have HXRr : Hid (Bx 36 wr RR #[.int .i64 0, .int .i64 0, .int .i64 0, .int .i64 0, .int .i64 0, .slice none 0 0, .slice none 0 0]) := Lib.hid ((HXR.out.only HONB.out (fun e => by have h := HRX.out; have e : RR = R ∨ RR = X := e; omega)).only HON.out (fun e => by have h := HRX.out; have e : RR = R ∨ RR = X := e; omega))
      have HBW : Hid (Below w.heap.size w wr) := Lib.hid (HB1.out.trans ((HONB.out.trans HON.out (fun q hq => .inl hq)).below (fun q hq => by have h := HRX.out; have h2 := HRV.out; have hq : q = R ∨ q = X := hq; omega) HB1.out.size))
      obtain ⟨lR, c0, c1, c2, c3, c4, c5, c6, fr⟩ := HXRr.out.cells7
      have z0 := fr 0
      have z1 := fr 1
      have z2 := fr 2
      have z3 := fr 3
      have z4 := fr 4
      have z5 := fr 5
      have z6 := fr 6
      clear fr hef
      have hkk : (0 : Int) < (k : Int) ∨ ¬ (0 : Int) < (k : Int) := by omega
      rcases hkk with g1 | g1
      all_goals
        go_wp2_with fail
        obtain ⟨wf, hwf⟩ : ∃ wf, wf = put7 wr RR (.int .i64 0) (.int .i64 0) (.int .i64 0) (.int .i64 0) (.int .i64 0) (.slice none 0 0) (.slice none 0 0) := ⟨_, rfl⟩
        have hf := HXRr.out.put7 (.int .i64 0) (.int .i64 0) (.int .i64 0) (.int .i64 0) (.int .i64 0) (.slice none 0 0) (.slice none 0 0)
        have hon : Only (fun k => k = RR) wr wf := by rw [hwf]; exact only_put7 wr RR (.int .i64 0) (.int .i64 0) (.int .i64 0) (.int .i64 0) (.int .i64 0) (.slice none 0 0) (.slice none 0 0)
        have hbf : Below w.heap.size w wf := HBW.out.trans (hon.below (fun k hk => by have hk : k = RR := hk; have := HRV.out; omega) HBW.out.size)
        rw [← hwf] at hf
        obtain ⟨-, r0, r1, r2, r3, r4, r5, r6, -⟩ := hf.cells7
        unfold put7 at hwf
        rw [← hwf]
        refine end_ret (v := .tuple #[.agg #[.int .i64 0, .int .i64 0, .int .i64 0, .int .i64 0, .int .i64 0, .slice none 0 0, .slice none 0 0], .int .i64 5]) (by simp [results, Try.results19, go_sem, r0, r1, r2, r3, r4, r5, r6]) ?_
        exact ret_noneR hbf HK.out

end Go.Proofs.Ytelfnlocgknpjaa
