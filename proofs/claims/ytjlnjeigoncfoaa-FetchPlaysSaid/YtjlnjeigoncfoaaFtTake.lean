/-
  The program's file: take.
-/
import Derived.Test.YtjlnjeigoncfoaaFtNext2
import Derived.Test.YtjlnjeigoncfoaaFtDel
import Derived.Test.YtjlnjeigoncfoaaFtCopy
namespace Go.Proofs.Ytjlnjeigoncfoaa
open Go.RowKit
set_option linter.unusedVariables false
set_option linter.unusedSimpArgs false

/-- where take's boxes lie, and what is known of them -/
structure Tk (w : World) (T1 : Nat → Prop) (B q3 q4 : Nat) (s : Fs) (a k : Int) (X : Option Addr) (m d : Nat) : Prop where
  file : FM w T1 B s
  got : Bx 42 w q3 #[.int .i64 a, .int .i64 k, .slice X m d]
  res : Bx 30 w q4 #[.int .i64 0, .slice none 0 0, .bool false, .slice none 0 0]
theorem Tk.below {w w' : World} {T1 : Nat → Prop} {B q3 q4 : Nat} {s : Fs} {a k : Int} {X : Option Addr} {m d : Nat} (h : Tk w T1 B q3 q4 s a k X m d) (hb : Below w.heap.size w w') : Tk w' T1 B q3 q4 s a k X m d :=
  ⟨h.file.new hb, h.got.below hb, h.res.below hb⟩
theorem Tk.cells {w : World} {T1 : Nat → Prop} {B q3 q4 : Nat} {s : Fs} {a k : Int} {X : Option Addr} {m d : Nat} (h : Tk w T1 B q3 q4 s a k X m d) :
    w.cell? ⟨q3, 0, none⟩ = some (.int .i64 a) ∧ w.cell? ⟨q3, 1, none⟩ = some (.int .i64 k) ∧ w.cell? ⟨q3, 2, none⟩ = some (.slice X m d) ∧ q3 < w.heap.size ∧ q4 < w.heap.size ∧ B < w.heap.size :=
  ⟨h.got.cell 0 _ rfl, h.got.cell 1 _ rfl, h.got.cell 2 _ rfl, h.got.lt, h.res.lt, h.file.lt⟩
theorem Tk.one {w w' : World} {T1 : Nat → Prop} {B q3 q4 : Nat} {s s' : Fs} {a k : Int} {X : Option Addr} {m d : Nat} (h : Tk w T1 B q3 q4 s a k X m d) (hf : FM w' T1 B s') (ho : Only (fun j => B ≤ j ∧ ¬ T1 j) w w') (h3 : T1 q3) (h4 : T1 q4) : Tk w' T1 B q3 q4 s' a k X m d :=
  ⟨hf, h.got.only ho (fun g => g.2 h3), h.res.only ho (fun g => g.2 h4)⟩

set_option maxHeartbeats 8000000 in
theorem take_any (w : World) (T : Nat → Prop) (B : Nat) (s : Fs) (h : FM w T B s) (hs : FsOk s) (hT : ∀ k, T k → k < w.heap.size) (g : Gt) (X : Option Addr) (m d : Nat) (hX : Ls byS w X g.data) (hm : g.data.length = m) (hm47 : m ≤ 140737488355328) (hXB : m = 0 ∨ ∀ a, X = some a → a.block < B) :
    Calls Try.prog 14 #[.pointer (some ⟨B, 0, none⟩), .agg #[.int .i64 g.at_, .int .i64 g.cnt, .slice X m d]] w (RetX w T B (takeG s g)) := by
  have H := Lib.hid h
  have HS := Lib.hid hs
  have HT := Lib.hid hT
  have HM := Lib.hid hm
  have HXB := Lib.hid hXB
  have hB := h.lt
  obtain ⟨a, ha⟩ : ∃ a, a = g.at_ := ⟨_, rfl⟩
  obtain ⟨ct, hct⟩ : ∃ k, k = g.cnt := ⟨_, rfl⟩
  rw [← ha, ← hct]
  have HA := Lib.hid ha
  have HCT := Lib.hid hct
  obtain ⟨q3, hq3⟩ : ∃ q, q = w.heap.size := ⟨_, rfl⟩
  obtain ⟨w0, hw0⟩ : ∃ w0, w0 = w.alloc (.cells #[.int .i64 a, .int .i64 ct, .slice X m d] 42) := ⟨_, rfl⟩
  have HX0 : Hid (Bx 42 w0 q3 #[.int .i64 a, .int .i64 ct, .slice X m d]) := Lib.hid (by rw [hw0, hq3]; exact bx_new _ _ _)
  have HB0 : Hid (Below w.heap.size w w0) := Lib.hid (by rw [hw0]; exact ba1 _ _)
  obtain ⟨q4, hq4⟩ : ∃ q, q = w0.heap.size := ⟨_, rfl⟩
  obtain ⟨w1, hw1⟩ : ∃ w1, w1 = w0.alloc (.cells #[.int .i64 0, .slice none 0 0, .bool false, .slice none 0 0] 30) := ⟨_, rfl⟩
  have HB1 : Hid (Below w0.heap.size w0 w1) := Lib.hid (by rw [hw1]; exact ba1 _ _)
  have HX1 : Hid (Bx 30 w1 q4 #[.int .i64 0, .slice none 0 0, .bool false, .slice none 0 0]) := Lib.hid (by rw [hw1, hq4]; exact bx_new _ _ _)
  have HB2 : Hid (Below w.heap.size w w1) := Lib.hid (bthen HB0.out HB1.out)
  have hq4' : q4 = q3 + 1 := by rw [hq4, hw0, hq3]; simp
  have HQ3 : Hid (w.heap.size ≤ q3) := Lib.hid (by rw [hq3]; exact Nat.le_refl _)
  have HQ34 : Hid (q3 < q4) := Lib.hid (by rw [hq4]; exact HX0.out.lt)
  obtain ⟨T1, hT1⟩ : ∃ T1 : Nat → Prop, T1 = fun k => T k ∨ k = q3 ∨ k = q4 := ⟨_, rfl⟩
  have HT1 : Hid (∀ k, T1 k ↔ (T k ∨ k = q3 ∨ k = q4)) := Lib.hid (fun k => by rw [hT1])
  have HT13 : Hid (T1 q3) := Lib.hid ((HT1.out q3).2 (.inr (.inl rfl)))
  have HT14 : Hid (T1 q4) := Lib.hid ((HT1.out q4).2 (.inr (.inr rfl)))
  have HTK1 : Hid (Tk w1 T1 B q3 q4 s a ct X m d) := Lib.hid ⟨h.only (S := fun _ => False) (only_new HB2.out) (fun _ h => h.elim) (fun k hk => by
    rcases (HT1.out k).1 hk with hk | rfl | rfl
    · exact .inl hk
    · exact .inr HQ3.out
    · exact .inr (by have := HQ3.out; have := HQ34.out; omega)), HX0.out.below HB1.out, HX1.out⟩
  have HTL1 : Hid (∀ k, T1 k → k < w1.heap.size) := Lib.hid (fun k hk => by
    rcases (HT1.out k).1 hk with hk | rfl | rfl
    · exact Nat.lt_of_lt_of_le (HT.out k hk) HB2.out.size
    · have := HQ34.out; have := HX1.out.lt; omega
    · exact HX1.out.lt)
  have HXL : Hid (Ls byS w1 X g.data) := Lib.hid (hX.below HB2.out)
  obtain ⟨r, hr⟩ : ∃ r, r = takeG s g := ⟨_, rfl⟩
  rw [← hr]
  have HR := Lib.hid hr
  -- what is told of what is refused
  have hno : ∀ (cc : Int) (w9 : World), r = (({ code := cc, wants := [], done := false, data := [] } : Nx), s) → Below w1.heap.size w1 w9 → RetX w T B r (.returned (.agg #[.int .i64 cc, .slice none 0 0, .bool false, .slice none 0 0])) (put4 w9 q4 (.int .i64 cc) (.slice none 0 0) (.bool false) (.slice none 0 0)) := fun cc w9 e hb => by
    rw [e]
    have ho := only_put4 w9 q4 (.int .i64 cc) (.slice none 0 0) (.bool false) (.slice none 0 0)
    refine ⟨none, 0, 0, none, 0, 0, rfl, rfl, OwnL.nil _ _, rfl, OwnL.nil _ _, ?_, ?_⟩
    · refine (HTK1.out.file.new hb).only ho (fun k hk => .inl (by rw [hk]; exact HT14.out)) (fun k hk => ?_)
      rcases hk with hk | ⟨a, h, -⟩ | ⟨a, h, -⟩
      · exact .inl ((HT1.out k).2 (.inl hk))
      · cases h
      · cases h
    · exact ((only_new HB2.out).new hb).trans ho (fun k hk => .inr (by rw [hk]; have := HQ3.out; have := HQ34.out; omega))
  have HNO := Lib.hid hno
  have HIX : Hid (∀ A n c (w2 : World), Ls wtS w2 A s.out → s.out.length = n → Calls Try.prog 20 #[.slice A n c, .agg #[.int .i64 a, .int .i64 ct]] w2 fun e w' => (∃ i : Int, e = .returned (.int .i64 i) ∧ IdxIs s.out (a, ct) i) ∧ Below w2.heap.size w2 w') := Lib.hid (fun A n c w2 h1 h2 => index_any A n c s.out a ct w2 h1 h2 (by have := HS.out.few; omega))
  clear h hs hT hm hXB hX hno hr hT1 ha hct
  go_enter Try.func14, Try.ntmps14
  go_upto_region 1 with fail
  rw [← hw0, ← hq3, ← hw1, ← hq4']
  clear hw0 hq3 hw1 hq4 hq4'
  obtain ⟨p0, p1, p2, p3, p4, p5⟩ := HTK1.out.cells
  obtain ⟨A, c, ⟨c0, -, -, -⟩, hf, hO, hY⟩ := HTK1.out.file.cells
  obtain ⟨n, hn⟩ : ∃ n, n = s.out.length := ⟨_, rfl⟩
  have HN := Lib.hid hn
  have HO1 := Lib.hid hO
  rw [← hn] at c0 HO1
  have HIX1 := Lib.hid (HIX.out A n c w1.drew (HO1.out.below (Below.refl _ _).drew).ls HN.out.symm)
  have HC0 := Lib.hid c0
  clear hf hO hY hn
  have b0 := cell_drew1 c0
  have b1 := cell_drew1 p0
  have b2 := cell_drew1 p1
  go_region_held3 (fun w' => w'.cell? ⟨B, 2148, none⟩ = some (.slice A n c) ∧ w'.cell? ⟨q3, 0, none⟩ = some (.int .i64 a) ∧ w'.cell? ⟨q3, 1, none⟩ = some (.int .i64 ct)) (first | (with_reducible exact ⟨m0, m1, m2⟩) | (with_reducible exact ⟨b0, b1, b2⟩) | go_keep) (first
    | (go_at_call 20; (with_reducible refine HIX1.out.mono ?_); rintro e w2 ⟨⟨i, rfl, hi⟩, hb2⟩; have HI := Lib.hid hi; have HB3 := Lib.hid hb2; have m0 := (hb2.cell (p := ⟨B, 2148, none⟩) p5).trans b0; have m1 := (hb2.cell (p := ⟨q3, 0, none⟩) p3).trans b1; have m2 := (hb2.cell (p := ⟨q3, 1, none⟩) p3).trans b2; clear hi hb2))
  have HTK2 : Hid (Tk w2 T1 B q3 q4 s a ct X m d) := Lib.hid ((HTK1.out.below (Below.refl _ _).drew).below HB3.out)
  have HB12 : Hid (Below w1.heap.size w1 w2) := Lib.hid ((Below.refl _ _).drew.trans HB3.out)
  clear p0 p1 p2 p3 p4 p5 b0 b1 b2 m0 m1 m2 c0
  obtain ⟨p0, p1, p2, p3, p4, p5⟩ := HTK2.out.cells
  rcases HI.out with ⟨hni, rfl⟩ | ⟨k, rfl, hkl, hmem, her⟩
  · have HE : Hid (r = (({ code := 7, wants := [], done := false, data := [] } : Nx), s)) := Lib.hid (by rw [HR.out]; unfold takeG; rw [← HA.out, ← HCT.out, if_neg hni])
    clear hni
    obtain ⟨r0, r1, r2, r3, r4, f1, f2, f3, f4⟩ := HTK2.out.res.cells4
    go_wp2_with fail
    obtain ⟨w9, hw9⟩ : ∃ w9, w9 = put4 w2 q4 (.int .i64 7) (.slice none 0 0) (.bool false) (.slice none 0 0) := ⟨_, rfl⟩
    have HX9 : Hid (Bx 30 w9 q4 #[.int .i64 7, .slice none 0 0, .bool false, .slice none 0 0]) := Lib.hid (by rw [hw9]; exact HTK2.out.res.put4 _ _ _ _)
    have HF := Lib.hid (HNO.out 7 w2 HE.out HB12.out)
    rw [← hw9] at HF
    unfold put4 at hw9
    rw [← hw9]
    clear r0 r1 r2 r3 r4 f1 f2 f3 f4 hw9
    obtain ⟨r0, r1, r2, r3, r4, f1, f2, f3, f4⟩ := HX9.out.cells4
    refine end_ret (v := .agg #[.int .i64 7, .slice none 0 0, .bool false, .slice none 0 0]) (by simp [results, Try.results14, go_sem, r0, r1, r2, r3, r4, f1, f2, f3, f4]; try rfl) ?_
    exact HF.out
  · have hk0 : ¬ (k : Int) < 0 := by omega
    by_cases hbig : ct < (m : Int)
    · have HE : Hid (r = (({ code := 1, wants := [], done := false, data := [] } : Nx), s)) := Lib.hid (by rw [HR.out]; unfold takeG; rw [← HA.out, ← HCT.out, if_pos hmem, HM.out, if_pos hbig])
      clear hmem her
      obtain ⟨r0, r1, r2, r3, r4, f1, f2, f3, f4⟩ := HTK2.out.res.cells4
      go_wp2_with fail
      obtain ⟨w9, hw9⟩ : ∃ w9, w9 = put4 w2 q4 (.int .i64 1) (.slice none 0 0) (.bool false) (.slice none 0 0) := ⟨_, rfl⟩
      have HX9 : Hid (Bx 30 w9 q4 #[.int .i64 1, .slice none 0 0, .bool false, .slice none 0 0]) := Lib.hid (by rw [hw9]; exact HTK2.out.res.put4 _ _ _ _)
      have HF := Lib.hid (HNO.out 1 w2 HE.out HB12.out)
      rw [← hw9] at HF
      unfold put4 at hw9
      rw [← hw9]
      clear r0 r1 r2 r3 r4 f1 f2 f3 f4 hw9
      obtain ⟨r0, r1, r2, r3, r4, f1, f2, f3, f4⟩ := HX9.out.cells4
      refine end_ret (v := .agg #[.int .i64 1, .slice none 0 0, .bool false, .slice none 0 0]) (by simp [results, Try.results14, go_sem, r0, r1, r2, r3, r4, f1, f2, f3, f4]; try rfl) ?_
      exact HF.out
    · obtain ⟨w3', hw3'⟩ : ∃ x, x = w2 := ⟨_, rfl⟩
      have hab := HS.out.wants _ hmem
      obtain ⟨v0, v1, v2, v3⟩ := hab
      simp only at v0 v1 v2 v3
      have v4 := HS.out.f1
      have v5 := HS.out.few
      obtain ⟨an, han⟩ : ∃ an : Nat, a = an := ⟨a.toNat, by omega⟩
      subst han
      have hkn : k < n := by rw [HN.out]; exact hkl
      have hn6 : n ≤ 6 := by rw [HN.out]; exact v5
      obtain ⟨s2, hs2⟩ : ∃ s2 : Fs, s2 = { s with out := s.out.erase ((an : Int), ct) } := ⟨_, rfl⟩
      obtain ⟨s3, hs3⟩ : ∃ s3 : Fs, s3 = { s2 with dat := splice s2.dat an g.data } := ⟨_, rfl⟩
      have HS3 := Lib.hid hs3
      have HE : Hid (r = nextT (n - 1) (gotT g s)) := Lib.hid (by rw [HR.out]; unfold takeG; rw [← HA.out, ← HCT.out, if_pos hmem, HM.out, if_neg hbig, HN.out])
      have HG : Hid (gotT g s = if m = 0 then stopT an s3 else if (m : Int) < ct then askT ((an : Int) + m, ct - m) s3 else s3) := Lib.hid (by
        unfold gotT; rw [← HA.out, ← HCT.out, HM.out, hs3, hs2]; rfl)
      have HGK : Hid (FsOk (gotT g s)) := Lib.hid (HS.out.got g (by rw [← HA.out, ← HCT.out]; exact hmem) (by rw [← HCT.out, HM.out]; exact hbig))
      have HGL : Hid (n - 1 ≤ (gotT g s).out.length) := Lib.hid (by
        have e := erase_len hmem
        have e3 : s3.out.length = n - 1 := by rw [hs3, hs2]; simp only; rw [e, HN.out]
        rw [HG.out]
        split
        · unfold stopT; split <;> simp [e3]
        · split
          · simp [askT, e3]
          · exact Nat.le_of_eq e3.symm)
      have HFM3 : Hid (∃ gA, A = some ⟨gA, 0, none⟩) := Lib.hid (by
        rcases HO1.out.addr with ⟨-, h, -⟩ | ⟨gA, h, -⟩
        · omega
        · exact ⟨gA, h⟩)
      obtain ⟨gA, rfl⟩ := HFM3.out
      have HER := Lib.hid her
      have HS2 := Lib.hid hs2
      clear hmem her hs2 hs3 HFM3 hw3' w3'
      have HO2 : Hid (OwnL wtS 33 w2 (B + 1) (some ⟨gA, 0, none⟩) n c s.out) := Lib.hid (HO1.out.below HB12.out)
      have HKN := Lib.hid hkn
      have HGB : Hid (¬ B = gA) := Lib.hid (by have := (HO2.out.lt gA rfl).1; omega)
      have hcp := HO2.out.cap
      have c0 := (HB12.out.cell (p := ⟨B, 2148, none⟩) HTK1.out.file.lt).trans HC0.out
      have HC2 := Lib.hid c0
      have f0 : w2.frozen? ⟨B, 2148, none⟩ = false := by obtain ⟨_, _, _, hf, _⟩ := HTK2.out.file.cells; exact hf _
      have HDEL := Lib.hid (delete_any w2 (B + 1) gA n c s.out HO2.out k hkn (by omega))
      have hw1 : IntKind.i64.wrap ((k : Int) + 1) = (k : Int) + 1 := by rw [IntKind.wrap_i64]; omega
      go_upto_region 8 with (go_at_call 21; (with_reducible refine HDEL.out.mono ?_); rintro e w3 ⟨rfl, ho3, hn3⟩; have HO3 := Lib.hid ho3; have HN3 := Lib.hid hn3; have c03 := (World.cell?_of_block (hn3.block B p5 HGB.out)).trans c0; have f03 := (World.frozen?_of_block (a := ⟨B, 2148, none⟩) (hn3.block B p5 HGB.out)).trans f0; clear ho3 hn3)
      have HFM4 := Lib.hid (HTK2.out.file.row (s' := s2) (some ⟨gA, 0, none⟩) c (by rw [← HN.out]; exact HC2.out) (some ⟨gA, 0, none⟩) (n - 1) c (by rw [HS2.out]; exact ⟨rfl, rfl, rfl, rfl⟩) (by rw [HS2.out]; simp only; rw [HER.out, idx_del (by rw [← HN.out]; exact HKN.out), ← HN.out])
        (HN3.out.mono (fun j hj => by rw [hj]; rfl)) (by have := HO3.out; rw [← HER.out] at this; rw [HS2.out]; exact this) (fun j hj => .inl hj) (fun j hj => Nat.lt_of_lt_of_le (HTL1.out j hj) HB12.out.size))
      obtain ⟨w4, hw4⟩ : ∃ w4, w4 = w3.setCell ⟨B, 2148, none⟩ (.slice (some ⟨gA, 0, none⟩) (n - 1) c) := ⟨_, rfl⟩
      rw [← hw4] at HFM4 ⊢
      have HTK4 : Hid (Tk w4 T1 B q3 q4 s2 an ct X m d) := Lib.hid (HTK2.out.one HFM4.out.1 HFM4.out.2 HT13.out HT14.out)
      clear c0 f0 c03 f03 hw4 p0 p1 p2 p3 p4 p5
      obtain ⟨p0, p1, p2, p3, p4, p5⟩ := HTK4.out.cells
      obtain ⟨A4, c4, ⟨c0, -, -, -⟩, -⟩ := HTK4.out.file.cells
      have HL2 : Hid (s2.out.length = n - 1) := Lib.hid (by rw [HS2.out]; simp only; rw [HER.out, idx_del (by rw [← HN.out]; exact HKN.out), ← HN.out])
      rw [HL2.out] at c0
      have HX4 : Hid (m = 0 ∨ Clear (fun j => B ≤ j) X) := Lib.hid (HXB.out.imp id (fun h a ha g => by have := h a ha; omega))
      have HXL4 : Hid (Ls byS w4 X g.data) := Lib.hid (by
        rcases HX4.out with h0 | hc
        · have : g.data = [] := List.eq_nil_of_length_eq_zero (HM.out.trans h0)
          rw [this]; exact Ls.nil _ _
        · refine ((HXL.out.below HB12.out)).only HFM4.out.2 (hc.mono fun j hj => hj.1))
      obtain ⟨w5, hcp5, hf5, ho5⟩ := ft_copy (HTK4.out.file.new (Below.refl _ _).drew) an X m d g.data (HXL4.out.below (Below.refl _ _).drew) HM.out (by omega)
      have HCP := Lib.hid hcp5
      rw [← HS3.out] at hf5
      have HF5 := Lib.hid hf5
      have HO5 : Hid (Only (fun j => j = B) w4 w5) := Lib.hid ((only_new (Below.refl _ _).drew).trans ho5 (fun j hj => .inl hj))
      clear hcp5 hf5 ho5
      have b0 := cell_drew1 p0
      have b1 := cell_drew1 p2
      have y1 : (an : Int) ≤ 2148 := by omega
      have y2 : ((an : Int)).toNat = an := by omega
      have y3 : ¬ 2148 = an := by omega
      have y4 : ¬ an = 2148 := by omega
      go_upto_region 9 with fail
      go_region_law (refine step_copyN rfl (.tmp 52) (.tmp 54) 28 28 rfl (.slice (some ⟨B, an, none⟩) (2148 - an) (2148 - an)) (.slice X m d) (by simp [Act.eval, Act.put]) (by simp [Act.eval, Act.put]) (HCP.out _ _) ?_)
      all_goals
        have HTK5 : Hid (Tk w5 T1 B q3 q4 s3 an ct X m d) := Lib.hid (HTK4.out.one HF5.out (HO5.out.mono (fun j hj => by rw [hj]; exact ⟨Nat.le_refl _, HTK4.out.file.notT⟩)) HT13.out HT14.out)
        clear b0 b1 c0 p0 p1 p2 p3 p4 p5
        obtain ⟨p0, p1, p2, p3, p4, p5⟩ := HTK5.out.cells
        have HNX : Hid (∀ w6, FM w6 T1 B (gotT g s) → Only (fun j => B ≤ j ∧ ¬ T1 j) w1 w6 → Calls Try.prog 13 #[.pointer (some ⟨B, 0, none⟩), .int .i64 ((n - 1 : Nat) : Int)] w6 (RetX w6 T1 B (nextT (n - 1) (gotT g s)))) := Lib.hid (fun w6 h6 ho6 => next_any w6 T1 B _ h6 HGK.out (fun k hk => Nat.lt_of_lt_of_le (HTL1.out k hk) ho6.size) (n - 1) HGL.out)
        have HO15 : Hid (Only (fun j => B ≤ j ∧ ¬ T1 j) w1 w5) := Lib.hid (((only_new HB12.out).trans HFM4.out.2 (fun j hj => .inl hj)).trans HO5.out (fun j hj => .inl (by rw [hj]; exact ⟨Nat.le_refl _, HTK4.out.file.notT⟩)))
        have hfin : ∀ (w6 w8 w9 : World) (S8 : Option Addr) (m8 sc8 : Nat) (A8 : Option Addr) (n8 c8 : Nat), Only (fun j => B ≤ j ∧ ¬ T1 j) w1 w6 →
            (nextT (n - 1) (gotT g s)).1.wants.length = m8 → OwnL wtS 33 w8 w6.heap.size S8 m8 sc8 (nextT (n - 1) (gotT g s)).1.wants → (nextT (n - 1) (gotT g s)).1.data.length = n8 → OwnL byS 5 w8 w6.heap.size A8 n8 c8 (nextT (n - 1) (gotT g s)).1.data →
            FM w8 (fun j => T1 j ∨ TS S8 j ∨ TS A8 j) B (nextT (n - 1) (gotT g s)).2 → Only (fun k => B ≤ k ∧ ¬ T1 k) w6 w8 → Only (fun k => k = q4) w8 w9 → RetX w T B r (.returned (.agg #[.int .i64 (nextT (n - 1) (gotT g s)).1.code, .slice S8 m8 sc8, .bool (nextT (n - 1) (gotT g s)).1.done, .slice A8 n8 c8])) w9 := fun w6 w8 w9 S8 m8 sc8 A8 n8 c8 ho6 g1 g2 g3 g4 g5 g6 g9 => by
          rw [HE.out]
          have z1 := ho6.size
          have z2 := HB2.out.size
          have z3 := HX1.out.lt
          have hS : ∀ j, TS S8 j → w6.heap.size ≤ j := fun j hj => (g2.lt j (own_ts.2 hj)).1
          have hA : ∀ j, TS A8 j → w6.heap.size ≤ j := fun j hj => (g4.lt j (own_ts.2 hj)).1
          refine ⟨S8, m8, sc8, A8, n8, c8, rfl, g1, (g2.only g9 (fun j hj e => by have := hS j (own_ts.1 hj); omega)).base (by omega), g3, (g4.only g9 (fun j hj e => by have := hA j (own_ts.1 hj); omega)).base (by omega), ?_, ?_⟩
          · refine g5.only g9 (fun k hk => .inl (.inl (by rw [hk]; exact HT14.out))) (fun k hk => .inl ?_)
            rcases hk with hk | hk
            · exact .inl ((HT1.out k).2 (.inl hk))
            · exact .inr hk
          · have o1 : Only (fun k => B ≤ k ∧ ¬ T k) w w6 := (only_new HB2.out).trans ho6 (fun j hj => .inl ⟨hj.1, fun e => hj.2 ((HT1.out j).2 (.inl e))⟩)
            exact (o1.trans g6 (fun j hj => .inl ⟨hj.1, fun e => hj.2 ((HT1.out j).2 (.inl e))⟩)).trans g9 (fun j hj => .inr (by rw [hj]; have := HQ3.out; have := HQ34.out; omega))
        have HFIN := Lib.hid hfin
        clear hfin
        by_cases hm0 : m = 0
        · have hmi : (m : Int) = 0 := by omega
          have hmb : ((m : Int) == 0) = true := by rw [beq_iff_eq]; exact hmi
          have HG2 : Hid (gotT g s = stopT an s3) := Lib.hid (by rw [HG.out, if_pos hm0])
          clear hm0
          obtain HG2e := HG2.out
          have HCC : Hid (Calls Try.prog 22 #[.pointer (some ⟨B, 0, none⟩), .int .i64 an] w5 (RetU w5 T1 B (gotT g s))) := Lib.hid (by rw [HG2.out]; exact stop_any w5 T1 B s3 HF5.out (fun k hk => Nat.lt_of_lt_of_le (HTL1.out k hk) HO15.out.size) an)
          have HTRANS : Hid (∀ w6, RetU w5 T1 B (gotT g s) (.returned (.tuple #[])) w6 → FM w6 T1 B (gotT g s) ∧ Only (fun j => B ≤ j ∧ ¬ T1 j) w1 w6 ∧ Bx 30 w6 q4 #[.int .i64 0, .slice none 0 0, .bool false, .slice none 0 0]) := Lib.hid (fun w6 ⟨_, q1, q2⟩ => ⟨q1, HO15.out.trans q2 (fun j hj => .inl hj), HTK5.out.res.only q2 (fun e => e.2 HT14.out)⟩)
          clear HG2e
          go_upto_region 14 with (go_at_call 22; (with_reducible refine HCC.out.mono ?_); rintro e w6 hr6; obtain ⟨rfl, hq⟩ := id hr6; obtain ⟨hf6, ho6, hx6⟩ := HTRANS.out w6 ⟨rfl, hq⟩; have HF6 := Lib.hid hf6; have HO46 := Lib.hid ho6; have HO46b := Lib.hid ho6; have HX46 := Lib.hid hx6; clear hr6 hq hf6 ho6 hx6)
          clear p0 p1 p2 p3 p4 p5
          go_wp2_with (go_at_call 13; (with_reducible refine (HNX.out w6 HF6.out HO46.out).mono ?_); rintro e w8 ⟨S8, m8, sc8, A8, n8, c8, rfl, h1, h2, h3, h4, h5, h6⟩; have G1 := Lib.hid h1; have G2 := Lib.hid h2; have G3 := Lib.hid h3; have G4 := Lib.hid h4; have G5 := Lib.hid h5; have G6 := Lib.hid h6; have hx8 := HX46.out.only h6 (fun e => e.2 HT14.out); have HX8 := Lib.hid hx8; obtain ⟨r0, r1, r2, r3, r4, f1, f2, f3, f4⟩ := hx8.cells4; clear h1 h2 h3 h4 h5 h6 hx8)
          obtain ⟨w9, hw9⟩ : ∃ w9, w9 = put4 w8 q4 (.int .i64 (nextT (n - 1) (gotT g s)).1.code) (.slice S8 m8 sc8) (.bool (nextT (n - 1) (gotT g s)).1.done) (.slice A8 n8 c8) := ⟨_, rfl⟩
          have HX9 : Hid (Bx 30 w9 q4 #[.int .i64 (nextT (n - 1) (gotT g s)).1.code, .slice S8 m8 sc8, .bool (nextT (n - 1) (gotT g s)).1.done, .slice A8 n8 c8]) := Lib.hid (by rw [hw9]; exact HX8.out.put4 _ _ _ _)
          have HN9 : Hid (Only (fun k => k = q4) w8 w9) := Lib.hid (by rw [hw9]; exact only_put4 _ _ _ _ _ _)
          unfold put4 at hw9
          rw [← hw9]
          clear r0 r1 r2 r3 r4 f1 f2 f3 f4 hw9
          obtain ⟨r0, r1, r2, r3, r4, f1, f2, f3, f4⟩ := HX9.out.cells4
          refine end_ret (v := .agg #[.int .i64 (nextT (n - 1) (gotT g s)).1.code, .slice S8 m8 sc8, .bool (nextT (n - 1) (gotT g s)).1.done, .slice A8 n8 c8]) (by simp [results, Try.results14, go_sem, r0, r1, r2, r3, r4, f1, f2, f3, f4]; try rfl) ?_
          exact HFIN.out w6 w8 w9 S8 m8 sc8 A8 n8 c8 HO46b.out G1.out G2.out G3.out G4.out G5.out G6.out HN9.out
        · by_cases hmc : (m : Int) < ct
          · have hmi : ¬ (m : Int) = 0 := by omega
            have hmb : ((m : Int) == 0) = false := by rw [beq_eq_false_iff_ne]; exact hmi
            have HG2 : Hid (gotT g s = askT ((an : Int) + m, ct - m) s3) := Lib.hid (by rw [HG.out, if_neg hm0, if_pos hmc])
            have hwa : IntKind.i64.wrap ((an : Int) + m) = (an : Int) + m := by rw [IntKind.wrap_i64]; omega
            have hws : IntKind.i64.wrap (ct - m) = ct - m := by rw [IntKind.wrap_i64]; omega
            obtain HG2e := HG2.out
            have HCC : Hid (Calls Try.prog 23 #[.pointer (some ⟨B, 0, none⟩), .int .i64 ((an : Int) + m), .int .i64 (ct - m)] w5 (RetU w5 T1 B (gotT g s))) := Lib.hid (by rw [HG2.out]; exact ask_any w5 T1 B s3 HF5.out (by rw [HS3.out]; simp only; rw [HL2.out]; omega) (fun k hk => Nat.lt_of_lt_of_le (HTL1.out k hk) HO15.out.size) _ _)
            have HTRANS : Hid (∀ w6, RetU w5 T1 B (gotT g s) (.returned (.tuple #[])) w6 → FM w6 T1 B (gotT g s) ∧ Only (fun j => B ≤ j ∧ ¬ T1 j) w1 w6 ∧ Bx 30 w6 q4 #[.int .i64 0, .slice none 0 0, .bool false, .slice none 0 0]) := Lib.hid (fun w6 ⟨_, q1, q2⟩ => ⟨q1, HO15.out.trans q2 (fun j hj => .inl hj), HTK5.out.res.only q2 (fun e => e.2 HT14.out)⟩)
            clear HG2e
            go_upto_region 14 with (go_at_call 23; (with_reducible refine HCC.out.mono ?_); rintro e w6 hr6; obtain ⟨rfl, hq⟩ := id hr6; obtain ⟨hf6, ho6, hx6⟩ := HTRANS.out w6 ⟨rfl, hq⟩; have HF6 := Lib.hid hf6; have HO46 := Lib.hid ho6; have HO46b := Lib.hid ho6; have HX46 := Lib.hid hx6; clear hr6 hq hf6 ho6 hx6)
            clear p0 p1 p2 p3 p4 p5
            go_wp2_with (go_at_call 13; (with_reducible refine (HNX.out w6 HF6.out HO46.out).mono ?_); rintro e w8 ⟨S8, m8, sc8, A8, n8, c8, rfl, h1, h2, h3, h4, h5, h6⟩; have G1 := Lib.hid h1; have G2 := Lib.hid h2; have G3 := Lib.hid h3; have G4 := Lib.hid h4; have G5 := Lib.hid h5; have G6 := Lib.hid h6; have hx8 := HX46.out.only h6 (fun e => e.2 HT14.out); have HX8 := Lib.hid hx8; obtain ⟨r0, r1, r2, r3, r4, f1, f2, f3, f4⟩ := hx8.cells4; clear h1 h2 h3 h4 h5 h6 hx8)
            obtain ⟨w9, hw9⟩ : ∃ w9, w9 = put4 w8 q4 (.int .i64 (nextT (n - 1) (gotT g s)).1.code) (.slice S8 m8 sc8) (.bool (nextT (n - 1) (gotT g s)).1.done) (.slice A8 n8 c8) := ⟨_, rfl⟩
            have HX9 : Hid (Bx 30 w9 q4 #[.int .i64 (nextT (n - 1) (gotT g s)).1.code, .slice S8 m8 sc8, .bool (nextT (n - 1) (gotT g s)).1.done, .slice A8 n8 c8]) := Lib.hid (by rw [hw9]; exact HX8.out.put4 _ _ _ _)
            have HN9 : Hid (Only (fun k => k = q4) w8 w9) := Lib.hid (by rw [hw9]; exact only_put4 _ _ _ _ _ _)
            unfold put4 at hw9
            rw [← hw9]
            clear r0 r1 r2 r3 r4 f1 f2 f3 f4 hw9
            obtain ⟨r0, r1, r2, r3, r4, f1, f2, f3, f4⟩ := HX9.out.cells4
            refine end_ret (v := .agg #[.int .i64 (nextT (n - 1) (gotT g s)).1.code, .slice S8 m8 sc8, .bool (nextT (n - 1) (gotT g s)).1.done, .slice A8 n8 c8]) (by simp [results, Try.results14, go_sem, r0, r1, r2, r3, r4, f1, f2, f3, f4]; try rfl) ?_
            exact HFIN.out w6 w8 w9 S8 m8 sc8 A8 n8 c8 HO46b.out G1.out G2.out G3.out G4.out G5.out G6.out HN9.out
          · have hmi : ¬ (m : Int) = 0 := by omega
            have hmb : ((m : Int) == 0) = false := by rw [beq_eq_false_iff_ne]; exact hmi
            have HG2 : Hid (gotT g s = s3) := Lib.hid (by rw [HG.out, if_neg hm0, if_neg hmc])
            obtain ⟨w6, hw6⟩ : ∃ w6, w6 = w5 := ⟨_, rfl⟩
            have HF6 : Hid (FM w6 T1 B (gotT g s)) := Lib.hid (by rw [hw6, HG2.out]; exact HF5.out)
            have HO46 : Hid (Only (fun j => B ≤ j ∧ ¬ T1 j) w1 w6) := Lib.hid (by rw [hw6]; exact HO15.out)
            have HO46b := HO46
            have HX46 : Hid (Bx 30 w6 q4 #[.int .i64 0, .slice none 0 0, .bool false, .slice none 0 0]) := Lib.hid (by rw [hw6]; exact HTK5.out.res)
            rw [← hw6] at p0 p1 p2 p3 p4 p5 ⊢
            clear hw6
            go_wp2_with (go_at_call 13; (with_reducible refine (HNX.out w6 HF6.out HO46.out).mono ?_); rintro e w8 ⟨S8, m8, sc8, A8, n8, c8, rfl, h1, h2, h3, h4, h5, h6⟩; have G1 := Lib.hid h1; have G2 := Lib.hid h2; have G3 := Lib.hid h3; have G4 := Lib.hid h4; have G5 := Lib.hid h5; have G6 := Lib.hid h6; have hx8 := HX46.out.only h6 (fun e => e.2 HT14.out); have HX8 := Lib.hid hx8; obtain ⟨r0, r1, r2, r3, r4, f1, f2, f3, f4⟩ := hx8.cells4; clear h1 h2 h3 h4 h5 h6 hx8)
            obtain ⟨w9, hw9⟩ : ∃ w9, w9 = put4 w8 q4 (.int .i64 (nextT (n - 1) (gotT g s)).1.code) (.slice S8 m8 sc8) (.bool (nextT (n - 1) (gotT g s)).1.done) (.slice A8 n8 c8) := ⟨_, rfl⟩
            have HX9 : Hid (Bx 30 w9 q4 #[.int .i64 (nextT (n - 1) (gotT g s)).1.code, .slice S8 m8 sc8, .bool (nextT (n - 1) (gotT g s)).1.done, .slice A8 n8 c8]) := Lib.hid (by rw [hw9]; exact HX8.out.put4 _ _ _ _)
            have HN9 : Hid (Only (fun k => k = q4) w8 w9) := Lib.hid (by rw [hw9]; exact only_put4 _ _ _ _ _ _)
            unfold put4 at hw9
            rw [← hw9]
            clear r0 r1 r2 r3 r4 f1 f2 f3 f4 hw9
            obtain ⟨r0, r1, r2, r3, r4, f1, f2, f3, f4⟩ := HX9.out.cells4
            refine end_ret (v := .agg #[.int .i64 (nextT (n - 1) (gotT g s)).1.code, .slice S8 m8 sc8, .bool (nextT (n - 1) (gotT g s)).1.done, .slice A8 n8 c8]) (by simp [results, Try.results14, go_sem, r0, r1, r2, r3, r4, f1, f2, f3, f4]; try rfl) ?_
            exact HFIN.out w6 w8 w9 S8 m8 sc8 A8 n8 c8 HO46b.out G1.out G2.out G3.out G4.out G5.out G6.out HN9.out

end Go.Proofs.Ytjlnjeigoncfoaa
