/-
  The program's file: next, whole.
-/
import Derived.Test.YtjlnjeigoncfoaaFtNext
import Derived.Test.YtjlnjeigoncfoaaFtBox
namespace Go.Proofs.Ytjlnjeigoncfoaa
open Go.RowKit
set_option linter.unusedVariables false
set_option linter.unusedSimpArgs false

theorem cell_set1 {w : World} {B S i j : Nat} (h : B ≠ S) (u : Value) : (w.setCell ⟨S, j, none⟩ u).cell? ⟨B, i, none⟩ = w.cell? ⟨B, i, none⟩ := World.cell?_of_block (Below.heap_setCell _ _ _ _ h)
set_option maxHeartbeats 8000000 in
theorem next_any (w : World) (T : Nat → Prop) (B : Nat) (s : Fs) (h : FM w T B s) (hs : FsOk s) (hT : ∀ k, T k → k < w.heap.size) (known : Nat) (hk : known ≤ s.out.length) :
    Calls Try.prog 13 #[.pointer (some ⟨B, 0, none⟩), .int .i64 known] w (RetX w T B (nextT known s)) := by
  have H := Lib.hid h
  have HT := Lib.hid hT
  have hB := h.lt
  obtain ⟨q0, hq0⟩ : ∃ q, q = w.heap.size := ⟨_, rfl⟩
  obtain ⟨w0, hw0⟩ : ∃ w0, w0 = w.alloc (.cells #[.int .i64 0, .slice none 0 0, .bool false, .slice none 0 0] 30) := ⟨_, rfl⟩
  have HB0 : Hid (Below w.heap.size w w0) := Lib.hid (by rw [hw0]; exact ba1 _ _)
  have HX0 : Hid (Bx 30 w0 q0 #[.int .i64 0, .slice none 0 0, .bool false, .slice none 0 0]) := Lib.hid (by rw [hw0, hq0]; exact bx_new _ _ _)
  have HQ0 := Lib.hid hq0
  have HT0 : Hid (∀ k, (T k ∨ k = q0) → k < w0.heap.size) := Lib.hid (fun k hk => by
    rcases hk with hk | rfl
    · exact Nat.lt_of_lt_of_le (HT.out k hk) HB0.out.size
    · exact HX0.out.lt)
  have HM0 : Hid (FM w0 (fun k => T k ∨ k = q0) B s) := Lib.hid (h.only (S := fun _ => False) (only_new HB0.out) (fun _ h => h.elim) (fun k hk => by
    rcases hk with hk | rfl
    · exact .inl hk
    · exact .inr (by rw [HQ0.out]; exact Nat.le_refl _)))
  have HON := Lib.hid (askOn_any w0 _ B s HM0.out hs HT0.out)
  obtain ⟨s1, hs1⟩ : ∃ s1, s1 = askOn s := ⟨_, rfl⟩
  have HK1 : Hid (FsOk s1) := Lib.hid (by rw [hs1]; exact hs.on)
  have hk1 : known ≤ s1.out.length := by rw [hs1]; exact Nat.le_trans hk (askOn_len s)
  have HR : Hid (nextT known s = ({ code := 0, wants := s1.out.drop known, done := came s1, data := if came s1 then s1.dat.take s1.fin.toNat else [] }, s1)) := Lib.hid (by rw [hs1]; rfl)
  rw [← hs1] at HON
  obtain ⟨r, hr⟩ : ∃ r, r = nextT known s := ⟨_, rfl⟩
  rw [← hr]
  have HRR := Lib.hid hr
  clear h hs hT hs1 hk hr
  go_enter Try.func13, Try.ntmps13
  go_upto_region 1 with fail
  rw [← hw0, ← hq0]
  clear hw0 hq0
  go_upto_region 2 with (go_at_call 16; (with_reducible refine HON.out.mono ?_); rintro e w1 ⟨rfl, hm1, ho1⟩; have HM1 := Lib.hid hm1; have HO1 := Lib.hid ho1; clear hm1 ho1)
  obtain ⟨A, c, ⟨c0, c1, c2, c3⟩, hf, hO, hY⟩ := HM1.out.cells
  have hB1 := HM1.out.lt
  have HO := Lib.hid hO
  have hcap := hO.cap
  have hfew := HK1.out.few
  obtain ⟨n, hn⟩ : ∃ n, n = s1.out.length := ⟨_, rfl⟩
  have HN := Lib.hid hn
  rw [← hn] at c0 HO hk1 hcap hfew
  have haddr := HO.out.addr
  obtain ⟨v, hv⟩ : ∃ v, v = came s1 := ⟨_, rfl⟩
  have HV := Lib.hid hv
  have HCM : Hid (∀ w2, Below w1.heap.size w1 w2 → Calls Try.prog 18 #[.pointer (some ⟨B, 0, none⟩)] w2 fun e w' => e = .returned (.bool v) ∧ Below w2.heap.size w2 w') := Lib.hid (fun w2 hb => came_any w2 _ B s1 (HM1.out.new hb) HK1.out v HV.out.symm)
  have e1 : (known : Int) ≤ (n : Int) := by omega
  have e2 : (n : Int) ≤ (c : Int) := by omega
  have e3 : ((known : Int)).toNat = known := by omega
  have HWC : Hid (∀ A2 c2, Ls wtS w1 A2 (s1.out.drop known) → (A2 = none → n - known = 0 ∧ c2 = 0) → Calls Try.prog 17 #[.slice A2 (n - known) c2] w1 fun e w' => ∃ A' c', e = .returned (.slice A' (n - known) c') ∧ OwnL wtS 33 w' w1.heap.size A' (n - known) c' (s1.out.drop known) ∧ Below w1.heap.size w1 w') := Lib.hid (fun A2 c2 hl h0 => wclone_any A2 _ c2 _ w1 hl (by rw [List.length_drop, ← HN.out]) (by omega) h0)
  have HNK : Hid (n - known = 0 → s1.out.drop known = []) := Lib.hid (fun h => List.eq_nil_of_length_eq_zero (by rw [List.length_drop, ← HN.out]; exact h))
  clear hf hO hY hn hv
  have HCL : Hid (∀ A2 cc, (c = known ∧ A2 = A ∧ cc = 0 ∨ ¬ c = known ∧ A2 = A.map (fun x => x.add (known * 2)) ∧ cc = c - known) → Calls Try.prog 17 #[.slice A2 (n - known) cc] w1 fun e w' => ∃ A' c', e = .returned (.slice A' (n - known) c') ∧ OwnL wtS 33 w' w1.heap.size A' (n - known) c' (s1.out.drop known) ∧ Below w1.heap.size w1 w') := Lib.hid (by
    intro A2 cc hAA
    rcases haddr with ⟨rfl, hn0, hc0⟩ | ⟨g, rfl, hg⟩
    · obtain rfl : A2 = none := by rcases hAA with ⟨-, h, -⟩ | ⟨-, h, -⟩ <;> rw [h]; rfl
      exact HWC.out none cc (by rw [HNK.out (by omega)]; exact Ls.nil _ _) (fun _ => ⟨by omega, by omega⟩)
    · rcases hAA with ⟨h1, rfl, rfl⟩ | ⟨h1, rfl, rfl⟩
      · exact HWC.out _ _ (by rw [HNK.out (by omega)]; exact Ls.nil _ _) (fun h => by cases h)
      · have : (some (⟨g, 0, none⟩ : Addr)).map (fun x => x.add (known * 2)) = some ⟨g, known * 2, none⟩ := by simp [Addr.add]; intro h; omega
        rw [this]
        exact HWC.out _ _ (wt_drop HO.out g rfl known hk1) (fun h => by cases h))
  clear haddr
  have hfin : ∀ (S : Option Addr) (sc : Nat) (A5 : Option Addr) (n5 c5 : Nat) (w9 : World), OwnL wtS 33 w9 w.heap.size S (n - known) sc (s1.out.drop known) → (if v then s1.dat.take s1.fin.toNat else []).length = n5 → OwnL byS 5 w9 w.heap.size A5 n5 c5 (if v then s1.dat.take s1.fin.toNat else []) →
      (∀ k, TS S k ∨ TS A5 k → w1.heap.size ≤ k) → Only (fun k => k = q0) w1 w9 → RetX w T B r (.returned (.agg #[.int .i64 0, .slice S (n - known) sc, .bool v, .slice A5 n5 c5])) w9 := fun S sc A5 n5 c5 w9 h1 h2 h3 h4 h5 => by
    rw [HRR.out, HR.out, ← HV.out]
    refine ⟨S, n - known, sc, A5, n5, c5, rfl, by rw [List.length_drop, ← HN.out], h1, h2, h3, ?_, ?_⟩
    · refine HM1.out.only h5 (fun k hk => .inl (.inr hk)) (fun k hk => ?_)
      rcases hk with hk | hk
      · exact .inl (.inl hk)
      · exact .inr (h4 k hk)
    · have o1 : Only (fun k => B ≤ k ∧ ¬ T k) w w1 := (only_new HB0.out).trans HO1.out (fun k hk => .inl ⟨hk.1, fun g => hk.2 (.inl g)⟩)
      refine o1.trans h5 (fun k hk => .inr ?_)
      rw [hk, HQ0.out]; exact Nat.le_refl _
  have HFIN := Lib.hid hfin
  clear hfin c1 c2
  obtain ⟨m, hm⟩ : ∃ m, m = n - known := ⟨_, rfl⟩
  have hcc : (c = known ∧ m = 0) ∨ (¬ c = known) := by omega
  rw [← hm] at HFIN
  rcases hcc with ⟨hck, hm0⟩ | hck
  · have HCL1 := Lib.hid (HCL.out A 0 (.inl ⟨hck, rfl, rfl⟩))
    rw [← hm] at HCL1
    subst hm0
    subst hck
    clear hm
    go_upto_region 3 with (first
      | (go_at_call 17; (with_reducible refine HCL1.out.mono ?_); rintro e w2 ⟨A3, c3', rfl, ho2, hb2⟩; have HO2 := Lib.hid ho2; have HB2 := Lib.hid hb2; clear ho2 hb2)
      | (go_at_call 18; (with_reducible refine (HCM.out _ HB2.out).mono ?_); rintro e w3 ⟨rfl, hb3⟩; have HB3 := Lib.hid hb3; clear hb3))
    have HB13 : Hid (Below w1.heap.size w1 w3) := Lib.hid (bthen HB2.out HB3.out)
    obtain ⟨q5, hq5⟩ : ∃ q, q = w3.heap.size := ⟨_, rfl⟩
    obtain ⟨w5, hw5⟩ : ∃ w5, w5 = w3.alloc (.cells #[.int .i64 0, .slice A3 (0) c3', .bool v, .slice none 0 0] 30) := ⟨_, rfl⟩
    have HX5 : Hid (Bx 30 w5 q5 #[.int .i64 0, .slice A3 (0) c3', .bool v, .slice none 0 0]) := Lib.hid (by rw [hw5, hq5]; exact bx_new _ _ _)
    have HB15 : Hid (Below w1.heap.size w1 w5) := Lib.hid (by rw [hw5]; exact bthen HB13.out (ba1 _ _))
    have HO5 : Hid (OwnL wtS 33 w5 w1.heap.size A3 (0) c3' (s1.out.drop c)) := Lib.hid (by rw [hw5]; exact (HO2.out.below HB3.out).below (ba1 _ _))
    have HQ5 : Hid (w1.heap.size ≤ q5) := Lib.hid (by rw [hq5]; exact HB13.out.size)
    have HQL : Hid (∀ k, TS A3 k → w1.heap.size ≤ k ∧ k < q5) := Lib.hid (fun k hk => by
      have h1 := ((HO2.out.below HB3.out).lt k (own_ts.2 hk))
      rw [hq5]; exact ⟨h1.1, h1.2⟩)
    have hX5lt : Hid (q5 < w5.heap.size) := Lib.hid HX5.out.lt
    rw [← hw5, ← hq5]
    clear hw5 hq5
    obtain ⟨x0, x1, x2, x3, x4, y1, y2, y3, y4⟩ := HX5.out.cells4
    have HQ01 : Hid (q0 < w1.heap.size) := Lib.hid (Nat.lt_of_lt_of_le HX0.out.lt HO1.out.size)
    have hW1 : Hid (w.heap.size ≤ w1.heap.size) := Lib.hid (Nat.le_trans HB0.out.size HO1.out.size)
    have HX01 : Hid (Bx 30 w1 q0 #[.int .i64 0, .slice none 0 0, .bool false, .slice none 0 0]) := Lib.hid (HX0.out.only HO1.out (fun g => g.2 (.inr rfl)))
    rcases hvv : v with _ | _
    · subst hvv
      have HX05 : Hid (Bx 30 w5 q0 #[.int .i64 0, .slice none 0 0, .bool false, .slice none 0 0]) := Lib.hid (HX01.out.below HB15.out)
      obtain ⟨r0, r1, r2, r3, r4, f1, f2, f3, f4⟩ := HX05.out.cells4
      have hne : q5 ≠ q0 := by have := HQ5.out; have := HQ01.out; omega
      go_wp2_with fail
      obtain ⟨w9, hw9⟩ : ∃ w9, w9 = put4 w5 q0 (.int .i64 0) (.slice A3 (0) c3') (.bool false) (.slice none 0 0) := ⟨_, rfl⟩
      have HX9 : Hid (Bx 30 w9 q0 #[.int .i64 0, .slice A3 (0) c3', .bool false, .slice none 0 0]) := Lib.hid (by rw [hw9]; exact HX05.out.put4 _ _ _ _)
      have HN9 : Hid (Only (fun k => k = q0) w5 w9) := Lib.hid (by rw [hw9]; exact only_put4 _ _ _ _ _ _)
      unfold put4 at hw9
      rw [← hw9]
      clear r0 r1 r2 r3 r4 f1 f2 f3 f4 x0 x1 x2 x3 x4 y1 y2 y3 y4 hw9
      obtain ⟨r0, r1, r2, r3, r4, f1, f2, f3, f4⟩ := HX9.out.cells4
      refine end_ret (v := .agg #[.int .i64 0, .slice A3 (0) c3', .bool false, .slice none 0 0]) (by simp [results, Try.results13, go_sem, r0, r1, r2, r3, r4, f1, f2, f3, f4]; try rfl) ?_
      exact HFIN.out A3 c3' none 0 0 w9 ((HO5.out.only HN9.out (fun k hk e => by have := (HQL.out k (own_ts.1 hk)).1; have := HQ01.out; omega)).base hW1.out) rfl (OwnL.nil _ _) (fun k hk => by
        rcases hk with hk | ⟨a, h, -⟩
        · exact (HQL.out k hk).1
        · cases h) ((only_new HB15.out).trans HN9.out (fun j hj => .inl hj))
    · subst hvv
      obtain ⟨fn, hfn⟩ : ∃ fn : Nat, s1.fin = fn := ⟨s1.fin.toNat, by have := HK1.out.e0; omega⟩
      have hf1 : (fn : Int) ≤ 2148 := by rw [← hfn]; exact HK1.out.e1
      have hf2 : fn ≤ 2148 := by omega
      have hf3 : ((fn : Int)).toNat = fn := by omega
      rw [hfn] at c3
      have HDL : Hid ((s1.dat.take s1.fin.toNat).length = fn) := Lib.hid (by rw [hfn, List.length_take, HK1.out.len]; unfold room; omega)
      have HFN := Lib.hid hfn
      clear hfn
      have HCD : Hid (∀ wk, Below w1.heap.size w1 wk → Calls Try.prog 19 #[.slice (some ⟨B, 0, none⟩) fn 2148] wk fun e w' => ∃ A c', e = .returned (.slice A fn c') ∧ OwnL byS 5 w' wk.heap.size A fn c' (s1.dat.take s1.fin.toNat) ∧ Below wk.heap.size wk w') := Lib.hid (fun wk hk => clone_some B 0 fn 2148 _ wk ((HM1.out.new hk).ls.take _) HDL.out (by omega))
      have k3 := (HB15.out.cell (p := ⟨B, 2151, none⟩) hB1).trans c3
      have b3 := cell_drew1 k3
      have lB5 : B < w5.heap.size := Nat.lt_of_lt_of_le hB1 HB15.out.size
      clear c3
      have hqB5 : B ≠ q5 := by have := HQ5.out; omega
      have HBd : Hid (Below w1.heap.size w1 w5.drew) := Lib.hid HB15.out.drew
      go_upto_region 4 with fail
      go_region_held3 (fun w' => w'.cell? ⟨B, 2151, none⟩ = some (.int .i64 fn)) (first | (with_reducible exact m0) | (with_reducible exact b3) | (exact (cell_set1 hqB5 _).trans m0) | go_keep) (first
        | (go_at_call 19; (with_reducible refine (HCD.out w5.drew HBd.out).mono ?_); rintro e w8 ⟨A8, c8, rfl, ho8, hb8⟩; have HO8 := Lib.hid ho8; have HB8 := Lib.hid hb8; have m0 := (hb8.cell (p := ⟨B, 2151, none⟩) lB5).trans b3; have hx8 := (HX5.out.below (Below.refl _ _).drew).below hb8; have HX8 := Lib.hid hx8; have p3 := hx8.cell 3 (.slice none 0 0) rfl; have y3' := hx8.soft 3; have lq8 := hx8.lt; clear ho8 hb8 hx8))
      all_goals
        go_upto_region 5 with fail
      obtain ⟨w6, hw6⟩ : ∃ w6, w6 = w8.setCell ⟨q5, 3, none⟩ (.slice A8 fn c8) := ⟨_, rfl⟩
      have HX6 : Hid (Bx 30 w6 q5 #[.int .i64 0, .slice A3 (0) c3', .bool true, .slice A8 fn c8]) := Lib.hid (by rw [hw6]; exact HX8.out.set 3 _)
      have HN6 : Hid (Only (fun k => k = q5) w8 w6) := Lib.hid (by rw [hw6]; exact (Only.refl (fun k => k = q5) w8).setCell (.inl rfl) _)
      have HB18 : Hid (Below w1.heap.size w1 w8) := Lib.hid (bthen HBd.out HB8.out)
      have HX06 : Hid (Bx 30 w6 q0 #[.int .i64 0, .slice none 0 0, .bool false, .slice none 0 0]) := Lib.hid ((HX01.out.below HB18.out).only HN6.out (fun e => by have := HQ5.out; have := HQ01.out; omega))
      have hne : q5 ≠ q0 := by have := HQ5.out; have := HQ01.out; omega
      rw [← hw6]
      clear hw6 m0 p3 y3' lq8 b3 k3 x0 x1 x2 x3 x4 y1 y2 y3 y4
      obtain ⟨x0, x1, x2, x3, x4, y1, y2, y3, y4⟩ := HX6.out.cells4
      obtain ⟨r0, r1, r2, r3, r4, f1, f2, f3, f4⟩ := HX06.out.cells4
      go_wp2_with fail
      obtain ⟨w9, hw9⟩ : ∃ w9, w9 = put4 w6 q0 (.int .i64 0) (.slice A3 (0) c3') (.bool true) (.slice A8 fn c8) := ⟨_, rfl⟩
      have HX9 : Hid (Bx 30 w9 q0 #[.int .i64 0, .slice A3 (0) c3', .bool true, .slice A8 fn c8]) := Lib.hid (by rw [hw9]; exact HX06.out.put4 _ _ _ _)
      have HN9 : Hid (Only (fun k => k = q0) w6 w9) := Lib.hid (by rw [hw9]; exact only_put4 _ _ _ _ _ _)
      unfold put4 at hw9
      rw [← hw9]
      clear r0 r1 r2 r3 r4 f1 f2 f3 f4 x0 x1 x2 x3 x4 y1 y2 y3 y4 hw9
      obtain ⟨r0, r1, r2, r3, r4, f1, f2, f3, f4⟩ := HX9.out.cells4
      refine end_ret (v := .agg #[.int .i64 0, .slice A3 (0) c3', .bool true, .slice A8 fn c8]) (by simp [results, Try.results13, go_sem, r0, r1, r2, r3, r4, f1, f2, f3, f4]; try rfl) ?_
      have z1 := HB15.out.size
      have z2 := HQ5.out
      have z3 := HQ01.out
      have z4 := hX5lt.out
      have hO8 : ∀ k, TS A8 k → w5.heap.size ≤ k := fun k hk => (HO8.out.lt k (own_ts.2 hk)).1
      exact HFIN.out A3 c3' A8 fn c8 w9 (((((HO5.out.below (Below.refl _ _).drew).below HB8.out).only HN6.out (fun k hk e => by have := (HQL.out k (own_ts.1 hk)).2; omega)).only HN9.out (fun k hk e => by have := (HQL.out k (own_ts.1 hk)).1; omega)).base hW1.out) HDL.out
        (((HO8.out.only HN6.out (fun k hk e => by have := hO8 k (own_ts.1 hk); omega)).only HN9.out (fun k hk e => by have := hO8 k (own_ts.1 hk); omega)).base (Nat.le_trans hW1.out z1)) (fun k hk => by
        rcases hk with hk | hk
        · exact (HQL.out k hk).1
        · exact Nat.le_trans z1 (hO8 k hk))
        (((only_new HB18.out).trans (S := fun k => k = q0) HN6.out (fun j hj => .inr (by rw [hj]; exact z2))).trans HN9.out (fun j hj => .inl hj))
  · have HCL1 := Lib.hid (HCL.out _ _ (.inr ⟨hck, rfl, rfl⟩))
    subst hm
    go_upto_region 3 with (first
      | (go_at_call 17; (with_reducible refine HCL1.out.mono ?_); rintro e w2 ⟨A3, c3', rfl, ho2, hb2⟩; have HO2 := Lib.hid ho2; have HB2 := Lib.hid hb2; clear ho2 hb2)
      | (go_at_call 18; (with_reducible refine (HCM.out _ HB2.out).mono ?_); rintro e w3 ⟨rfl, hb3⟩; have HB3 := Lib.hid hb3; clear hb3))
    have HB13 : Hid (Below w1.heap.size w1 w3) := Lib.hid (bthen HB2.out HB3.out)
    obtain ⟨q5, hq5⟩ : ∃ q, q = w3.heap.size := ⟨_, rfl⟩
    obtain ⟨w5, hw5⟩ : ∃ w5, w5 = w3.alloc (.cells #[.int .i64 0, .slice A3 (n - known) c3', .bool v, .slice none 0 0] 30) := ⟨_, rfl⟩
    have HX5 : Hid (Bx 30 w5 q5 #[.int .i64 0, .slice A3 (n - known) c3', .bool v, .slice none 0 0]) := Lib.hid (by rw [hw5, hq5]; exact bx_new _ _ _)
    have HB15 : Hid (Below w1.heap.size w1 w5) := Lib.hid (by rw [hw5]; exact bthen HB13.out (ba1 _ _))
    have HO5 : Hid (OwnL wtS 33 w5 w1.heap.size A3 (n - known) c3' (s1.out.drop known)) := Lib.hid (by rw [hw5]; exact (HO2.out.below HB3.out).below (ba1 _ _))
    have HQ5 : Hid (w1.heap.size ≤ q5) := Lib.hid (by rw [hq5]; exact HB13.out.size)
    have HQL : Hid (∀ k, TS A3 k → w1.heap.size ≤ k ∧ k < q5) := Lib.hid (fun k hk => by
      have h1 := ((HO2.out.below HB3.out).lt k (own_ts.2 hk))
      rw [hq5]; exact ⟨h1.1, h1.2⟩)
    have hX5lt : Hid (q5 < w5.heap.size) := Lib.hid HX5.out.lt
    rw [← hw5, ← hq5]
    clear hw5 hq5
    obtain ⟨x0, x1, x2, x3, x4, y1, y2, y3, y4⟩ := HX5.out.cells4
    have HQ01 : Hid (q0 < w1.heap.size) := Lib.hid (Nat.lt_of_lt_of_le HX0.out.lt HO1.out.size)
    have hW1 : Hid (w.heap.size ≤ w1.heap.size) := Lib.hid (Nat.le_trans HB0.out.size HO1.out.size)
    have HX01 : Hid (Bx 30 w1 q0 #[.int .i64 0, .slice none 0 0, .bool false, .slice none 0 0]) := Lib.hid (HX0.out.only HO1.out (fun g => g.2 (.inr rfl)))
    rcases hvv : v with _ | _
    · subst hvv
      have HX05 : Hid (Bx 30 w5 q0 #[.int .i64 0, .slice none 0 0, .bool false, .slice none 0 0]) := Lib.hid (HX01.out.below HB15.out)
      obtain ⟨r0, r1, r2, r3, r4, f1, f2, f3, f4⟩ := HX05.out.cells4
      have hne : q5 ≠ q0 := by have := HQ5.out; have := HQ01.out; omega
      go_wp2_with fail
      obtain ⟨w9, hw9⟩ : ∃ w9, w9 = put4 w5 q0 (.int .i64 0) (.slice A3 (n - known) c3') (.bool false) (.slice none 0 0) := ⟨_, rfl⟩
      have HX9 : Hid (Bx 30 w9 q0 #[.int .i64 0, .slice A3 (n - known) c3', .bool false, .slice none 0 0]) := Lib.hid (by rw [hw9]; exact HX05.out.put4 _ _ _ _)
      have HN9 : Hid (Only (fun k => k = q0) w5 w9) := Lib.hid (by rw [hw9]; exact only_put4 _ _ _ _ _ _)
      unfold put4 at hw9
      rw [← hw9]
      clear r0 r1 r2 r3 r4 f1 f2 f3 f4 x0 x1 x2 x3 x4 y1 y2 y3 y4 hw9
      obtain ⟨r0, r1, r2, r3, r4, f1, f2, f3, f4⟩ := HX9.out.cells4
      refine end_ret (v := .agg #[.int .i64 0, .slice A3 (n - known) c3', .bool false, .slice none 0 0]) (by simp [results, Try.results13, go_sem, r0, r1, r2, r3, r4, f1, f2, f3, f4]; try rfl) ?_
      exact HFIN.out A3 c3' none 0 0 w9 ((HO5.out.only HN9.out (fun k hk e => by have := (HQL.out k (own_ts.1 hk)).1; have := HQ01.out; omega)).base hW1.out) rfl (OwnL.nil _ _) (fun k hk => by
        rcases hk with hk | ⟨a, h, -⟩
        · exact (HQL.out k hk).1
        · cases h) ((only_new HB15.out).trans HN9.out (fun j hj => .inl hj))
    · subst hvv
      obtain ⟨fn, hfn⟩ : ∃ fn : Nat, s1.fin = fn := ⟨s1.fin.toNat, by have := HK1.out.e0; omega⟩
      have hf1 : (fn : Int) ≤ 2148 := by rw [← hfn]; exact HK1.out.e1
      have hf2 : fn ≤ 2148 := by omega
      have hf3 : ((fn : Int)).toNat = fn := by omega
      rw [hfn] at c3
      have HDL : Hid ((s1.dat.take s1.fin.toNat).length = fn) := Lib.hid (by rw [hfn, List.length_take, HK1.out.len]; unfold room; omega)
      have HFN := Lib.hid hfn
      clear hfn
      have HCD : Hid (∀ wk, Below w1.heap.size w1 wk → Calls Try.prog 19 #[.slice (some ⟨B, 0, none⟩) fn 2148] wk fun e w' => ∃ A c', e = .returned (.slice A fn c') ∧ OwnL byS 5 w' wk.heap.size A fn c' (s1.dat.take s1.fin.toNat) ∧ Below wk.heap.size wk w') := Lib.hid (fun wk hk => clone_some B 0 fn 2148 _ wk ((HM1.out.new hk).ls.take _) HDL.out (by omega))
      have k3 := (HB15.out.cell (p := ⟨B, 2151, none⟩) hB1).trans c3
      have b3 := cell_drew1 k3
      have lB5 : B < w5.heap.size := Nat.lt_of_lt_of_le hB1 HB15.out.size
      clear c3
      have hqB5 : B ≠ q5 := by have := HQ5.out; omega
      have HBd : Hid (Below w1.heap.size w1 w5.drew) := Lib.hid HB15.out.drew
      go_upto_region 4 with fail
      go_region_held3 (fun w' => w'.cell? ⟨B, 2151, none⟩ = some (.int .i64 fn)) (first | (with_reducible exact m0) | (with_reducible exact b3) | (exact (cell_set1 hqB5 _).trans m0) | go_keep) (first
        | (go_at_call 19; (with_reducible refine (HCD.out w5.drew HBd.out).mono ?_); rintro e w8 ⟨A8, c8, rfl, ho8, hb8⟩; have HO8 := Lib.hid ho8; have HB8 := Lib.hid hb8; have m0 := (hb8.cell (p := ⟨B, 2151, none⟩) lB5).trans b3; have hx8 := (HX5.out.below (Below.refl _ _).drew).below hb8; have HX8 := Lib.hid hx8; have p3 := hx8.cell 3 (.slice none 0 0) rfl; have y3' := hx8.soft 3; have lq8 := hx8.lt; clear ho8 hb8 hx8))
      all_goals
        go_upto_region 5 with fail
      obtain ⟨w6, hw6⟩ : ∃ w6, w6 = w8.setCell ⟨q5, 3, none⟩ (.slice A8 fn c8) := ⟨_, rfl⟩
      have HX6 : Hid (Bx 30 w6 q5 #[.int .i64 0, .slice A3 (n - known) c3', .bool true, .slice A8 fn c8]) := Lib.hid (by rw [hw6]; exact HX8.out.set 3 _)
      have HN6 : Hid (Only (fun k => k = q5) w8 w6) := Lib.hid (by rw [hw6]; exact (Only.refl (fun k => k = q5) w8).setCell (.inl rfl) _)
      have HB18 : Hid (Below w1.heap.size w1 w8) := Lib.hid (bthen HBd.out HB8.out)
      have HX06 : Hid (Bx 30 w6 q0 #[.int .i64 0, .slice none 0 0, .bool false, .slice none 0 0]) := Lib.hid ((HX01.out.below HB18.out).only HN6.out (fun e => by have := HQ5.out; have := HQ01.out; omega))
      have hne : q5 ≠ q0 := by have := HQ5.out; have := HQ01.out; omega
      rw [← hw6]
      clear hw6 m0 p3 y3' lq8 b3 k3 x0 x1 x2 x3 x4 y1 y2 y3 y4
      obtain ⟨x0, x1, x2, x3, x4, y1, y2, y3, y4⟩ := HX6.out.cells4
      obtain ⟨r0, r1, r2, r3, r4, f1, f2, f3, f4⟩ := HX06.out.cells4
      go_wp2_with fail
      obtain ⟨w9, hw9⟩ : ∃ w9, w9 = put4 w6 q0 (.int .i64 0) (.slice A3 (n - known) c3') (.bool true) (.slice A8 fn c8) := ⟨_, rfl⟩
      have HX9 : Hid (Bx 30 w9 q0 #[.int .i64 0, .slice A3 (n - known) c3', .bool true, .slice A8 fn c8]) := Lib.hid (by rw [hw9]; exact HX06.out.put4 _ _ _ _)
      have HN9 : Hid (Only (fun k => k = q0) w6 w9) := Lib.hid (by rw [hw9]; exact only_put4 _ _ _ _ _ _)
      unfold put4 at hw9
      rw [← hw9]
      clear r0 r1 r2 r3 r4 f1 f2 f3 f4 x0 x1 x2 x3 x4 y1 y2 y3 y4 hw9
      obtain ⟨r0, r1, r2, r3, r4, f1, f2, f3, f4⟩ := HX9.out.cells4
      refine end_ret (v := .agg #[.int .i64 0, .slice A3 (n - known) c3', .bool true, .slice A8 fn c8]) (by simp [results, Try.results13, go_sem, r0, r1, r2, r3, r4, f1, f2, f3, f4]; try rfl) ?_
      have z1 := HB15.out.size
      have z2 := HQ5.out
      have z3 := HQ01.out
      have z4 := hX5lt.out
      have hO8 : ∀ k, TS A8 k → w5.heap.size ≤ k := fun k hk => (HO8.out.lt k (own_ts.2 hk)).1
      exact HFIN.out A3 c3' A8 fn c8 w9 (((((HO5.out.below (Below.refl _ _).drew).below HB8.out).only HN6.out (fun k hk e => by have := (HQL.out k (own_ts.1 hk)).2; omega)).only HN9.out (fun k hk e => by have := (HQL.out k (own_ts.1 hk)).1; omega)).base hW1.out) HDL.out
        (((HO8.out.only HN6.out (fun k hk e => by have := hO8 k (own_ts.1 hk); omega)).only HN9.out (fun k hk e => by have := hO8 k (own_ts.1 hk); omega)).base (Nat.le_trans hW1.out z1)) (fun k hk => by
        rcases hk with hk | hk
        · exact (HQL.out k hk).1
        · exact Nat.le_trans z1 (hO8 k hk))
        (((only_new HB18.out).trans (S := fun k => k = q0) HN6.out (fun j hj => .inr (by rw [hj]; exact z2))).trans HN9.out (fun j hj => .inl hj))

end Go.Proofs.Ytjlnjeigoncfoaa
