/-
  The document's fetch: on (it asks on; what is told of that).
-/
import Derived.Test.YtjlnjeigoncfoaaFtRefMem
import Derived.Test.YtjlnjeigoncfoaaFtBox
import Derived.Test.YtjlnjeigoncfoaaFtOn
namespace Go.Proofs.Ytjlnjeigoncfoaa
open Go.RowKit Go.Maps
set_option linter.unusedVariables false
set_option linter.unusedSimpArgs false

/-- what on leaves -/
def RetD (w : World) (b0 : Nat) (T : Nat → Prop) (B K : Nat) (r : Nx × Fs) (e : Ending) (w' : World) : Prop :=
  ∃ S m sc A n c, e = .returned (.agg #[.int .i64 r.1.code, .slice S m sc, .bool r.1.done, .slice A n c]) ∧ r.1.wants.length = m ∧ OwnL wtS 33 w' b0 S m sc r.1.wants ∧ r.1.data.length = n ∧ OwnL byS 5 w' b0 A n c r.1.data ∧
    DM w' (fun j => T j ∨ TS S j ∨ TS A j) B K r.2 ∧ Only (fun k => B ≤ k ∧ ¬ T k) w w'
/-- the first loop: it asks on -/
def OnI (w : World) (b0 known : Nat) (T : Nat → Prop) (B K : Nat) (s : Fs) (q5 q6 : Nat) (gf : Nat) (wx : World) : Prop :=
  ∃ s1 A1 m1 c1, DM wx (fun j => T j ∨ TS A1 j ∨ j = q5 ∨ j = q6) B K s1 ∧ FsOk s1 ∧ askOn s1 = askOn s ∧ Bx 30 wx q5 #[.int .i64 0, .slice A1 m1 c1, .bool false, .slice none 0 0] ∧ Bx 30 wx q6 #[.int .i64 0, .slice none 0 0, .bool false, .slice none 0 0] ∧
    OwnL wtS 33 wx b0 A1 m1 c1 (s1.out.drop known) ∧ (∀ j, TS A1 j → j ≠ q5 ∧ j ≠ q6 ∧ ¬ T j) ∧ Only (fun k => B ≤ k ∧ ¬ T k) w wx ∧ known ≤ s1.out.length ∧ 6 ≤ s1.out.length + gf

theorem endV_lt {s : Fs} (h : FsOk s) : (s.front < endV s) ↔ (s.ended = false ∨ s.front < s.fin) := by
  have := h.f1
  rcases he : s.ended with _ | _
  · rw [endV_open he]; exact ⟨fun _ => .inl rfl, fun _ => by omega⟩
  · rw [endV_known he]; exact ⟨fun g => .inr g, fun g => g.elim (fun g => by cases g) id⟩

/-- so far all of it came -/
def dn (s : Fs) (k : Nat) : Bool := s.ended && (s.out.take k).all (fun x => decide (endV s ≤ x.1))
theorem dn_zero (s : Fs) : dn s 0 = s.ended := by simp [dn]
theorem dn_succ {s : Fs} {k : Nat} {x : Wt} (h : s.out[k]? = some x) : dn s (k + 1) = (dn s k && decide (endV s ≤ x.1)) := by
  unfold dn
  rw [List.take_add_one, h, List.all_append]
  simp [Bool.and_assoc]
theorem dn_all {s : Fs} {n : Nat} (h : n = s.out.length) : dn s n = came s := by
  unfold dn came
  rw [List.take_of_length_le (by omega)]
  rcases he : s.ended with _ | _
  · rfl
  · rw [endV_known he, Bool.true_and, Bool.true_and]
    generalize s.out = l
    induction l with
    | nil => rfl
    | cons x l ih =>
      rw [List.all_cons, List.any_cons, ih, Bool.not_or]
      congr 1
      by_cases g : x.1 < s.fin
      · rw [decide_eq_true g, decide_eq_false (by omega)]; rfl
      · rw [decide_eq_false g, decide_eq_true (by omega)]; rfl
theorem came_ended {s : Fs} (h : came s = true) : s.ended = true := by unfold came at h; simp at h; exact h.1

set_option maxHeartbeats 8000000 in
theorem on_any (w : World) (b0 known : Nat) (T : Nat → Prop) (B K : Nat) (s : Fs) (A : Option Addr) (m c : Nat) (h : DM w (fun j => T j ∨ TS A j) B K s) (hs : FsOk s) (hT : ∀ k, T k → k < w.heap.size)
    (ho : OwnL wtS 33 w b0 A m c (s.out.drop known)) (hAT : ∀ j, TS A j → ¬ T j) (hb0 : B + 5 ≤ b0) (hb0' : b0 ≤ w.heap.size) (hk : known ≤ s.out.length) :
    Calls Try.prog 15 #[.agg #[.int .i64 0, .slice A m c, .bool false, .slice none 0 0], .pointer (some ⟨B, 0, none⟩), .pointer (some ⟨B + 3, 0, none⟩), .pointer (some ⟨B + 4, 0, none⟩), .pointer (some ⟨B + 2, 0, none⟩)] w (RetD w b0 T B K (nextT known s)) := by
  obtain ⟨q5, hq5⟩ : ∃ q, q = w.heap.size := ⟨_, rfl⟩
  obtain ⟨q6, hq6⟩ : ∃ q, q = w.heap.size + 1 := ⟨_, rfl⟩
  obtain ⟨w1, hw1⟩ : ∃ w1, w1 = w.alloc (.cells #[.int .i64 0, .slice A m c, .bool false, .slice none 0 0] 30) := ⟨_, rfl⟩
  obtain ⟨w2, hw2⟩ : ∃ w2, w2 = w1.alloc (.cells #[.int .i64 0, .slice none 0 0, .bool false, .slice none 0 0] 30) := ⟨_, rfl⟩
  have hB := h.lt
  have HI0 : Hid (OnI w b0 known T B K s q5 q6 6 w2) := Lib.hid (by
    have hb2 : Below w.heap.size w w2 := by rw [hw2, hw1]; exact ba2 _ _ _
    have hx6 := bx_new w1 30 #[.int .i64 0, .slice none 0 0, .bool false, .slice none 0 0]
    rw [show w1.heap.size = q6 by rw [hw1, hq6]; simp, ← hw2] at hx6
    have hA : ∀ j, TS A j → j < w.heap.size := fun j hj => (ho.lt j (own_ts.2 hj)).2
    refine ⟨s, A, m, c, h.only (S := fun _ => False) (only_new hb2) (fun _ h => h.elim) (fun k hk => ?_), hs, rfl, by rw [hw2, hw1, hq5]; exact (bx_new _ _ _).below (ba1 _ _), hx6, ho.below hb2, fun j hj => ?_, only_new hb2, hk, by omega⟩
    · rcases hk with hk | hk | hk | hk
      · exact .inl (.inl hk)
      · exact .inl (.inr hk)
      · exact .inr (by omega)
      · exact .inr (by omega)
    · have := hA j hj
      exact ⟨by omega, by omega, hAT j hj⟩)
  have HT := Lib.hid hT
  have HQ : Hid (q5 < q6 ∧ w.heap.size ≤ q5 ∧ q6 < w2.heap.size) := Lib.hid ⟨by omega, by omega, by rw [hw2, hw1, hq6]; simp⟩
  have HB0 : Hid (B + 5 ≤ b0 ∧ b0 ≤ w.heap.size) := Lib.hid ⟨hb0, hb0'⟩
  obtain ⟨r, hr⟩ : ∃ r, r = nextT known s := ⟨_, rfl⟩
  have HR := Lib.hid hr
  rw [← hr]
  clear h hs hT ho hAT hk hr hb0 hb0'
  go_enter Try.func15, Try.ntmps15
  go_upto_region 1 with fail
  rw [← hw1, ← hw2]
  rw [← hq6, ← hq5]
  clear hw1 hw2 hq5 hq6
  go_loopg [] 6 (fun gf wx => OnI w b0 known T B K s q5 q6 gf wx)
  case atStart => exact HI0.out
  case round =>
    obtain ⟨s1, A1, m1, c1, hd1, hk1, he1, hx5, hx6, ho1, hA1, hon1, hkn1, hg1⟩ := hrel
    have hB1 := hd1.lt
    obtain ⟨A0, c0, M, ⟨k0, k2, k3, k4⟩, ⟨f0, f3, f4⟩, hMM, hO, hY⟩ := hd1.cells
    have HMM := Lib.hid hMM
    have HYY := Lib.hid (fun k (hk : (Value.slice A0 s1.out.length c0).ownBlock = some k) => hY k hk)
    clear hMM
    have HD1 := Lib.hid hd1
    have HK1 := Lib.hid hk1
    have HE1 := Lib.hid he1
    have HX5 := Lib.hid hx5
    have HX6 := Lib.hid hx6
    have HO1 := Lib.hid ho1
    have HA1 := Lib.hid hA1
    have HON := Lib.hid hon1
    have HKN := Lib.hid hkn1
    have HG := Lib.hid hg1
    have HO := Lib.hid hO
    have hf0 := hk1.f0
    have hf1 := hk1.f1
    have HEV := Lib.hid (endV_lt hk1)
    have hT1 : ∀ k, (T k ∨ TS A1 k ∨ k = q5 ∨ k = q6) → k < wr.heap.size := fun k hk => by
      rcases hk with hk | hk | hk | hk
      · exact Nat.lt_of_lt_of_le (HT.out k hk) hon1.size
      · exact (ho1.lt k (own_ts.2 hk)).2
      · rw [hk]; exact hx5.lt
      · rw [hk]; exact hx6.lt
    have HT1 := Lib.hid hT1
    clear hd1 hk1 he1 hx5 hx6 ho1 hA1 hon1 hkn1 hg1 hO hY hT1
    obtain ⟨n, hn⟩ : ∃ n, n = s1.out.length := ⟨_, rfl⟩
    obtain ⟨ev, hev⟩ : ∃ ev, ev = endV s1 := ⟨_, rfl⟩
    rw [← hn] at k0 HO
    rw [← hev] at k4 HEV
    have HN := Lib.hid hn
    have HV := Lib.hid hev
    clear hn hev
    by_cases hm : n < 6 ∧ s1.front ≤ 2048 ∧ s1.front < ev
    · obtain ⟨i0, i1, i2⟩ := hm
      have i0' : (n : Int) < 6 := by omega
      have HM : Hid (mayOn s1 = true) := Lib.hid (may_on (by rw [← HN.out]; exact i0) i1 (HEV.out.1 i2))
      go_upto_region 2 with fail
      go_upto_region 3 with fail
      obtain ⟨qw, hqw⟩ : ∃ q, q = wr.heap.size := ⟨_, rfl⟩
      obtain ⟨wb, hwb⟩ : ∃ wb, wb = wr.alloc (.cells #[.int .i64 s1.front, .int .i64 100] 33) := ⟨_, rfl⟩
      have HBb : Hid (Below wr.heap.size wr wb) := Lib.hid (by rw [hwb]; exact ba1 _ _)
      have HXw : Hid (Bx 33 wb qw #[.int .i64 s1.front, .int .i64 100]) := Lib.hid (by rw [hwb, hqw]; exact bx_new _ _ _)
      have HQW : Hid (qw = wr.heap.size) := Lib.hid hqw
      rw [← hwb, ← hqw]
      clear hwb hqw
      obtain ⟨T2, hT2⟩ : ∃ T2 : Nat → Prop, T2 = fun j => (T j ∨ TS A1 j ∨ j = q5 ∨ j = q6) ∨ j = qw := ⟨_, rfl⟩
      have HT2 : Hid (∀ j, T2 j ↔ (T j ∨ TS A1 j ∨ j = q5 ∨ j = q6) ∨ j = qw) := Lib.hid (fun j => by rw [hT2])
      have HD2 : Hid (DM wb T2 B K s1) := Lib.hid (HD1.out.only (S := fun _ => False) (only_new HBb.out) (fun _ h => h.elim) (fun k hk => by
        rcases (HT2.out k).1 hk with hk | hk
        · exact .inl hk
        · exact .inr (by rw [hk, HQW.out]; exact Nat.le_refl _)))
      have HTL2 : Hid (∀ k, T2 k → k < wb.heap.size) := Lib.hid (fun k hk => by
        rcases (HT2.out k).1 hk with hk | hk
        · exact Nat.lt_of_lt_of_le (HT1.out k hk) HBb.out.size
        · rw [hk]; exact HXw.out.lt)
      clear hT2
      have hBb : B + 4 < wb.heap.size := HD2.out.lt
      have l0 := (HBb.out.cell (p := ⟨B, 0, none⟩) (by show B < _; omega)).trans k0
      have g0 : wb.frozen? ⟨B, 0, none⟩ = false := by rw [← f0]; simp [World.frozen?, HBb.out.block B (by omega)]
      have lw0 := HXw.out.cell 0 _ rfl
      have lw1 := HXw.out.cell 1 _ rfl
      have lw := HXw.out.lt
      have HOb := Lib.hid (HO.out.below HBb.out)
      have hsz := (ba1 wb (.cells #[Value.int IntKind.i64 s1.front, Value.int IntKind.i64 100] 33)).size
      clear k0 k2 k3 k4 f0 f3 f4
      go_upto_region 4 with (at_builtin; refine wpList_appL (F := wtS) rfl _ (.tmp 25) (.tmp 27) 27 rfl _ 16 Try.underlying27 wtInfo rfl (B + 5) A0 n c0 s1.out rfl (HOb.out.below (ba1 _ _)) (some ⟨wb.heap.size, 0, none⟩) 1 1 [(s1.front, 100)] rfl (ls_new wb _ _ _ rfl _ rfl) rfl (n + 1) rfl (by omega) (by omega) (by simp; omega) ?_; intro A4 g4 w4 ho4 hb4 hs4; have O4 := Lib.hid ho4; have HB4 := Lib.hid hb4; have HS4 := Lib.hid hs4; have hbA := ((ba1 wb _).mono (Nat.succ_le_of_lt hBb)).trans hb4; have f04 : w4.frozen? ⟨B, 0, none⟩ = false := (by rw [← g0]; simp [World.frozen?, hbA.block B (by omega)]); have c04 := (hbA.cell (p := ⟨B, 0, none⟩) (by show B < _; omega)).trans l0; clear hbA; clear ho4 hb4 hs4)
      obtain ⟨s2, hs2⟩ : ∃ s2, s2 = askT (s1.front, 100) s1 := ⟨_, rfl⟩
      obtain ⟨w5, hw5⟩ : ∃ w5, w5 = w4.setCell ⟨B, 0, none⟩ (.slice A4 (n + 1) g4) := ⟨_, rfl⟩
      have hrow : DM w5 T2 B K s2 ∧ Only (fun k => B ≤ k ∧ ¬ T2 k) wb w5 := by
        have hon : Only (fun k => (Value.slice A0 s1.out.length c0).ownBlock = some k) wb w4 := by
          rw [← HN.out]
          exact (only_new (ba1 wb _)).trans (HS4.out.only HB4.out) (fun j hj => .inl hj)
        rw [hw5, hs2]
        exact HD2.out.row (s' := askT (s1.front, 100) s1) A0 c0 (by rw [← HN.out]; exact l0) A4 (n + 1) g4 ⟨rfl, rfl, rfl⟩ (by simp [askT, HN.out]) hon O4.out (fun k hk => by
          rcases HS4.out.own k hk with g | g
          · rw [← HN.out]; exact .inl g
          · exact .inr (Nat.le_trans hsz g)) HTL2.out
      obtain ⟨hd5, hon5⟩ := hrow
      have HS2 : Hid (s2.out.drop known = s1.out.drop known ++ [(s1.front, 100)] ∧ s2.front = s1.front ∧ s2.out.length = n + 1 ∧ askOne s1 = { s2 with front := s1.front + 100 } ∧ endV s2 = ev) := Lib.hid (by
        refine ⟨?_, by rw [hs2]; rfl, by rw [hs2]; simp [askT, HN.out], by rw [hs2]; rfl, by rw [hs2, HV.out]; rfl⟩
        rw [hs2]
        show (s1.out ++ [(s1.front, 100)]).drop known = _
        rw [List.drop_append_of_le_length HKN.out])
      have hq5 : ¬ (B ≤ q5 ∧ ¬ T2 q5) := fun g => g.2 ((HT2.out q5).2 (.inl (.inr (.inr (.inl rfl)))))
      have hq6 : ¬ (B ≤ q6 ∧ ¬ T2 q6) := fun g => g.2 ((HT2.out q6).2 (.inl (.inr (.inr (.inr rfl)))))
      have hqw : ¬ (B ≤ qw ∧ ¬ T2 qw) := fun g => g.2 ((HT2.out qw).2 (.inr rfl))
      have HX55 := Lib.hid ((HX5.out.below HBb.out).only hon5 hq5)
      have HX65 := Lib.hid ((HX6.out.below HBb.out).only hon5 hq6)
      have HXw5 := Lib.hid (HXw.out.only hon5 hqw)
      have HO5 : Hid (OwnL wtS 33 w5 b0 A1 m1 c1 (s1.out.drop known)) := Lib.hid ((HO1.out.below HBb.out).only hon5 (fun k hk g => g.2 ((HT2.out k).2 (.inl (.inr (.inl (own_ts.1 hk)))))))
      have HD5 := Lib.hid hd5
      have HON5 := Lib.hid hon5
      have hm1 : m1 ≤ 6 := by
        have h1 := HO1.out.1
        have h2 := HK1.out.few
        rw [List.length_drop] at h1
        omega
      have hb05 : b0 ≤ w5.heap.size := Nat.le_trans HB0.out.2 (Nat.le_trans HON.out.size (Nat.le_trans HBb.out.size hon5.size))
      have p1 := HX55.out.cell 1 _ rfl
      have pl := HX55.out.lt
      have pw0 := HXw5.out.cell 0 _ rfl
      have pw1 := HXw5.out.cell 1 _ rfl
      have pwl := HXw5.out.lt
      have hsz5 := (ba1 w5 (.cells #[Value.int IntKind.i64 s1.front, Value.int IntKind.i64 100] 33)).size
      rw [← hw5]
      clear hw5 hs2 hd5 hon5 hq5 hq6 hqw c04 f04 l0 g0 lw0 lw1 lw hsz hBb
      go_upto_region 5 with (at_builtin; refine wpList_appL (F := wtS) rfl _ (.tmp 30) (.tmp 32) 27 rfl _ 16 Try.underlying27 wtInfo rfl b0 A1 m1 c1 (s1.out.drop known) rfl (HO5.out.below (ba1 _ _)) (some ⟨w5.heap.size, 0, none⟩) 1 1 [(s1.front, 100)] rfl (ls_new w5 _ _ _ rfl _ rfl) rfl (m1 + 1) rfl (by omega) (by omega) (by simp; omega) ?_; intro A6 g6 w6 ho6 hb6 hs6; have O6 := Lib.hid ho6; have HB6 := Lib.hid hb6; have HS6 := Lib.hid hs6; have hx56 := (HX55.out.below (ba1 w5 _)).beside hs6 (fun k hk e => (HA1.out k (own_ts.1 hk)).1 e); have f61 := hx56.soft 1; have c61 := hx56.cell 1 _ rfl; have HX56 := Lib.hid hx56; clear ho6 hb6 hs6 hx56)
      obtain ⟨w7, hw7⟩ : ∃ w7, w7 = w6.setCell ⟨q5, 1, none⟩ (.slice A6 (m1 + 1) g6) := ⟨_, rfl⟩
      have HX57 : Hid (Bx 30 w7 q5 #[.int .i64 0, .slice A6 (m1 + 1) g6, .bool false, .slice none 0 0]) := Lib.hid (by rw [hw7]; exact HX56.out.set 1 _)
      have HON57 : Hid (Only (fun k => (Value.slice A1 m1 c1).ownBlock = some k ∨ k = q5) w5 w7) := Lib.hid (by
        rw [hw7]
        exact (((only_new (ba1 w5 _)).trans (HS6.out.only HB6.out) (fun j hj => .inl (.inl hj)))).setCell (.inl (.inr rfl)) _)
      have HX67 : Hid (Bx 30 w7 q6 #[.int .i64 0, .slice none 0 0, .bool false, .slice none 0 0]) := Lib.hid (HX65.out.only HON57.out (fun g => by
        rcases g with g | g
        · exact (HA1.out _ (own_ts.1 g)).2.1 rfl
        · have := HQ.out.1; omega))
      have HA6 : Hid (∀ j, TS A6 j → TS A1 j ∨ w5.heap.size ≤ j) := Lib.hid (fun j hj => by
        rcases HS6.out.own j (own_ts.2 hj) with g | g
        · exact .inl (own_ts.1 g)
        · exact .inr (Nat.le_trans hsz5 g))
      have HO7 : Hid (OwnL wtS 33 w7 b0 A6 (m1 + 1) g6 (s1.out.drop known ++ [(s1.front, 100)])) := Lib.hid (by
        rw [hw7]
        refine O6.out.set (fun k hk e => ?_) _ _
        rcases HA6.out k (own_ts.1 hk) with g | g
        · exact (HA1.out k g).1 e
        · omega)
      have hd7 : DM w7 (fun j => T j ∨ TS A6 j ∨ j = q5 ∨ j = q6) B K s2 := HD5.out.only HON57.out (fun k hk => by
          rcases hk with hk | hk
          · exact .inl ((HT2.out k).2 (.inl (.inr (.inl (own_ts.1 hk)))))
          · exact .inl ((HT2.out k).2 (.inl (.inr (.inr (.inl hk)))))) (fun k hk => by
          rcases hk with hk | hk | hk | hk
          · exact .inl ((HT2.out k).2 (.inl (.inl hk)))
          · rcases HA6.out k hk with g | g
            · exact .inl ((HT2.out k).2 (.inl (.inr (.inl g))))
            · exact .inr g
          · exact .inl ((HT2.out k).2 (.inl (.inr (.inr (.inl hk)))))
          · exact .inl ((HT2.out k).2 (.inl (.inr (.inr (.inr hk))))))
      obtain ⟨A7, c7, M7, ⟨k70, k72, k73, k74⟩, ⟨f70, f73, f74⟩, -, -, -⟩ := hd7.cells
      rw [HS2.out.2.1] at k73
      have hB7 := hd7.lt
      have hB73 : B + 3 < w7.heap.size := by omega
      have HD7 := Lib.hid hd7
      have hwr : IntKind.i64.wrap (s1.front + 100) = s1.front + 100 := by rw [IntKind.wrap_i64]; omega
      rw [← hw7]
      clear hw7 hd7 k70 k72 k74 f70 f74 c61 f61
      go_wp2_with fail
      go_roundg (gk - 1)
      case measure => have := HG.out; have := HN.out; omega
      case rel =>
        obtain ⟨e1, e2, e3, e4, e5⟩ := HS2.out
        have hq3 : ∀ q, B + 5 ≤ q → ¬ q = B + 3 := fun q h => by omega
        obtain ⟨b01, b02⟩ := HB0.out
        obtain ⟨hq56, hq5w, -⟩ := HQ.out
        refine ⟨askOne s1, A6, m1 + 1, g6, HD7.out.front (s' := askOne s1) (s1.front + 100) ⟨by rw [e4], by rw [e4], by rw [e4]; rfl, rfl⟩, HK1.out.one HM.out, by rw [← HE1.out]; exact (askOn_step HM.out).symm, HX57.out.other (by omega) _, HX67.out.other (by omega) _, ?_, ?_, ?_, ?_, ?_⟩
        · rw [e4]
          show OwnL wtS _ _ _ _ _ _ (s2.out.drop known)
          rw [e1]
          exact HO7.out.set (Off.under (fun k hk => (HO7.out.lt k hk).1) (by omega)) _ _
        · intro j hj
          rcases HA6.out j hj with g | g
          · exact HA1.out j g
          · have h1 := HX55.out.lt
            have h2 := HX65.out.lt
            exact ⟨by omega, by omega, fun ht => by have := HT.out j ht; have := HON.out.size; have := HBb.out.size; have := HON5.out.size; omega⟩
        · have o1 : Only (fun k => B ≤ k ∧ ¬ T k) w w5 := (HON.out.new HBb.out).trans HON5.out (fun k hk => .inl ⟨hk.1, fun g => hk.2 ((HT2.out k).2 (.inl (.inl g)))⟩)
          refine (o1.trans HON57.out (fun k hk => ?_)).setCell (.inl ⟨by omega, fun g => HD7.out.notT 3 (by omega) (.inl g)⟩) _
          rcases hk with hk | hk
          · have h1 := HO1.out.lt k hk
            exact .inl ⟨by omega, (HA1.out k (own_ts.1 hk)).2.2⟩
          · exact .inr (by omega)
        · rw [e4]; show known ≤ s2.out.length; rw [e3]; have := HKN.out; have := HN.out; omega
        · rw [e4]; show 6 ≤ s2.out.length + (gk - 1); rw [e3]; have := HG.out; have := HN.out; omega
    · have HM : Hid (¬ mayOn s1 = true) := Lib.hid (fun g => hm (by
        simp [mayOn] at g
        have g2 := HEV.out
        rw [← HN.out] at g
        exact ⟨g.1, g.2.1, HEV.out.2 (by rcases g.2.2 with g | g; exact .inl (by simpa using g); exact .inr g)⟩))
      have hex : ¬ n < 6 ∨ (n < 6 ∧ ¬ s1.front ≤ 2048) ∨ (n < 6 ∧ s1.front ≤ 2048 ∧ ¬ s1.front < ev) := by omega
      obtain ⟨wo, rfl⟩ : ∃ wo, wo = wr := ⟨_, rfl⟩
      have HS : Hid (askOn s = s1) := Lib.hid (by rw [← HE1.out]; exact askOn_stay HM.out)
      have hRR : r = ({ code := 0, wants := s1.out.drop known, done := came s1, data := if came s1 then s1.dat.take s1.fin.toNat else [] }, s1) := by rw [HR.out]; unfold nextT; rw [HS.out]
      have hfin : ∀ (d : Bool) (A5 : Option Addr) (n5 g5 : Nat) (w9 : World), d = came s1 → (if came s1 then s1.dat.take s1.fin.toNat else []).length = n5 → OwnL byS 5 w9 wo.heap.size A5 n5 g5 (if came s1 then s1.dat.take s1.fin.toNat else []) → Only (fun k => k = q5 ∨ k = q6) wo w9 →
          RetD w b0 T B K r (.returned (.agg #[.int .i64 0, .slice A1 m1 c1, .bool d, .slice A5 n5 g5])) w9 := fun d A5 n5 g5 w9 h1 h2 h3 h4 => by
        have hq1 := HQ.out
        have hb1 := HB0.out
        have hsz := HON.out.size
        rw [hRR, h1]
        refine ⟨A1, m1, c1, A5, n5, g5, rfl, HO1.out.1, HO1.out.only h4 (fun k hk g => ?_), h2, h3.base (by omega), ?_, ?_⟩
        · have := HA1.out k (own_ts.1 hk)
          rcases g with g | g
          · exact this.1 g
          · exact this.2.1 g
        · refine HD1.out.only h4 (fun k hk => ?_) (fun k hk => ?_)
          · rcases hk with hk | hk
            · exact .inl (.inr (.inr (.inl hk)))
            · exact .inl (.inr (.inr (.inr hk)))
          · rcases hk with hk | hk | hk
            · exact .inl (.inl hk)
            · exact .inl (.inr (.inl hk))
            · exact .inr (h3.lt k (own_ts.2 hk)).1
        · exact HON.out.trans h4 (fun k hk => .inr (by rcases hk with hk | hk <;> omega))
      have HFIN := Lib.hid hfin
      have HDN := Lib.hid (dn_all HN.out)
      have HDS : Hid (∀ k x, s1.out[k]? = some x → dn s1 (k + 1) = (dn s1 k && decide (ev ≤ x.1))) := Lib.hid (fun k x h => by rw [HV.out]; exact dn_succ h)
      obtain ⟨dd, hdd⟩ : ∃ dd, dd = s1.ended := ⟨_, rfl⟩
      have hev : decide (ev < 1099511627776) = dd := by
        rw [hdd, HV.out]
        rcases he : s1.ended with _ | _
        · rw [endV_open he]; rfl
        · rw [endV_known he, decide_eq_true]; have := HK1.out.e1; omega
      have HD0 : Hid (dn s1 0 = dd) := Lib.hid (by rw [hdd]; exact dn_zero s1)
      have hlq5 := HX5.out.lt
      have y1 := HX5.out.cell 1 _ rfl
      have y2 := HX5.out.cell 2 _ rfl
      have z2 := HX5.out.soft 2
      have hnc : (n : Int) ≤ 6 := by have := HK1.out.few; have := HN.out; omega
      have hkeep : ∀ w9, Only (fun k => k = q5) wo w9 → (B + 4 < w9.heap.size ∧ w9.cell? ⟨B, 0, none⟩ = some (.slice A0 n c0) ∧ w9.cell? ⟨B + 4, 0, none⟩ = some (.int .i64 ev) ∧ w9.cell? ⟨B + 2, 0, none⟩ = some (.map (some (B + 1)))) ∧ Ls wtS w9 A0 s1.out ∧ MapIs w9 (B + 1) K M ∧ Bx 30 w9 q6 #[.int .i64 0, .slice none 0 0, .bool false, .slice none 0 0] := fun w9 h9 => by
        have hB9 : ∀ j, j ≤ 4 → ¬ (B + j = q5) := fun j hj e => by have := HQ.out; have := HB0.out; omega
        have cl : ∀ j, j ≤ 4 → w9.cell? ⟨B + j, 0, none⟩ = wo.cell? ⟨B + j, 0, none⟩ := fun j hj => World.cell?_of_block (h9.block (B + j) (by omega) (hB9 j hj))
        refine ⟨⟨Nat.lt_of_lt_of_le hB1 h9.size, (cl 0 (by omega)).trans k0, (cl 4 (by omega)).trans k4, (cl 2 (by omega)).trans k2⟩, HO.out.ls.only h9 (fun a ha e => ?_), HMM.out.1.only h9 (hB9 1 (by omega)), HX6.out.only h9 (by have := HQ.out; omega)⟩
        exact (HYY.out a.block (by rw [ha]; rfl)).2.2 (.inr (.inr (.inl e)))
      have HKEEP := Lib.hid hkeep
      have HBYTE : Hid (∀ x : Nat, x < room → (M x).getD 0 = s1.dat.getD x 0) := Lib.hid HMM.out.2
      clear hm hfin hdd hRR hkeep
      have hex' : (¬ n < 6 ∧ ¬ (n : Int) < 6) ∨ (n < 6 ∧ (n : Int) < 6 ∧ ¬ s1.front ≤ 2048) ∨ (n < 6 ∧ (n : Int) < 6 ∧ s1.front ≤ 2048 ∧ ¬ s1.front < ev) := by omega
      clear hex
      rcases hex' with ⟨i0, i0'⟩ | ⟨i0, i0', i1⟩ | ⟨i0, i0', i1, i2⟩
      all_goals
        go_upto_region 7 with fail
        obtain ⟨wd, hwd⟩ : ∃ wd, wd = wo.setCell ⟨q5, 2, none⟩ (.bool dd) := ⟨_, rfl⟩
        have HXd : Hid (Bx 30 wd q5 #[.int .i64 0, .slice A1 m1 c1, .bool dd, .slice none 0 0]) := Lib.hid (by rw [hwd]; exact HX5.out.set 2 _)
        have HOd : Hid (Only (fun k => k = q5) wo wd) := Lib.hid (by rw [hwd]; exact Only.setCell (S := fun k => k = q5) (Only.refl _ _) (.inl rfl) _)
        obtain ⟨⟨kB, k0, k4, k2⟩, -⟩ := HKEEP.out wd HOd.out
        have kB0 : B < wd.heap.size := by omega
        rw [← hwd]
        clear hwd f0 f3 f4 y1 y2 z2 hlq5
        go_upto_region 8 with fail
        clear k0 k4 k2 kB kB0
        go_loopw [42] (fun i wx => ∃ (k : Nat) (d : Bool), k ≤ n ∧ i = .int .i64 k ∧ d = dn s1 k ∧ Bx 30 wx q5 #[.int .i64 0, .slice A1 m1 c1, .bool d, .slice none 0 0] ∧ Only (fun k => k = q5) wo wx) (fun i _ => n - (intOf i).toNat)
        case atStart => exact ⟨0, dd, Nat.zero_le _, rfl, HD0.out.symm, HXd.out, HOd.out⟩
        case round =>
          obtain ⟨k, d, hk, rfl, hd, hxk, hok⟩ := hrel
          obtain ⟨⟨kB, k0, k4, k2⟩, kL, kM, kX6⟩ := HKEEP.out _ hok
          have kB4 : B + 4 < _ := kB
          have y2 := hxk.cell 2 _ rfl
          have z2 := hxk.soft 2
          have yl := hxk.lt
          have HXK := Lib.hid hxk
          have HOK := Lib.hid hok
          have HDD := Lib.hid hd
          have HKL := Lib.hid kL
          have HKX6 := Lib.hid kX6
          clear hd hxk hok kL kM kX6 k0 k2
          by_cases hlt : k < n
          · obtain ⟨⟨p, q⟩, hx⟩ : ∃ x, s1.out[k]? = some x := ⟨_, List.getElem?_eq_getElem (by rw [← HN.out]; exact hlt)⟩
            obtain ⟨bb, o, rfl, hbs, hcc⟩ := HKL.out.at k _ hx
            have hc1 := hcc 0 (.int .i64 p) rfl
            have hc2 := hcc 1 (.int .i64 q) rfl
            simp only [wtS, Nat.add_zero] at hc1 hc2
            have hki : (k : Int) < (n : Int) := by omega
            have HNX := Lib.hid (HDS.out k _ hx)
            clear hcc hx
            have hnew : ∀ (o : Obj) (v : Bool), v = dn s1 (k + 1) → ∃ (k' : Nat) (d : Bool), k' ≤ n ∧ Value.int .i64 ((k : Int) + 1) = .int .i64 (k' : Int) ∧ d = dn s1 k' ∧ Bx 30 ((wr.setCell ⟨q5, 2, none⟩ (.bool v)).alloc o) q5 #[.int .i64 0, .slice A1 m1 c1, .bool d, .slice none 0 0] ∧ Only (fun k => k = q5) wo ((wr.setCell ⟨q5, 2, none⟩ (.bool v)).alloc o) := fun o v hv =>
              ⟨k + 1, v, by omega, by go_num, hv, (HXK.out.set 2 _).below (ba1 _ _), (HOK.out.setCell (.inl rfl) _).alloc _⟩
            have HNEW := Lib.hid hnew
            clear hnew
            rcases d with _ | _
            · have HV0 : Hid (false = dn s1 (k + 1)) := Lib.hid (by rw [HNX.out, ← HDD.out]; rfl)
              go_wp2_with fail
              exact ⟨HNEW.out _ _ HV0.out, by simp [intOf]; omega⟩
            · by_cases hge : ev ≤ p
              · have HV0 : Hid (true = dn s1 (k + 1)) := Lib.hid (by rw [HNX.out, ← HDD.out, decide_eq_true hge]; rfl)
                go_wp2_with fail
                exact ⟨HNEW.out _ _ HV0.out, by simp [intOf]; omega⟩
              · have HV0 : Hid (false = dn s1 (k + 1)) := Lib.hid (by rw [HNX.out, ← HDD.out, decide_eq_false hge]; rfl)
                go_wp2_with fail
                exact ⟨HNEW.out _ _ HV0.out, by simp [intOf]; omega⟩
          · obtain rfl : k = n := by omega
            have HDC : Hid (d = came s1) := Lib.hid (by rw [HDD.out]; exact HDN.out)
            clear hlt
            rcases d with _ | _
            · obtain ⟨r0, r1, r2, r3, r4, g1, g2, g3, g4⟩ := HXK.out.cells4
              obtain ⟨t0, t1, t2, t3, t4, h1, h2, h3, h4⟩ := HKX6.out.cells4
              clear kB k4 y2 z2 yl kB4
              go_wp2_with fail
              obtain ⟨w9, hw9⟩ : ∃ w9, w9 = put4 wr q6 (.int .i64 0) (.slice A1 m1 c1) (.bool false) (.slice none 0 0) := ⟨_, rfl⟩
              have HX9 : Hid (Bx 30 w9 q6 #[.int .i64 0, .slice A1 m1 c1, .bool false, .slice none 0 0]) := Lib.hid (by rw [hw9]; exact HKX6.out.put4 _ _ _ _)
              have HN9 : Hid (Only (fun k => k = q5 ∨ k = q6) wo w9) := Lib.hid ((HOK.out.mono (fun k hk => .inl hk)).trans (T := fun k => k = q6) (by rw [hw9]; exact only_put4 _ _ _ _ _ _) (fun j hj => .inl (.inr hj)))
              unfold put4 at hw9
              rw [← hw9]
              clear r0 r1 r2 r3 r4 g1 g2 g3 g4 t0 t1 t2 t3 t4 h1 h2 h3 h4 hw9
              obtain ⟨r0, r1, r2, r3, r4, g1, g2, g3, g4⟩ := HX9.out.cells4
              refine end_ret (v := .agg #[.int .i64 0, .slice A1 m1 c1, .bool false, .slice none 0 0]) (by simp [results, Try.results15, go_sem, r0, r1, r2, r3, r4, g1, g2, g3, g4]; try rfl) ?_
              exact HFIN.out false none 0 0 w9 HDC.out (by rw [← HDC.out]; rfl) (by rw [← HDC.out]; exact OwnL.nil _ _) HN9.out
            · have he : s1.ended = true := came_ended HDC.out.symm
              obtain ⟨fn, hfn⟩ : ∃ fn : Nat, s1.fin = fn := ⟨s1.fin.toNat, by have := HK1.out.e0; omega⟩
              obtain rfl : ev = (fn : Int) := by rw [HV.out, endV_known he, hfn]
              have hf2 : fn ≤ 2148 := by have := HK1.out.e1; omega
              have HFN : Hid (came s1 = true ∧ s1.fin.toNat = fn ∧ s1.dat.length = room) := Lib.hid ⟨HDC.out.symm, by omega, HK1.out.len⟩
              have HK0 := HKX6
              obtain ⟨wz, hwz⟩ : ∃ wz, wz = wr := ⟨_, rfl⟩
              have hwzz : wo.heap.size ≤ wz.heap.size := by rw [hwz]; exact HOK.out.size
              have HQZ : Hid (q5 < wz.heap.size ∧ q6 < wz.heap.size ∧ B + 5 ≤ wz.heap.size) := Lib.hid (by rw [hwz]; exact ⟨HXK.out.lt, HK0.out.lt, by omega⟩)
              have HXZ : Hid (Bx 30 wz q5 #[.int .i64 0, .slice A1 m1 c1, .bool true, .slice none 0 0]) := Lib.hid (by rw [hwz]; exact HXK.out)
              have HOZ : Hid (Only (fun k => k = q5) wo wz) := Lib.hid (by rw [hwz]; exact HOK.out)
              clear kB k4 yl kB4 he hfn
              go_upto_region 14 with fail
              clear y2 z2
              rw [← hwz]
              clear HXK HOK HKX6 HK0 hwz HKL
              go_loopw [10] (fun i wx => ∃ (k : Nat) (A5 : Option Addr) (g5 : Nat), k ≤ fn ∧ i = .int .i64 k ∧ Bx 30 wx q5 #[.int .i64 0, .slice A1 m1 c1, .bool true, .slice A5 k g5] ∧ OwnL byS 5 wx wz.heap.size A5 k g5 (s1.dat.take k) ∧ Only (fun k => k = q5) wo wx ∧ wz.heap.size ≤ wx.heap.size) (fun i _ => fn - (intOf i).toNat)
              case atStart => exact ⟨0, none, 0, Nat.zero_le _, rfl, HXZ.out, OwnL.nil _ _, HOZ.out, Nat.le_refl _⟩
              case round =>
                obtain ⟨k, A5, g5, hk, rfl, hxk, hok, hon, hsz⟩ := hrel
                obtain ⟨⟨kB, k0, k4, k2⟩, kL, kM, kX6⟩ := HKEEP.out _ hon
                have y3 := hxk.cell 3 _ rfl
                have z3 := hxk.soft 3
                have yl := hxk.lt
                have kB4 : B + 4 < _ := kB
                have kB2 : B + 2 < wr.heap.size := by omega
                have HXK := Lib.hid hxk
                have HOK := Lib.hid hok
                have HON3 := Lib.hid hon
                have HKM := Lib.hid kM
                have HKX6 := Lib.hid kX6
                clear hxk hok hon kL kM kX6 k0
                by_cases hlt : k < fn
                · have hki : (k : Int) < (fn : Int) := by omega
                  obtain ⟨v, hv⟩ : ∃ v, v = s1.dat.getD k 0 := ⟨_, rfl⟩
                  have hMk : (M (k : Int)).getD 0 = v := by rw [hv]; exact HBYTE.out k (by unfold room; omega)
                  have HTK : Hid (s1.dat.take (k + 1) = s1.dat.take k ++ [v]) := Lib.hid (by
                    have hl : k < s1.dat.length := by rw [HFN.out.2.2]; unfold room; omega
                    rw [List.take_add_one, List.getElem?_eq_getElem hl, hv, List.getD_eq_getElem?_getD, List.getElem?_eq_getElem hl]; rfl)
                  have HMK := Lib.hid hMk
                  have hz : i64in (k : Int) := ⟨by omega, by omega⟩
                  have HZ := Lib.hid hz
                  obtain ⟨hq1, hq2, hq3⟩ := HQZ.out
                  clear hv hMk hz
                  go_wp2_with (first
                    | (at_lookup; refine wpList_look0 _ rfl _ _ rfl (B + 1) K M rfl HKM.out k HZ.out rfl ?_; rw [HMK.out])
                    | (at_builtin; refine wpList_appL (F := byS) rfl _ (.tmp 64) (.tmp 68) 28 rfl _ 1 Try.underlying28 byInfo rfl wz.heap.size A5 k g5 (s1.dat.take k) rfl (HOK.out.below (ba1 _ _)) (some ⟨wr.heap.size, 0, none⟩) 1 1 [v] rfl (ls_new wr _ _ _ rfl _ rfl) rfl (k + 1) rfl (by omega) (by omega) (by simp; omega) ?_; intro A8 g8 w8 ho8 hb8 hs8; have O8 := Lib.hid ho8; have HB8 := Lib.hid hb8; have hx8 := (HXK.out.below (ba1 wr _)).below' hb8 hq1; have f83 := hx8.soft 3; have c83 := hx8.cell 3 _ rfl; have HX8 := Lib.hid hx8; clear ho8 hb8 hs8 hx8))
                  exact ⟨⟨k + 1, A8, g8, by omega, by go_num, HX8.out.set 3 _, by rw [HTK.out]; exact O8.out.set (Off.under (fun j hj => (O8.out.lt j hj).1) hq1) _ _, (HON3.out.trans ((only_new (ba1 wr _)).trans (T := fun k => wz.heap.size ≤ k) (S := fun k => wz.heap.size ≤ k) ⟨HB8.out.os, HB8.out.tape, HB8.out.output, HB8.out.size, fun j hj hn => HB8.out.block j (by omega)⟩ (fun j hj => .inl hj)) (fun j hj => .inr (by omega))).setCell (.inl rfl) _, by
                    have h1 := HB8.out.size
                    have h2 := (ba1 wr (.cells #[.int .u8 v] 5)).size
                    simp only [World.size_setCell] at *
                    omega⟩, by simp [intOf]; omega⟩
                · obtain rfl : k = fn := by omega
                  obtain ⟨r0, r1, r2, r3, r4, g1, g2, g3, g4⟩ := HXK.out.cells4
                  obtain ⟨t0, t1, t2, t3, t4, h1, h2, h3, h4⟩ := HKX6.out.cells4
                  clear k2 y3 z3 yl kB2 hlt
                  have hkk : ¬ (k : Int) < (k : Int) := by omega
                  go_upto_region 17 with fail
                  clear k4 kB kB4
                  go_wp2_with fail
                  obtain ⟨w9, hw9⟩ : ∃ w9, w9 = put4 wr q6 (.int .i64 0) (.slice A1 m1 c1) (.bool true) (.slice A5 k g5) := ⟨_, rfl⟩
                  have HX9 : Hid (Bx 30 w9 q6 #[.int .i64 0, .slice A1 m1 c1, .bool true, .slice A5 k g5]) := Lib.hid (by rw [hw9]; exact HKX6.out.put4 _ _ _ _)
                  have HN9' : Hid (Only (fun k => k = q6) wr w9) := Lib.hid (by rw [hw9]; exact only_put4 _ _ _ _ _ _)
                  have HN9 : Hid (Only (fun k => k = q5 ∨ k = q6) wo w9) := Lib.hid ((HON3.out.mono (fun k hk => .inl hk)).trans HN9'.out (fun j hj => .inl (.inr hj)))
                  unfold put4 at hw9
                  rw [← hw9]
                  clear r0 r1 r2 r3 r4 g1 g2 g3 g4 t0 t1 t2 t3 t4 h1 h2 h3 h4 hw9
                  obtain ⟨r0, r1, r2, r3, r4, g1, g2, g3, g4⟩ := HX9.out.cells4
                  refine end_ret (v := .agg #[.int .i64 0, .slice A1 m1 c1, .bool true, .slice A5 k g5]) (by simp [results, Try.results15, go_sem, r0, r1, r2, r3, r4, g1, g2, g3, g4]; try rfl) ?_
                  have hq6z : q6 < wz.heap.size := HQZ.out.2.1
                  have HO9 := (HOK.out.only HN9'.out (fun j hj e => by have := (HOK.out.lt j hj).1; omega)).base hwzz
                  refine HFIN.out true A5 k g5 w9 HDC.out ?_ ?_ HN9.out
                  · rw [HFN.out.1, if_pos rfl, HFN.out.2.1, List.length_take, HFN.out.2.2]; unfold room; omega
                  · rw [HFN.out.1, if_pos rfl, HFN.out.2.1]; exact HO9

end Go.Proofs.Ytjlnjeigoncfoaa
