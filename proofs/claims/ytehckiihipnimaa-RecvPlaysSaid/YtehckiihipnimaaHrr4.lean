/-
  The program's hearer: take.
-/
import Derived.Test.YtehckiihipnimaaHrr3
import Derived.Test.YtehckiihipnimaaBox6
namespace Go.Proofs.Ytehckiihipnimaa
open Go.RowKit
set_option linter.unusedVariables false
set_option linter.unusedSimpArgs false

def tlC (t : Tl) (S : Option Addr) (m e : Nat) (A : Option Addr) (n c : Nat) : Array Value := #[.int .i64 t.code, .int .i64 t.ack, .int .i64 t.win, .slice S m e, .slice A n c, .bool t.stop]
def tkC (code : Int) (A : Option Addr) (n c : Nat) (stop : Bool) : Array Value := #[.int .i64 code, .int .i64 0, .int .i64 0, .slice none 0 0, .slice A n c, .bool stop]
/-- what take answers -/
def RetTk (E : Env) (w : World) (T : Nat → Prop) (B : Nat) (r : (Int × List Int × Bool) × Hr) (e : Ending) (w' : World) : Prop :=
  ∃ A n c, e = .returned (.agg (tkC r.1.1 A n c r.1.2.2)) ∧ OwnL byS 5 w' w.heap.size A n c r.1.2.1 ∧ HM E w' (fun k => T k ∨ (Value.slice A n c).ownBlock = some k) B r.2 ∧ EffH T B w w'

def TkX (wc : World) (bs : List Int) (p : Value) (wx : World) : Prop :=
  ∃ q7 A n c, p = .pointer (some ⟨q7, 0, none⟩) ∧ wc.heap.size ≤ q7 ∧ Bx 52 wx q7 #[.int .i64 0, .int .i64 0, .int .i64 0, .slice none 0 0, .slice A n c, .bool false] ∧ OwnL byS 5 wx wc.heap.size A n c bs ∧
    (∀ k, (Value.slice A n c).ownBlock = some k → ¬ k = q7) ∧ Below wc.heap.size wc wx

set_option maxRecDepth 100000 in
set_option maxHeartbeats 4000000 in
theorem take_range (E : Env) (o : Nat) (ho : o = E.o) (w : World) (T : Nat → Prop) (B : Nat) (s : Hr) (h : HM E w T B s) (count : Int) (hc : count < 0 ∨ 4096 < count) :
    Calls Try.prog 58 #[.pointer (some ⟨B, o, none⟩), .int .i64 count] w (RetTk E w T B (takes s count)) := by
  have H := Lib.hid h
  have HR : Hid (takes s count = ((2, [], false), s)) := Lib.hid (by unfold takes; rw [if_pos hc])
  rw [HR.out]
  clear h
  have hcc : count < 0 ∨ (0 ≤ count ∧ 4096 < count) := by omega
  clear hc
  rcases hcc with k0 | ⟨k0, k1⟩
  all_goals
    go_enter Try.func58, Try.ntmps58
    go_wp2
    refine end_ret (v := .agg (tkC 2 none 0 0 false)) (by unfold tkC; simp [results, Try.results58, go_sem]; try rfl) ⟨none, 0, 0, rfl, OwnL.nil _ _, ?_, ?_⟩
    · exact (H.out.new (ba1 _ _)).less (fun k hk => hk.elim id (fun g => by cases g))
    · exact EffH.new (ba1 _ _)

set_option maxRecDepth 100000 in
set_option maxHeartbeats 8000000 in
theorem take_ok (E : Env) (o : Nat) (ho : o = E.o) (w : World) (T : Nat → Prop) (B : Nat) (s : Hr) (h : HM E w T B s) (hok : HrOk s) (hT : ∀ k, T k → k < w.heap.size) (count : Int) (hc : ¬ (count < 0 ∨ 4096 < count)) :
    Calls Try.prog 58 #[.pointer (some ⟨B, o, none⟩), .int .i64 count] w (RetTk E w T B (takes s count)) := by
  obtain ⟨D, dc, Y, yc, ⟨c0, c1, c2, c3, c4, c5, c6⟩, hf, hD, hY, hk⟩ := h.cells
  have hB := h.lt
  have H := Lib.hid h
  have HO := Lib.hid ho
  have HOK := Lib.hid hok
  have HTT := Lib.hid hT
  have HD := Lib.hid hD
  have hcap := hD.cap
  have haddr := hD.addr
  obtain ⟨F, hF⟩ : ∃ F : Nat, s.taken = F := ⟨s.taken.toNat, by have := hok.t0; omega⟩
  obtain ⟨tz, htz⟩ : ∃ t : Nat, takeTo s count = t := ⟨(takeTo s count).toNat, by unfold takeTo; have := hok.t0; have := hok.t1; omega⟩
  obtain ⟨dn, hdn⟩ : ∃ d, d = s.dn := ⟨_, rfl⟩
  obtain ⟨en, hen⟩ : ∃ d, d = s.ended := ⟨_, rfl⟩
  obtain ⟨st, hst⟩ : ∃ d, d = s.stop := ⟨_, rfl⟩
  obtain ⟨bs, hbs⟩ : ∃ l, l = (s.data.drop F).take (tz - F) := ⟨_, rfl⟩
  obtain ⟨dl, hdl⟩ : ∃ x, x = s.data.length := ⟨_, rfl⟩
  have hto : (tz : Int) = min dn ((F : Int) + count) := by rw [← htz, hdn, ← hF]; rfl
  have hb1 := hok.t1; have hb2 := hok.l1; have hb3 := hok.l3
  have HR : Hid (takes s count = ((0, bs, en && decide ((tz : Int) = st)), { s with taken := tz })) := Lib.hid (by
    unfold takes; rw [if_neg hc, htz, hbs, hen, hst, hF]
    simp only [Int.toNat_natCast]
    rw [show ((tz : Int) - (F : Int)).toNat = tz - F by omega])
  rw [HR.out]
  rw [hF, ← hdn] at hb1
  rw [← hdn, ← hdl] at hb2
  rw [← hdl] at hb3
  have hFt : F ≤ tz ∧ tz ≤ dl ∧ tz - F ≤ 4096 := by omega
  have HBS : Hid (bs.length = tz - F) := Lib.hid (by rw [hbs, List.length_take, List.length_drop, ← hdl]; omega)
  have HBE := Lib.hid hbs
  rw [← ho, ← hdl] at c1
  rw [← ho, ← hdn] at c2
  rw [← ho, hF] at c4
  rw [← ho, ← hen] at c5
  rw [← ho, ← hst] at c6
  rw [← hdl] at hcap haddr HD
  have HF := Lib.hid hF
  have HEN := Lib.hid hen
  have HST := Lib.hid hst
  have HTO := Lib.hid hto
  have HDL := Lib.hid hdl
  have hw1 : IntKind.i64.wrap ((F : Int) + count) = (F : Int) + count := by rw [IntKind.wrap_i64]; omega
  have HC := Lib.hid (And.intro c1 (And.intro c4 (And.intro c5 c6)))
  have n1 : ¬ count < 0 := by omega
  have n2 : ¬ 4096 < count := by omega
  clear h hok hT hD hY hk hf c0 c3 hF htz hdn hen hst hbs hdl hto ho hc
  go_enter Try.func58, Try.ntmps58
  go_upto_region 3 with fail
  obtain ⟨q4, hq4⟩ : ∃ q, q = w.heap.size := ⟨_, rfl⟩
  obtain ⟨w2, hw2⟩ : ∃ w2, w2 = w.alloc (.cells #[.int .i64 0, .int .i64 0, .int .i64 0, .slice none 0 0, .slice none 0 0, .bool false] 52) := ⟨_, rfl⟩
  have HB2 : Hid (Below w.heap.size w w2) := Lib.hid (by rw [hw2]; exact ba1 _ _)
  have HX4 : Hid (Bx 52 w2 q4 #[.int .i64 0, .int .i64 0, .int .i64 0, .slice none 0 0, .slice none 0 0, .bool false]) := Lib.hid (by rw [hw2, hq4]; exact bx_new _ _ _)
  have H2 : Hid (HM E w2 (fun k => T k ∨ w.heap.size ≤ k) B s) := Lib.hid ((H.out.only (T' := fun k => T k ∨ w.heap.size ≤ k) (S := fun _ => False) (Only.refl _ _) (fun _ h => h.elim) (fun k hk => hk)).new HB2.out)
  rw [← hw2, ← hq4]
  have HQ4 := Lib.hid hq4
  have hBq : B < q4 := by omega
  clear hw2 hq4
  have c2' := (HB2.out.cell (p := ⟨B, o + 2, none⟩) hB).trans c2
  have c4' := (HB2.out.cell (p := ⟨B, o + 4, none⟩) hB).trans c4
  have hB2 := H2.out.lt
  clear c1 c2 c4 c5 c6
  go_cut [5] (fun v wx => v = .int .i64 tz ∧ Below w2.heap.size w2 wx)
  case first =>
    go_region
    all_goals
      go_wp2
    all_goals
      go_meet
    all_goals
      exact ⟨congrArg (Value.int .i64) (by have := HTO.out; omega), by first | exact (Below.refl _ _).drew | exact Below.refl _ _⟩
  case rest =>
    obtain ⟨rfl, hbc⟩ := hcut
    obtain ⟨wd, hwd⟩ : ∃ wd, wd = wc := ⟨_, rfl⟩
    subst hwd
    have HBc := Lib.hid hbc
    have Hc : Hid (HM E wd (fun k => T k ∨ w.heap.size ≤ k) B s) := Lib.hid (H2.out.new hbc)
    have HDc : Hid (OwnL byS 5 wd (B + 1) D dl dc s.data) := Lib.hid ((HD.out.below HB2.out).below hbc)
    have HX4c := Lib.hid (HX4.out.below hbc)
    have c1c := (hbc.cell (p := ⟨B, o + 1, none⟩) hB2).trans ((HB2.out.cell (p := ⟨B, o + 1, none⟩) hB).trans HC.out.1)
    have c4c := (hbc.cell (p := ⟨B, o + 4, none⟩) hB2).trans c4'
    have lB := Hc.out.lt
    clear c2' c4' hB2 hbc
    obtain ⟨ht1, ht2, ht3⟩ := hFt
    have z1 : (0 : Int) ≤ (F : Int) := by omega
    have z2 : (F : Int) ≤ (tz : Int) := by omega
    have z3 : (tz : Int) ≤ (dc : Int) := by omega
    have z4 : (tz : Int) ≤ (dl : Int) := by omega
    have z5 : ((F : Int)).toNat = F := by omega
    have z6 : ((tz : Int)).toNat = tz := by omega
    have HW1 : Hid (Below wd.heap.size wd wd.drew) := Lib.hid (Below.refl _ _).drew
    have HW2 : Hid (Below wd.heap.size wd (wd.alloc (.cells #[.int .i64 0, .int .i64 0, .int .i64 0, .slice none 0 0, .slice none 0 0, .bool false] 52)).drew) := Lib.hid (ba1 _ _).drew
    have a02 := (HW2.out.cell (p := ⟨B, o + 1, none⟩) lB).trans c1c
    have a03 := (HW2.out.cell (p := ⟨B, o + 4, none⟩) lB).trans c4c
    go_upto_region 4 with fail
    go_cut [6] (fun p wx => TkX wd bs p wx)
    case first =>
      rcases haddr with ⟨rfl, hd0, hc0⟩ | ⟨g, rfl, hg⟩
      · have ef : F = 0 := by omega
        have et : tz = 0 := by omega
        subst ef; subst et; subst hd0; subst hc0
        have hbn : bs = [] := List.eq_nil_of_length_eq_zero (by rw [HBS.out])
        subst hbn
        have b0 := cell_drew1 c1c
        have b1 := cell_drew1 c4c
        go_region_held3 (fun w' => w'.cell? ⟨B, o + 1, none⟩ = some (.slice none 0 0) ∧ w'.cell? ⟨B, o + 4, none⟩ = some (.int .i64 (0 : Nat))) (first | (with_reducible exact ⟨b0, b1⟩) | (with_reducible exact ⟨cell_alloc1 b0, cell_alloc1 b1⟩) | (with_reducible exact ⟨cell_drew1 (cell_alloc1 c1c), cell_drew1 (cell_alloc1 c4c)⟩) | go_keep) (first
          | (go_at_call 75; (with_reducible refine (clone_none _).mono ?_); rintro e w5 ⟨rfl, rfl⟩))
        all_goals
          go_wp2
        all_goals
          go_meet
        all_goals
          exact ⟨wd.heap.size, none, 0, 0, rfl, Nat.le_refl _, (bx_new wd 52 #[.int .i64 0, .int .i64 0, .int .i64 0, .slice none 0 0, .slice none 0 0, .bool false]).below (Below.refl _ _).drew, OwnL.nil _ _, fun k hk => (by cases hk), (ba1 _ _).drew⟩
      · obtain ⟨oD, zD, hD'⟩ : ∃ oD, (if dc = F then some (⟨g, 0, none⟩ : Addr) else some ⟨g, F, none⟩) = some ⟨g, oD, none⟩ ∧ (dl = F ∨ oD = F) := by
          by_cases h : dc = F
          · exact ⟨0, by rw [if_pos h], .inl (by omega)⟩
          · exact ⟨F, by rw [if_neg h], .inr rfl⟩
        have HCL : Hid (∀ wk, Below wd.heap.size wd wk → Calls Try.prog 75 #[.slice (some ⟨g, oD, none⟩) (tz - F) (dc - F)] wk fun e w' => ∃ A c', e = .returned (.slice A (tz - F) c') ∧ OwnL byS 5 w' wk.heap.size A (tz - F) c' bs ∧ Below wk.heap.size wk w') := Lib.hid (fun wk hk => clone_some g oD (tz - F) (dc - F) bs wk (by
          rcases hD' with h | h
          · have : bs = [] := List.eq_nil_of_length_eq_zero (by rw [HBS.out]; omega)
            rw [this]; exact Ls.nil _ _
          · rw [h, HBE.out]
            have := ((HDc.out.below hk).ls.drop1 rfl F).take (tz - F)
            rw [Nat.zero_add] at this
            exact this) HBS.out (by omega))
        clear hD'
        have b0 := cell_drew1 c1c
        have b1 := cell_drew1 c4c
        go_region_held3 (fun w' => w'.cell? ⟨B, o + 1, none⟩ = some (.slice (some ⟨g, 0, none⟩) dl dc) ∧ w'.cell? ⟨B, o + 4, none⟩ = some (.int .i64 F)) (first | (with_reducible exact ⟨m1, m2⟩) | (with_reducible exact ⟨b0, b1⟩) | (with_reducible exact ⟨cell_alloc1 m1, cell_alloc1 m2⟩) | (with_reducible exact ⟨cell_drew1 (cell_alloc1 c1c), cell_drew1 (cell_alloc1 c4c)⟩) | (refine ⟨(cell_put6 ?_ _ _ _ _ _ _).trans m1, (cell_put6 ?_ _ _ _ _ _ _).trans m2⟩ <;> (simp only; omega)) | go_keep) (first
          | (go_at_call 75; (with_reducible refine (HCL.out wd.drew HW1.out).mono ?_); rintro e w5 ⟨A5, c5, rfl, ho5, hb5⟩; have O5 := Lib.hid ho5; have HB5 := Lib.hid hb5; have m1 := (hb5.cell (p := ⟨B, o + 1, none⟩) lB).trans c1c; have m2 := (hb5.cell (p := ⟨B, o + 4, none⟩) lB).trans c4c; clear ho5 hb5)
          | (go_at_call 75; (with_reducible refine (HCL.out (wd.alloc (.cells #[.int .i64 0, .int .i64 0, .int .i64 0, .slice none 0 0, .slice none 0 0, .bool false] 52)).drew HW2.out).mono ?_); rintro e w6 ⟨A6, c6, rfl, ho6, hb6⟩; have O6 := Lib.hid ho6; have HB6 := Lib.hid hb6; have m1 := (hb6.cell (p := ⟨B, o + 1, none⟩) (by have := HW2.out.size; simp only; omega)).trans a02; have m2 := (hb6.cell (p := ⟨B, o + 4, none⟩) (by have := HW2.out.size; simp only; omega)).trans a03; have HX6 : Hid (Bx 52 w6 wd.heap.size #[.int .i64 0, .int .i64 0, .int .i64 0, .slice none 0 0, .slice none 0 0, .bool false]) := Lib.hid (((bx_new wd 52 #[.int .i64 0, .int .i64 0, .int .i64 0, .slice none 0 0, .slice none 0 0, .bool false]).below (Below.refl _ _).drew).below hb6); have y0 := HX6.out.cell 0 (.int .i64 0) rfl; have y1 := HX6.out.cell 1 (.int .i64 0) rfl; have y2 := HX6.out.cell 2 (.int .i64 0) rfl; have y3 := HX6.out.cell 3 (.slice none 0 0) rfl; have y4 := HX6.out.cell 4 (.slice none 0 0) rfl; have y5 := HX6.out.cell 5 (.bool false) rfl; have s0 := HX6.out.soft 0; have s1 := HX6.out.soft 1; have s2 := HX6.out.soft 2; have s3 := HX6.out.soft 3; have s4 := HX6.out.soft 4; have s5 := HX6.out.soft 5; clear ho6 hb6))
        all_goals
          go_wp2
        all_goals
          go_meet
        all_goals
          first
          | exact ⟨w5.heap.size, A5, tz - F, c5, rfl, HB5.out.size, bx_new w5 _ _, (O5.out.below (ba1 _ _)).base (Nat.le_refl _), fun k hk e => by have := (O5.out.lt k hk).2; omega, (HW1.out.trans HB5.out).alloc HB5.out.size _⟩
          | (have hz : wd.heap.size < w6.heap.size := HX6.out.lt
             have hw2 : Below wd.heap.size wd w6 := HW2.out.trans (HB6.out.mono HW2.out.size)
             have hb6 : ∀ k, (Value.slice A6 (tz - F) c6).ownBlock = some k → wd.heap.size + 1 ≤ k := fun k hk => by have := (O6.out.lt k hk).1; simpa using this
             exact ⟨wd.heap.size, A6, tz - F, c6, rfl, Nat.le_refl _, HX6.out.put6 (.int .i64 0) (.int .i64 0) (.int .i64 0) (.slice none 0 0) (.slice A6 (tz - F) c6) (.bool false),
               (O6.out.only (only_put6 w6 wd.heap.size (.int .i64 0) (.int .i64 0) (.int .i64 0) (.slice none 0 0) (.slice A6 (tz - F) c6) (.bool false)) (fun k hk e => by have := hb6 k hk; omega)).base HW2.out.size,
               fun k hk e => by have := hb6 k hk; omega,
               hw2.trans ((only_put6 w6 wd.heap.size (.int .i64 0) (.int .i64 0) (.int .i64 0) (.slice none 0 0) (.slice A6 (tz - F) c6) (.bool false)).below (B := wd.heap.size) (fun j hj => by omega) (by omega))⟩)
    case rest =>
      obtain ⟨q7, A5, n5, c5, rfl, hq7, hbx, how, hne, hbw⟩ := hcut
      obtain ⟨we, hwe⟩ : ∃ we, we = wc := ⟨_, rfl⟩
      subst hwe
      have HBW := Lib.hid hbw
      have HBX := Lib.hid hbx
      have HOW := Lib.hid how
      have HNE := Lib.hid hne
      have Hw : Hid (HM E we (fun k => T k ∨ w.heap.size ≤ k) B s) := Lib.hid (Hc.out.new hbw)
      have HX4w := Lib.hid (HX4c.out.below hbw)
      have hsz := hbw.size
      have hBw := Hw.out.lt
      have c4w := (hbw.cell (p := ⟨B, o + 4, none⟩) lB).trans c4c
      have f4w : we.frozen? ⟨B, o + 4, none⟩ = false := by
        obtain ⟨D9, dc9, Y9, yc9, -, hf, -, -, -⟩ := Hw.out.cells
        exact hf _
      clear hbw hbx how hne a02 a03 c1c c4c
      go_upto_region 6 with fail
      obtain ⟨w8, hw8⟩ : ∃ w8, w8 = we.setCell ⟨B, o + 4, none⟩ (.int .i64 tz) := ⟨_, rfl⟩
      have H8 : Hid (HM E w8 (fun k => T k ∨ w.heap.size ≤ k) B { s with taken := (tz : Int) }) := Lib.hid (by rw [hw8, HO.out]; exact HM.set (s' := { s with taken := (tz : Int) }) Hw.out 4 (by omega) _ rfl rfl (fun _ _ _ _ => rfl))
      have HN8 : Hid (Only (fun k => k = B) we w8) := Lib.hid (by rw [hw8]; exact only_set _ _ _ _)
      have hq7B : ¬ q7 = B := by omega
      have hBq7 : ¬ B = q7 := by omega
      have hq4l : q4 < wd.heap.size := HX4c.out.lt
      have hq74 : ¬ q7 = q4 := by omega
      have hq47 : ¬ q4 = q7 := by omega
      have hq4B : ¬ q4 = B := by omega
      have HX8 : Hid (Bx 52 w8 q7 #[.int .i64 0, .int .i64 0, .int .i64 0, .slice none 0 0, .slice A5 n5 c5, .bool false]) := Lib.hid (HBX.out.only HN8.out hq7B)
      have HX48 : Hid (Bx 52 w8 q4 #[.int .i64 0, .int .i64 0, .int .i64 0, .slice none 0 0, .slice none 0 0, .bool false]) := Lib.hid (HX4w.out.only HN8.out hq4B)
      rw [← hw8]
      clear hw8 c4w f4w
      obtain ⟨D9, dc9, Y9, yc9, ⟨-, -, -, -, d4, d5, d6⟩, -, -, -, -⟩ := H8.out.cells
      simp only at d4 d5 d6
      rw [← HO.out] at d4 d5 d6
      rw [← HEN.out] at d5
      rw [← HST.out] at d6
      have p5 := HX8.out.cell 5 (.bool false) rfl
      have y5 := HX8.out.soft 5
      have l7 := HX8.out.lt
      have lB8 := H8.out.lt
      obtain ⟨v, hv⟩ : ∃ v, v = (en && decide ((tz : Int) = st)) := ⟨_, rfl⟩
      have HV := Lib.hid hv
      clear hv
      go_cut [6] (fun p wx => p = .pointer (some ⟨q7, 0, none⟩) ∧ Bx 52 wx q7 (tkC 0 A5 n5 c5 v) ∧ Only (fun k => k = q7) w8 wx)
      case first =>
        have hcase : (en = false ∧ v = false) ∨ (en = true ∧ (tz : Int) = st ∧ v = true) ∨ (en = true ∧ ¬ (tz : Int) = st ∧ v = false) := by
          have hv := HV.out
          rcases he : en with _ | _
          · rw [he] at hv; exact .inl ⟨rfl, by simpa using hv⟩
          · rw [he] at hv
            by_cases hs : (tz : Int) = st
            · exact .inr (.inl ⟨rfl, hs, by simpa [hs] using hv⟩)
            · exact .inr (.inr ⟨rfl, hs, by simpa [hs] using hv⟩)
        have hbx : ∀ (v : Bool), Bx 52 (w8.setCell ⟨q7, 5, none⟩ (.bool v)).drew q7 (tkC 0 A5 n5 c5 v) ∧ Only (fun k => k = q7) w8 (w8.setCell ⟨q7, 5, none⟩ (.bool v)).drew := fun v => ⟨by
          have := HX8.out.set 5 (.bool v)
          exact this.below (Below.refl _ _).drew, (only_set w8 q7 5 _).drew⟩
        have hbx2 : ∀ (v : Bool), Bx 52 (w8.drew.setCell ⟨q7, 5, none⟩ (.bool v)) q7 (tkC 0 A5 n5 c5 v) ∧ Only (fun k => k = q7) w8 (w8.drew.setCell ⟨q7, 5, none⟩ (.bool v)) := fun v => ⟨by
          have := (HX8.out.below (Below.refl _ _).drew).set 5 (.bool v)
          exact this, ((Only.refl (fun k => k = q7) w8).drew.trans (only_set w8.drew q7 5 _) (fun j hj => .inl hj))⟩
        have HBX1 := Lib.hid hbx
        have HBX2 := Lib.hid hbx2
        clear hbx hbx2
        rcases hcase with ⟨rfl, rfl⟩ | ⟨rfl, h2, rfl⟩ | ⟨rfl, h2, rfl⟩
        · go_region
          all_goals
            go_wp2
          all_goals
            go_meet
          all_goals
            first | exact ⟨rfl, HBX1.out false⟩ | exact ⟨rfl, HBX2.out false⟩
        · have h3 : decide ((tz : Int) = st) = true := by simp; omega
          have h4 : ((tz : Int) == st) = true := by simp; omega
          clear h2
          go_region
          all_goals
            go_wp2
          all_goals
            go_meet
          all_goals
            first | exact ⟨rfl, HBX1.out true⟩ | exact ⟨rfl, HBX2.out true⟩
        · have h3 : decide ((tz : Int) = st) = false := by simp; omega
          have h4 : ((tz : Int) == st) = false := by simp; omega
          clear h2
          go_region
          all_goals
            go_wp2
          all_goals
            go_meet
          all_goals
            first | exact ⟨rfl, HBX1.out false⟩ | exact ⟨rfl, HBX2.out false⟩
      case rest =>
        obtain ⟨rfl, hbx, hon⟩ := hcut
        have HBXc := Lib.hid hbx
        have HONc := Lib.hid hon
        have HX4c9 : Hid (Bx 52 wc q4 #[.int .i64 0, .int .i64 0, .int .i64 0, .slice none 0 0, .slice none 0 0, .bool false]) := Lib.hid (HX48.out.only hon hq47)
        have p0 := hbx.cell 0 (.int .i64 0) rfl
        have p1 := hbx.cell 1 (.int .i64 0) rfl
        have p2 := hbx.cell 2 (.int .i64 0) rfl
        have p3 := hbx.cell 3 (.slice none 0 0) rfl
        have p4 := hbx.cell 4 (.slice A5 n5 c5) rfl
        have p5 := hbx.cell 5 (.bool v) rfl
        have l7c := hbx.lt
        have b0 := HX4c9.out.cell 0 (.int .i64 0) rfl
        have b1 := HX4c9.out.cell 1 (.int .i64 0) rfl
        have b2 := HX4c9.out.cell 2 (.int .i64 0) rfl
        have b3 := HX4c9.out.cell 3 (.slice none 0 0) rfl
        have b4 := HX4c9.out.cell 4 (.slice none 0 0) rfl
        have b5 := HX4c9.out.cell 5 (.bool false) rfl
        have y0 := HX4c9.out.soft 0
        have y1 := HX4c9.out.soft 1
        have y2 := HX4c9.out.soft 2
        have y3 := HX4c9.out.soft 3
        have y4 := HX4c9.out.soft 4
        have y5' := HX4c9.out.soft 5
        have l4c := HX4c9.out.lt
        obtain ⟨W, hW⟩ : ∃ W, W = put6 wc q4 (.int .i64 0) (.int .i64 0) (.int .i64 0) (.slice none 0 0) (.slice A5 n5 c5) (.bool v) := ⟨_, rfl⟩
        have HXW : Hid (Bx 52 W q4 #[.int .i64 0, .int .i64 0, .int .i64 0, .slice none 0 0, .slice A5 n5 c5, .bool v]) := Lib.hid (by rw [hW]; exact HX4c9.out.put6 _ _ _ _ _ _)
        have HOW4 : Hid (Only (fun k => k = q4) wc W) := Lib.hid (by rw [hW]; exact only_put6 _ _ _ _ _ _ _ _)
        clear hbx hon d4 d5 d6
        go_wp2_with fail
        unfold put6 at hW
        rw [← hW]
        clear hW p0 p1 p2 p3 p4 p5 b0 b1 b2 b3 b4 b5 y0 y1 y2 y3 y4 y5'
        have r0 := HXW.out.cell 0 (.int .i64 0) rfl
        have r1 := HXW.out.cell 1 (.int .i64 0) rfl
        have r2 := HXW.out.cell 2 (.int .i64 0) rfl
        have r3 := HXW.out.cell 3 (.slice none 0 0) rfl
        have r4 := HXW.out.cell 4 (.slice A5 n5 c5) rfl
        have r5 := HXW.out.cell 5 (.bool v) rfl
        refine end_ret (v := .agg (tkC 0 A5 n5 c5 v)) (by unfold tkC; simp [results, Try.results58, go_sem, r0, r1, r2, r3, r4, r5]) ?_
        rw [← HV.out]
        have hq4w := HQ4.out
        have hown : ∀ k, (Value.slice A5 n5 c5).ownBlock = some k → wd.heap.size ≤ k ∧ k < we.heap.size := HOW.out.lt
        -- what turned behind 'we'
        have ho8 : Only (fun k => k = B ∨ k = q7 ∨ k = q4) we W := ((HN8.out.mono (fun k hk => .inl hk)).trans HONc.out (fun j hj => .inl (.inr (.inl hj)))).trans HOW4.out (fun j hj => .inl (.inr (.inr hj)))
        have hw28 := HBc.out.size
        have hw2s := HB2.out.size
        refine ⟨A5, n5, c5, rfl, ?_, ?_, ?_⟩
        · refine (HOW.out.only ho8 (fun k hk hs => ?_)).base (by omega)
          have := hown k hk
          rcases hs with hs | hs | hs
          · omega
          · exact HNE.out k hk hs
          · omega
        · refine H8.out.only (S := fun k => k = q7 ∨ k = q4) ((HONc.out.mono (fun k hk => .inl hk)).trans HOW4.out (fun j hj => .inl (.inr hj))) (fun k hk => .inl (.inr (by omega))) (fun k hk => .inl ?_)
          rcases hk with hk | hk
          · exact .inl hk
          · have := hown k hk; exact .inr (by omega)
        · have hbw : Below w.heap.size w we := bthen (bthen HB2.out HBc.out) HBW.out
          have hnt := H.out.notT
          exact (only_new (S := fun k => B ≤ k ∧ ¬ T k) hbw).trans ho8 (fun j hj => by
            rcases hj with hj | hj | hj
            · subst hj; exact .inl ⟨Nat.le_refl _, hnt⟩
            · exact .inr (by omega)
            · exact .inr (by omega))

end Go.Proofs.Ytehckiihipnimaa
