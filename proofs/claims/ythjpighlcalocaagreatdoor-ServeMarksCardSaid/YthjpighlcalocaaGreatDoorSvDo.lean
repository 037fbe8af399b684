/-
  Who serves: a ReadAt, a WriteAt.
  Who serves: serve, Do.
  Who serves: Do; a new one; serve.Play.
-/
import Derived.Test.YthjpighlcalocaaGreatDoorSvBase
import Derived.BigQuiet
import Derived.Deep.QuietTactic
import Derived.Test.YthjpighlcalocaaGreatDoorTPlay
namespace Go.Proofs.YthjpighlcalocaaGreatDoor
open Go.RowKit Go.Maps
set_option linter.unusedVariables false
set_option linter.unusedSimpArgs false

/-- what a method left that was called later, and then own boxes have turned -/
theorem RetSv.box {w wA w2 w9 : World} {B K K0 : Nat} {f : Rl} {p : Nat → Nat} {s : Sd} {r : Sd × Sr} {e : Ending} (hH : SvIs w B s f p K0) (h : RetSv wA B f K r e w2) (hA : Below w.heap.size w wA) (ho : Only (fun b => w.heap.size ≤ b ∧ b < wA.heap.size) w2 w9) : RetSv w B f K r e w9 := by
  obtain ⟨x, f', p', h1, h2, h3, h4, h5, h6, h7⟩ := h
  obtain ⟨tb, -, htr⟩ := hH.tree
  have hB := hH.lt
  have h0 := hH.tab.2.2.2
  have z1 := hA.size
  have z2 := h5.size
  have hnf : ∀ b, (w.heap.size ≤ b ∧ b < wA.heap.size) → f' b = none := fun b hb => by
    rcases e : f' b with _ | q
    · rfl
    · rcases h6 b (by rw [e]; simp) with g | g
      · have := htr.lt b g; omega
      · omega
  refine ⟨x, f', p', h1, h2, (h3.keep ho (fun k hk hs => by have := (h3.lt k hs).1; omega)).base z1, h4.only ho (fun b hb => ⟨hnf b hb, by omega, by omega⟩), ((only_new hA).trans (T := fun b => f b ≠ none ∨ b = B) h5 (fun b hb => .inl hb)).trans ho (fun b hb => .inr hb.1), fun b hb => ?_, h7⟩
  rcases h6 b hb with g | g
  · exact .inl g
  · exact .inr (by omega)

theorem cs7 {w : World} {b S i : Nat} (h : b ≠ S) (v0 v1 v2 v3 v4 v5 v6 : Value) : (((((((w.setCell ⟨S, 0, none⟩ v0).setCell ⟨S, 1, none⟩ v1).setCell ⟨S, 2, none⟩ v2).setCell ⟨S, 3, none⟩ v3).setCell ⟨S, 4, none⟩ v4).setCell ⟨S, 5, none⟩ v5).setCell ⟨S, 6, none⟩ v6).cell? ⟨b, i, none⟩ = w.cell? ⟨b, i, none⟩ := by
  have k : ∀ (W : World) j v, (W.setCell ⟨S, j, none⟩ v).cell? ⟨b, i, none⟩ = W.cell? ⟨b, i, none⟩ := fun W j v => World.cell?_of_block (Below.heap_setCell _ _ _ _ h)
  rw [k, k, k, k, k, k, k]
theorem ret_value {w w' : World} {B K : Nat} {f : Rl} {r : Sd × Sr} {e : Ending} (h : RetSv w B f K r e w') : ∃ y : Rv, e = .returned (.agg (rvV y)) ∧ Hid (RetSv w B f K r (.returned (.agg (rvV y))) w') := by
  obtain ⟨x, f', p', h1, h2, h3⟩ := h
  exact ⟨x, h2, Lib.hid ⟨x, f', p', h1, rfl, h3⟩⟩
set_option maxHeartbeats 16000000 in
theorem svwork_any (w : World) (B K : Nat) (s : Sd) (f : Rl) (p : Nat → Nat) (h : SvIs w B s f p K) (hK : K < 1000000) (hln : liveN s.T ≤ 1000000) (x : Sq) (D : Option Addr) (m d : Nat) (hD : Ls byS w D x.data) (hm : x.data.length = m) (hcl : 0 < m → Clear (fun k => f k ≠ none) D) (hd : ∀ z ∈ x.data, 0 ≤ z ∧ z ≤ 255) (hk : x.kd = 3 ∨ x.kd = 4) :
    Calls Tryz.prog 61 #[.pointer (some ⟨B, 0, none⟩), .agg (sqV x D m d)] w (RetSv w B f (K + 1) (workS s x)) := by
  obtain ⟨tb, hbx, htr⟩ := h.tree
  have hB := h.lt
  have HH := Lib.hid h
  have HBX := Lib.hid hbx
  obtain ⟨q3, hq3⟩ : ∃ q, q = w.heap.size := ⟨_, rfl⟩
  obtain ⟨q4, hq4⟩ : ∃ q, q = w.heap.size + 1 := ⟨_, rfl⟩
  obtain ⟨w1, hw1⟩ : ∃ w1, w1 = (w.alloc (.cells (sqV x D m d) 46)).alloc (.cells zeroR 39) := ⟨_, rfl⟩
  have HB1 : Hid (Below w.heap.size w w1) := Lib.hid (by rw [hw1]; exact ba2 _ _ _)
  have HX3 : Hid (Bx 46 w1 q3 (sqV x D m d)) := Lib.hid (by rw [hw1, hq3]; exact (bx_new _ _ _).below (ba1 _ _))
  have HX4 : Hid (Bx 39 w1 q4 zeroR) := Lib.hid (by
    rw [hw1, hq4]
    have := bx_new (w.alloc (.cells (sqV x D m d) 46)) 39 zeroR
    simpa using this)
  have HQ : Hid (w.heap.size ≤ q3 ∧ q3 < q4 ∧ q4 < w1.heap.size) := Lib.hid ⟨by omega, by omega, HX4.out.lt⟩
  obtain ⟨r, hr⟩ : ∃ r, r = workS s x := ⟨_, rfl⟩
  obtain ⟨q, hq⟩ : ∃ q, findH s.hs x.han = q := ⟨_, rfl⟩
  have HFD : Hid (∀ n, Calls Tryz.prog 81 #[.pointer (some ⟨B, 1, none⟩), .int .i64 x.han] (World.drewN w1 n) fun e w' => e = .returned (.tuple #[plP B q, .int .i64 (plE q)]) ∧ w' = World.drewN w1 n) := Lib.hid (fun n => (hfind_any _ B tb s.hs ((HBX.out.below HB1.out).below (below_drewN (Below.refl _ _) n)) HH.out.len (fun y hy => by have := (HH.out.hs y hy).1; omega) x.han q hq).mono fun e w' h => ⟨h.1, h.2.symm⟩)
  have HACT : Hid (∀ (path : Byt) wA, Below w1.heap.size w1 wA → Calls Tryz.prog 62 #[.pointer (some ⟨B, 0, none⟩), .string (tx path), .agg (sqV x D m d)] wA (RetSv wA B f (K + 1) (actS s path x))) := Lib.hid (fun path wA hA => svact_any wA B K s f p ((HH.out.new HB1.out).new hA) hK hln path x D m d ((hD.below HB1.out).below hA) hm hcl hd (by omega))
  -- a refusal
  have hno : ∀ (c : Int) (wB w9 : World), r = (s, srE c) → Below w1.heap.size w1 wB → Only (fun b => b = q4) wB w9 → RetSv w B f (K + 1) r (.returned (.agg (rvV (rvP (srE c))))) w9 := fun c wB w9 h1 h2 h3 => by
    have hb : Below w.heap.size w w9 := (bthen HB1.out h2).trans (h3.below (B := w.heap.size) (fun b hb => by have := HQ.out; omega) (by have := HB1.out.size; have := h2.size; omega))
    exact RetSv.plain HH.out (Nat.le_succ K) h1 rfl rfl hb
  have HNO := Lib.hid hno
  have HRW : Hid (r = workS s x) := Lib.hid hr
  rw [← hr]
  have hmm : x.data.length = m := hm
  clear h hbx htr hD hcl hd hr hno
  obtain ⟨⟨kd, mrk, pp, qq, how, han, a, c, data⟩, hxe⟩ : ∃ y, y = x := ⟨_, rfl⟩
  subst hxe
  unfold sqV zeroR at hw1
  unfold sqV at HX3 HACT
  simp only at hw1 HX3 HACT HFD hk hq hmm HRW
  have c0 := HX3.out.cell 0 _ rfl
  have c5 := HX3.out.cell 5 _ rfl
  have c7 := HX3.out.cell 7 _ rfl
  have c8 := HX3.out.cell 8 _ rfl
  have l3 := HX3.out.lt
  have lB : B < w1.heap.size := Nat.lt_of_lt_of_le hB HB1.out.size
  unfold sqV
  simp only
  go_enter Tryz.func61, Tryz.ntmps61
  go_upto_region 1 with fail
  rw [← hw1, ← hq4, ← hq3]
  clear hw1 hq3 hq4
  go_quiet ((go_at_call 81; exact Calls.quiet_of_same (HFD.out _)))
  generalize hwd : World.drewN w1 _ = wd
  have HBd : Hid (Below w1.heap.size w1 wd) := Lib.hid (by rw [← hwd]; exact below_drewN (Below.refl _ _) _)
  have HXd3 := Lib.hid (HX3.out.below HBd.out)
  have HXd4 := Lib.hid (HX4.out.below HBd.out)
  unfold zeroR at HXd4
  clear hwd c0 c5 c7 c8 l3 lB
  -- none, or a place
  rcases q with _ | i
  · have HE : Hid (r = (s, srE 17)) := Lib.hid (by rw [HRW.out]; unfold workS; simp only; rw [hq])
    unfold plP plE
    clear hq
    obtain ⟨l4, ⟨d0, d1, d2, d3, d4, d5, d6⟩, ⟨f0, f1, f2, f3, f4, f5, f6⟩⟩ := HXd4.out.all7
    go_wp2_with fail
    obtain ⟨w9, hw9⟩ : ∃ w9, w9 = put7 wd q4 (.int .i64 0) (.int .i64 17) (.int .i64 0) (.int .i64 0) (.int .i64 0) (.slice none 0 0) (.slice none 0 0) := ⟨_, rfl⟩
    have HX9 : Hid (Bx 39 w9 q4 #[.int .i64 0, .int .i64 17, .int .i64 0, .int .i64 0, .int .i64 0, .slice none 0 0, .slice none 0 0]) := Lib.hid (by rw [hw9]; exact HXd4.out.put7 _ _ _ _ _ _ _)
    have HN9 : Hid (Only (fun b => b = q4) wd w9) := Lib.hid (by rw [hw9]; exact only_put7 _ _ _ _ _ _ _ _ _)
    unfold put7 at hw9
    rw [← hw9]
    clear hw9 d0 d1 d2 d3 d4 d5 d6 f0 f1 f2 f3 f4 f5 f6
    obtain ⟨-, ⟨d0, d1, d2, d3, d4, d5, d6⟩, -⟩ := HX9.out.all7
    refine end_ret (v := .agg (rvV (rvP (srE 17)))) (by unfold rvV rvP srE; simp [results, Tryz.results61, go_sem, d0, d1, d2, d3, d4, d5, d6]; try rfl) ?_
    exact HNO.out 17 wd w9 HE.out HBd.out HN9.out
  · have hi8 := (findH_some hq).1
    have HPL := Lib.hid (HH.out.place i hi8)
    obtain ⟨pl, hpl⟩ : ∃ pl, pl = plAt s.hs i := ⟨_, rfl⟩
    rw [← hpl] at HPL
    obtain ⟨hp0, hp1, hp2, hp3⟩ := HPL.out
    have HRS : Hid (r = if bt (if kd = 4 then 2 else 1) pl.how = false then (s, srE 12) else if (if kd = 4 then decide (data.length ≤ 100) else decide (1 ≤ c ∧ c ≤ 100)) = false then (s, srE 1) else actS s pl.path ⟨kd, mrk, pp, qq, how, han, a, c, data⟩) := Lib.hid (by rw [HRW.out]; unfold workS; simp only; rw [hq]; simp only; rw [← hpl])
    rw [hmm] at HRS
    obtain ⟨b1, b2, -⟩ := bits_bt pl.how hp2 hp3
    have hwh : ∀ W, Below w1.heap.size w1 W → W.cell? ⟨B, 1 + i * 4 + 2, none⟩ = some (.string (tx pl.path)) ∧ W.cell? ⟨B, 1 + i * 4 + 3, none⟩ = some (.int .i64 pl.how) ∧ B < W.heap.size := fun W hW => by
      have hb := (HBX.out.below HB1.out).below hW
      obtain ⟨⟨-, -, g2, g3⟩, -⟩ := sv_all hb i pl hp0
      exact ⟨g2, g3, hb.lt⟩
    have HWH := Lib.hid hwh
    have haft : ∀ wA w2 (y : Rv), Below w1.heap.size w1 wA → RetSv wA B f (K + 1) (actS s pl.path ⟨kd, mrk, pp, qq, how, han, a, c, data⟩) (.returned (.agg (rvV y))) w2 → Bx 39 w2 q4 #[.int .i64 0, .int .i64 0, .int .i64 0, .int .i64 0, .int .i64 0, .slice none 0 0, .slice none 0 0] ∧ (w2.cell? ⟨B, 1 + i * 4 + 2, none⟩ = some (.string (tx pl.path)) ∧ w2.cell? ⟨q3, 0, none⟩ = some (.int .i64 kd) ∧ w2.cell? ⟨q3, 1, none⟩ = some (.int .i64 mrk) ∧ w2.cell? ⟨q3, 2, none⟩ = some (.string (tx pp)) ∧ w2.cell? ⟨q3, 3, none⟩ = some (.string (tx qq)) ∧ w2.cell? ⟨q3, 4, none⟩ = some (.int .i64 how) ∧ w2.cell? ⟨q3, 5, none⟩ = some (.int .i64 han) ∧ w2.cell? ⟨q3, 6, none⟩ = some (.int .i64 a) ∧ w2.cell? ⟨q3, 7, none⟩ = some (.int .i64 c) ∧ w2.cell? ⟨q3, 8, none⟩ = some (.slice D m d)) := fun wA w2 y hA hr => by
      obtain ⟨x', f', p', -, -, -, hs, ho, -, -⟩ := hr
      obtain ⟨tb', -, htr'⟩ := HH.out.tree
      have hq := HQ.out
      have hnq : ∀ b, w.heap.size ≤ b → ¬ (f b ≠ none ∨ b = B) := fun b hb g => by
        rcases g with g | g
        · have := htr'.lt b g; omega
        · omega
      have g3 := (HX3.out.below hA).only ho (hnq q3 (by omega))
      have g4 := (HX4.out.below hA).only ho (hnq q4 (by omega))
      obtain ⟨tb2, hb2, -⟩ := hs.tree
      obtain ⟨⟨-, -, g2, -⟩, -⟩ := sv_all hb2 i pl hp0
      exact ⟨g4, g2, g3.cell 0 _ rfl, g3.cell 1 _ rfl, g3.cell 2 _ rfl, g3.cell 3 _ rfl, g3.cell 4 _ rfl, g3.cell 5 _ rfl, g3.cell 6 _ rfl, g3.cell 7 _ rfl, g3.cell 8 _ rfl⟩
    have HAFT := Lib.hid haft
    clear hq hpl hp0 hp1 hp2 hp3 hwh haft
    unfold plP plE
    have x0 := HXd3.out.cell 0 _ rfl
    have x7 := HXd3.out.cell 7 _ rfl
    have lx := HXd3.out.lt
    have hcc : (1 ≤ c ∧ c ≤ 100) ∨ c < 1 ∨ (1 ≤ c ∧ 100 < c) := by omega
    rcases hk with rfl | rfl
    · have HR3 : Hid (r = if bt 1 pl.how = false then (s, srE 12) else if decide (1 ≤ c ∧ c ≤ 100) = false then (s, srE 1) else actS s pl.path ⟨3, mrk, pp, qq, how, han, a, c, data⟩) := Lib.hid HRS.out
      generalize bt 1 pl.how = t1 at *
      rcases hcc with ⟨hc1, hc2⟩ | hc1 | ⟨hc1, hc2⟩
      · have hfit : decide (1 ≤ c ∧ c ≤ 100) = true := decide_eq_true ⟨hc1, hc2⟩
        go_upto_region 4 with fail
        go_quiet (fail)
        generalize hwd : World.drewN wd _ = we
        have HBwe : Hid (Below w1.heap.size w1 we) := Lib.hid (by rw [← hwd]; exact below_drewN HBd.out _)
        have HX3we := Lib.hid (HX3.out.below HBwe.out)
        have HX4we := Lib.hid (HX4.out.below HBwe.out)
        unfold zeroR at HX4we
        obtain ⟨-, y3, yB⟩ := HWH.out we HBwe.out
        clear hwd
        clear x0 x7 lx
        have x0 := HX3we.out.cell 0 _ rfl
        have lx := HX3we.out.lt
        cases t1
        · simp only [Bool.false_eq_true, if_false] at b1
          have HE : Hid (r = (s, srE 12)) := Lib.hid (by rw [HR3.out, if_pos rfl])
          clear hfit
          obtain ⟨l4, ⟨d0, d1, d2, d3, d4, d5, d6⟩, ⟨f0, f1, f2, f3, f4, f5, f6⟩⟩ := HX4we.out.all7
          go_wp2_with fail
          obtain ⟨w9, hw9⟩ : ∃ w9, w9 = put7 we q4 (.int .i64 0) (.int .i64 12) (.int .i64 0) (.int .i64 0) (.int .i64 0) (.slice none 0 0) (.slice none 0 0) := ⟨_, rfl⟩
          have HX9 : Hid (Bx 39 w9 q4 #[.int .i64 0, .int .i64 12, .int .i64 0, .int .i64 0, .int .i64 0, .slice none 0 0, .slice none 0 0]) := Lib.hid (by rw [hw9]; exact HX4we.out.put7 _ _ _ _ _ _ _)
          have HN9 : Hid (Only (fun b => b = q4) we w9) := Lib.hid (by rw [hw9]; exact only_put7 _ _ _ _ _ _ _ _ _)
          unfold put7 at hw9
          rw [← hw9]
          clear hw9 d0 d1 d2 d3 d4 d5 d6 f0 f1 f2 f3 f4 f5 f6
          obtain ⟨-, ⟨d0, d1, d2, d3, d4, d5, d6⟩, -⟩ := HX9.out.all7
          refine end_ret (v := .agg (rvV (rvP (srE 12)))) (by unfold rvV rvP srE; simp [results, Tryz.results61, go_sem, d0, d1, d2, d3, d4, d5, d6]; try rfl) ?_
          exact HNO.out 12 we w9 HE.out HBwe.out HN9.out
        · simp only [if_true] at b1
          have HE : Hid (r = actS s pl.path ⟨3, mrk, pp, qq, how, han, a, c, data⟩) := Lib.hid (by rw [HR3.out, if_neg (by simp), if_neg (by rw [hfit]; simp)])
          clear hfit
          obtain ⟨u2, -, uB⟩ := HWH.out we HBwe.out
          obtain ⟨u3, v0, v1, v2, v3, v4, v5, v6, v7, v8⟩ : q3 < we.heap.size ∧ we.cell? ⟨q3, 0, none⟩ = some (.int .i64 3) ∧ we.cell? ⟨q3, 1, none⟩ = some (.int .i64 mrk) ∧ we.cell? ⟨q3, 2, none⟩ = some (.string (tx pp)) ∧ we.cell? ⟨q3, 3, none⟩ = some (.string (tx qq)) ∧ we.cell? ⟨q3, 4, none⟩ = some (.int .i64 how) ∧ we.cell? ⟨q3, 5, none⟩ = some (.int .i64 han) ∧ we.cell? ⟨q3, 6, none⟩ = some (.int .i64 a) ∧ we.cell? ⟨q3, 7, none⟩ = some (.int .i64 c) ∧ we.cell? ⟨q3, 8, none⟩ = some (.slice D m d) :=
            ⟨HX3we.out.lt, HX3we.out.cell 0 _ rfl, HX3we.out.cell 1 _ rfl, HX3we.out.cell 2 _ rfl, HX3we.out.cell 3 _ rfl, HX3we.out.cell 4 _ rfl, HX3we.out.cell 5 _ rfl, HX3we.out.cell 6 _ rfl, HX3we.out.cell 7 _ rfl, HX3we.out.cell 8 _ rfl⟩
          have w0 := cell_drew1 u2
          have e0 := cell_drew1 v0
          have e1 := cell_drew1 v1
          have e2 := cell_drew1 v2
          have e3 := cell_drew1 v3
          have e4 := cell_drew1 v4
          have e5 := cell_drew1 v5
          have e6 := cell_drew1 v6
          have e7 := cell_drew1 v7
          have e8 := cell_drew1 v8
          go_upto_region 11 with fail
          have HAC := Lib.hid (HACT.out pl.path we.drew (HBwe.out.trans ((Below.refl _ _).drew.mono HBwe.out.size)))
          have hq4d : q4 ≠ B ∧ q3 ≠ q4 ∧ q3 ≠ B := by have := HQ.out; exact ⟨by omega, by omega, by omega⟩
          go_region_held3 (fun W => W.cell? ⟨B, 1 + i * 4 + 2, none⟩ = some (.string (tx pl.path)) ∧ W.cell? ⟨q3, 0, none⟩ = some (.int .i64 3) ∧ W.cell? ⟨q3, 1, none⟩ = some (.int .i64 mrk) ∧ W.cell? ⟨q3, 2, none⟩ = some (.string (tx pp)) ∧ W.cell? ⟨q3, 3, none⟩ = some (.string (tx qq)) ∧ W.cell? ⟨q3, 4, none⟩ = some (.int .i64 how) ∧ W.cell? ⟨q3, 5, none⟩ = some (.int .i64 han) ∧ W.cell? ⟨q3, 6, none⟩ = some (.int .i64 a) ∧ W.cell? ⟨q3, 7, none⟩ = some (.int .i64 c) ∧ W.cell? ⟨q3, 8, none⟩ = some (.slice D m d)) (first | (with_reducible exact ⟨m0, n0, n1, n2, n3, n4, n5, n6, n7, n8⟩) | (with_reducible exact ⟨w0, e0, e1, e2, e3, e4, e5, e6, e7, e8⟩) | (with_reducible exact ⟨(cs7 hq4d.1.symm _ _ _ _ _ _ _).trans m0, (cs7 hq4d.2.1 _ _ _ _ _ _ _).trans n0, (cs7 hq4d.2.1 _ _ _ _ _ _ _).trans n1, (cs7 hq4d.2.1 _ _ _ _ _ _ _).trans n2, (cs7 hq4d.2.1 _ _ _ _ _ _ _).trans n3, (cs7 hq4d.2.1 _ _ _ _ _ _ _).trans n4, (cs7 hq4d.2.1 _ _ _ _ _ _ _).trans n5, (cs7 hq4d.2.1 _ _ _ _ _ _ _).trans n6, (cs7 hq4d.2.1 _ _ _ _ _ _ _).trans n7, (cs7 hq4d.2.1 _ _ _ _ _ _ _).trans n8⟩) | go_keep) (first
            | (go_at_call 62; (with_reducible refine HAC.out.mono ?_); intro e w2 hret; obtain ⟨y, rfl, HY2⟩ := ret_value hret; obtain ⟨hz4, hkeep⟩ := HAFT.out we.drew w2 y (HBwe.out.trans ((Below.refl _ _).drew.mono HBwe.out.size)) HY2.out; obtain ⟨l4, ⟨d0, d1, d2, d3, d4, d5, d6⟩, ⟨f0, f1, f2, f3, f4, f5, f6⟩⟩ := hz4.all7; have HZ4 := Lib.hid hz4; obtain ⟨m0, n0, n1, n2, n3, n4, n5, n6, n7, n8⟩ := hkeep; unfold rvV; clear hret hz4))
          obtain ⟨w9, hw9⟩ : ∃ w9, w9 = put7 w2 q4 (.int .i64 y.r.mrk) (.int .i64 y.r.code) (.int .i64 y.r.han) (.int .i64 y.r.kd) (.int .i64 y.r.sz) (.slice y.A y.n y.c) (.slice y.N y.m y.d) := ⟨_, rfl⟩
          have HX9 : Hid (Bx 39 w9 q4 #[.int .i64 y.r.mrk, .int .i64 y.r.code, .int .i64 y.r.han, .int .i64 y.r.kd, .int .i64 y.r.sz, .slice y.A y.n y.c, .slice y.N y.m y.d]) := Lib.hid (by rw [hw9]; exact HZ4.out.put7 _ _ _ _ _ _ _)
          have HN9 : Hid (Only (fun b => b = q4) w2 w9) := Lib.hid (by rw [hw9]; exact only_put7 _ _ _ _ _ _ _ _ _)
          unfold put7 at hw9
          rw [← hw9]
          clear hw9 d0 d1 d2 d3 d4 d5 d6 f0 f1 f2 f3 f4 f5 f6 m0 n0 n1 n2 n3 n4 n5 n6 n7 n8 w0 e0 e1 e2 e3 e4 e5 e6 e7 e8 u2 v0 v1 v2 v3 v4 v5 v6 v7 v8
          go_wp2_with fail
          obtain ⟨-, ⟨d0, d1, d2, d3, d4, d5, d6⟩, -⟩ := HX9.out.all7
          refine end_ret (v := .agg (rvV y)) (by unfold rvV; simp [results, Tryz.results61, go_sem, d0, d1, d2, d3, d4, d5, d6]; try rfl) ?_
          rw [HE.out]
          have hz := HB1.out.size
          have hz2 := HBwe.out.size
          refine RetSv.box HH.out HY2.out (bthen HB1.out (HBwe.out.trans ((Below.refl _ _).drew.mono HBwe.out.size))) (HN9.out.mono (fun b hb => ?_))
          have := HQ.out
          rw [hb]
          exact ⟨by omega, by show q4 < we.heap.size; omega⟩
      · have hfit : decide (1 ≤ c ∧ c ≤ 100) = false := decide_eq_false (by omega)
        have hc2 : ¬ 1 ≤ c := by omega
        have hc4 : decide (1 ≤ c) = false := decide_eq_false (by omega)
        go_upto_region 4 with fail
        go_quiet (fail)
        generalize hwd : World.drewN wd _ = we
        have HBwe : Hid (Below w1.heap.size w1 we) := Lib.hid (by rw [← hwd]; exact below_drewN HBd.out _)
        have HX3we := Lib.hid (HX3.out.below HBwe.out)
        have HX4we := Lib.hid (HX4.out.below HBwe.out)
        unfold zeroR at HX4we
        obtain ⟨-, y3, yB⟩ := HWH.out we HBwe.out
        clear hwd
        clear x0 x7 lx
        have x0 := HX3we.out.cell 0 _ rfl
        have lx := HX3we.out.lt
        cases t1
        · simp only [Bool.false_eq_true, if_false] at b1
          have HE : Hid (r = (s, srE 12)) := Lib.hid (by rw [HR3.out, if_pos rfl])
          clear hfit
          obtain ⟨l4, ⟨d0, d1, d2, d3, d4, d5, d6⟩, ⟨f0, f1, f2, f3, f4, f5, f6⟩⟩ := HX4we.out.all7
          go_wp2_with fail
          obtain ⟨w9, hw9⟩ : ∃ w9, w9 = put7 we q4 (.int .i64 0) (.int .i64 12) (.int .i64 0) (.int .i64 0) (.int .i64 0) (.slice none 0 0) (.slice none 0 0) := ⟨_, rfl⟩
          have HX9 : Hid (Bx 39 w9 q4 #[.int .i64 0, .int .i64 12, .int .i64 0, .int .i64 0, .int .i64 0, .slice none 0 0, .slice none 0 0]) := Lib.hid (by rw [hw9]; exact HX4we.out.put7 _ _ _ _ _ _ _)
          have HN9 : Hid (Only (fun b => b = q4) we w9) := Lib.hid (by rw [hw9]; exact only_put7 _ _ _ _ _ _ _ _ _)
          unfold put7 at hw9
          rw [← hw9]
          clear hw9 d0 d1 d2 d3 d4 d5 d6 f0 f1 f2 f3 f4 f5 f6
          obtain ⟨-, ⟨d0, d1, d2, d3, d4, d5, d6⟩, -⟩ := HX9.out.all7
          refine end_ret (v := .agg (rvV (rvP (srE 12)))) (by unfold rvV rvP srE; simp [results, Tryz.results61, go_sem, d0, d1, d2, d3, d4, d5, d6]; try rfl) ?_
          exact HNO.out 12 we w9 HE.out HBwe.out HN9.out
        · simp only [if_true] at b1
          have HE : Hid (r = (s, srE 1)) := Lib.hid (by rw [HR3.out, if_neg (by simp), if_pos hfit])
          clear hfit
          obtain ⟨l4, ⟨d0, d1, d2, d3, d4, d5, d6⟩, ⟨f0, f1, f2, f3, f4, f5, f6⟩⟩ := HX4we.out.all7
          go_wp2_with fail
          obtain ⟨w9, hw9⟩ : ∃ w9, w9 = put7 we q4 (.int .i64 0) (.int .i64 1) (.int .i64 0) (.int .i64 0) (.int .i64 0) (.slice none 0 0) (.slice none 0 0) := ⟨_, rfl⟩
          have HX9 : Hid (Bx 39 w9 q4 #[.int .i64 0, .int .i64 1, .int .i64 0, .int .i64 0, .int .i64 0, .slice none 0 0, .slice none 0 0]) := Lib.hid (by rw [hw9]; exact HX4we.out.put7 _ _ _ _ _ _ _)
          have HN9 : Hid (Only (fun b => b = q4) we w9) := Lib.hid (by rw [hw9]; exact only_put7 _ _ _ _ _ _ _ _ _)
          unfold put7 at hw9
          rw [← hw9]
          clear hw9 d0 d1 d2 d3 d4 d5 d6 f0 f1 f2 f3 f4 f5 f6
          obtain ⟨-, ⟨d0, d1, d2, d3, d4, d5, d6⟩, -⟩ := HX9.out.all7
          refine end_ret (v := .agg (rvV (rvP (srE 1)))) (by unfold rvV rvP srE; simp [results, Tryz.results61, go_sem, d0, d1, d2, d3, d4, d5, d6]; try rfl) ?_
          exact HNO.out 1 we w9 HE.out HBwe.out HN9.out
      · have hfit : decide (1 ≤ c ∧ c ≤ 100) = false := decide_eq_false (by omega)
        have hc3 : ¬ c ≤ 100 := by omega
        have hc4 : decide (c ≤ 100) = false := decide_eq_false (by omega)
        go_upto_region 4 with fail
        go_quiet (fail)
        generalize hwd : World.drewN wd _ = we
        have HBwe : Hid (Below w1.heap.size w1 we) := Lib.hid (by rw [← hwd]; exact below_drewN HBd.out _)
        have HX3we := Lib.hid (HX3.out.below HBwe.out)
        have HX4we := Lib.hid (HX4.out.below HBwe.out)
        unfold zeroR at HX4we
        obtain ⟨-, y3, yB⟩ := HWH.out we HBwe.out
        clear hwd
        clear x0 x7 lx
        have x0 := HX3we.out.cell 0 _ rfl
        have lx := HX3we.out.lt
        cases t1
        · simp only [Bool.false_eq_true, if_false] at b1
          have HE : Hid (r = (s, srE 12)) := Lib.hid (by rw [HR3.out, if_pos rfl])
          clear hfit
          obtain ⟨l4, ⟨d0, d1, d2, d3, d4, d5, d6⟩, ⟨f0, f1, f2, f3, f4, f5, f6⟩⟩ := HX4we.out.all7
          go_wp2_with fail
          obtain ⟨w9, hw9⟩ : ∃ w9, w9 = put7 we q4 (.int .i64 0) (.int .i64 12) (.int .i64 0) (.int .i64 0) (.int .i64 0) (.slice none 0 0) (.slice none 0 0) := ⟨_, rfl⟩
          have HX9 : Hid (Bx 39 w9 q4 #[.int .i64 0, .int .i64 12, .int .i64 0, .int .i64 0, .int .i64 0, .slice none 0 0, .slice none 0 0]) := Lib.hid (by rw [hw9]; exact HX4we.out.put7 _ _ _ _ _ _ _)
          have HN9 : Hid (Only (fun b => b = q4) we w9) := Lib.hid (by rw [hw9]; exact only_put7 _ _ _ _ _ _ _ _ _)
          unfold put7 at hw9
          rw [← hw9]
          clear hw9 d0 d1 d2 d3 d4 d5 d6 f0 f1 f2 f3 f4 f5 f6
          obtain ⟨-, ⟨d0, d1, d2, d3, d4, d5, d6⟩, -⟩ := HX9.out.all7
          refine end_ret (v := .agg (rvV (rvP (srE 12)))) (by unfold rvV rvP srE; simp [results, Tryz.results61, go_sem, d0, d1, d2, d3, d4, d5, d6]; try rfl) ?_
          exact HNO.out 12 we w9 HE.out HBwe.out HN9.out
        · simp only [if_true] at b1
          have HE : Hid (r = (s, srE 1)) := Lib.hid (by rw [HR3.out, if_neg (by simp), if_pos hfit])
          clear hfit
          obtain ⟨l4, ⟨d0, d1, d2, d3, d4, d5, d6⟩, ⟨f0, f1, f2, f3, f4, f5, f6⟩⟩ := HX4we.out.all7
          go_wp2_with fail
          obtain ⟨w9, hw9⟩ : ∃ w9, w9 = put7 we q4 (.int .i64 0) (.int .i64 1) (.int .i64 0) (.int .i64 0) (.int .i64 0) (.slice none 0 0) (.slice none 0 0) := ⟨_, rfl⟩
          have HX9 : Hid (Bx 39 w9 q4 #[.int .i64 0, .int .i64 1, .int .i64 0, .int .i64 0, .int .i64 0, .slice none 0 0, .slice none 0 0]) := Lib.hid (by rw [hw9]; exact HX4we.out.put7 _ _ _ _ _ _ _)
          have HN9 : Hid (Only (fun b => b = q4) we w9) := Lib.hid (by rw [hw9]; exact only_put7 _ _ _ _ _ _ _ _ _)
          unfold put7 at hw9
          rw [← hw9]
          clear hw9 d0 d1 d2 d3 d4 d5 d6 f0 f1 f2 f3 f4 f5 f6
          obtain ⟨-, ⟨d0, d1, d2, d3, d4, d5, d6⟩, -⟩ := HX9.out.all7
          refine end_ret (v := .agg (rvV (rvP (srE 1)))) (by unfold rvV rvP srE; simp [results, Tryz.results61, go_sem, d0, d1, d2, d3, d4, d5, d6]; try rfl) ?_
          exact HNO.out 1 we w9 HE.out HBwe.out HN9.out
    · have HR4 : Hid (r = if bt 2 pl.how = false then (s, srE 12) else if decide (m ≤ 100) = false then (s, srE 1) else actS s pl.path ⟨4, mrk, pp, qq, how, han, a, c, data⟩) := Lib.hid HRS.out
      generalize bt 2 pl.how = t2 at *
      go_upto_region 4 with fail
      go_cut [7, 8] (fun o8 o9 wc => o8 = .int .i64 1 ∧ ∃ n, wc = World.drewN wd n)
      case first =>
        rcases hcc with ⟨hc1, hc2⟩ | hc1 | ⟨hc1, hc2⟩
        · go_quiet (fail)
          go_wp2_with fail
          go_meet
          exact ⟨rfl, _, rfl⟩
        · have hc4 : decide (1 ≤ c) = false := decide_eq_false (by omega)
          have hc2 : ¬ 1 ≤ c := by omega
          go_quiet (fail)
          go_wp2_with fail
          go_meet
          exact ⟨rfl, _, rfl⟩
        · have hc4 : decide (c ≤ 100) = false := decide_eq_false (by omega)
          have hc3 : ¬ c ≤ 100 := by omega
          go_quiet (fail)
          go_wp2_with fail
          go_meet
          exact ⟨rfl, _, rfl⟩
      case rest =>
        obtain ⟨rfl, n0, rfl⟩ := hcut
        obtain ⟨we, hwe⟩ : ∃ we, we = World.drewN wd n0 := ⟨_, rfl⟩
        rw [← hwe]
        have HBwe : Hid (Below w1.heap.size w1 we) := Lib.hid (by rw [hwe]; exact below_drewN HBd.out _)
        have HX3we := Lib.hid (HX3.out.below HBwe.out)
        clear hwe x0 x7 lx
        have x0 := HX3we.out.cell 0 _ rfl
        have x8 := HX3we.out.cell 8 _ rfl
        have lx := HX3we.out.lt
        go_upto_region 6 with fail
        by_cases hm100 : m ≤ 100
        · have hmi : (m : Int) ≤ 100 := by omega
          have hmd : decide ((m : Int) ≤ 100) = true := decide_eq_true hmi
          go_quiet (fail)
          generalize hwd : World.drewN we _ = wg
          have HBwg : Hid (Below w1.heap.size w1 wg) := Lib.hid (by rw [← hwd]; exact below_drewN HBwe.out _)
          have HX3wg := Lib.hid (HX3.out.below HBwg.out)
          have HX4wg := Lib.hid (HX4.out.below HBwg.out)
          unfold zeroR at HX4wg
          obtain ⟨-, y3, yB⟩ := HWH.out wg HBwg.out
          clear hwd
          clear x0 x8 lx
          have x0 := HX3wg.out.cell 0 _ rfl
          have lx := HX3wg.out.lt
          cases t2
          · simp only [Bool.false_eq_true, if_false] at b2
            have HE : Hid (r = (s, srE 12)) := Lib.hid (by rw [HR4.out, if_pos rfl])
            clear hmd
            obtain ⟨l4, ⟨d0, d1, d2, d3, d4, d5, d6⟩, ⟨f0, f1, f2, f3, f4, f5, f6⟩⟩ := HX4wg.out.all7
            go_wp2_with fail
            obtain ⟨w9, hw9⟩ : ∃ w9, w9 = put7 wg q4 (.int .i64 0) (.int .i64 12) (.int .i64 0) (.int .i64 0) (.int .i64 0) (.slice none 0 0) (.slice none 0 0) := ⟨_, rfl⟩
            have HX9 : Hid (Bx 39 w9 q4 #[.int .i64 0, .int .i64 12, .int .i64 0, .int .i64 0, .int .i64 0, .slice none 0 0, .slice none 0 0]) := Lib.hid (by rw [hw9]; exact HX4wg.out.put7 _ _ _ _ _ _ _)
            have HN9 : Hid (Only (fun b => b = q4) wg w9) := Lib.hid (by rw [hw9]; exact only_put7 _ _ _ _ _ _ _ _ _)
            unfold put7 at hw9
            rw [← hw9]
            clear hw9 d0 d1 d2 d3 d4 d5 d6 f0 f1 f2 f3 f4 f5 f6
            obtain ⟨-, ⟨d0, d1, d2, d3, d4, d5, d6⟩, -⟩ := HX9.out.all7
            refine end_ret (v := .agg (rvV (rvP (srE 12)))) (by unfold rvV rvP srE; simp [results, Tryz.results61, go_sem, d0, d1, d2, d3, d4, d5, d6]; try rfl) ?_
            exact HNO.out 12 wg w9 HE.out HBwg.out HN9.out
          · simp only [if_true] at b2
            have HE : Hid (r = actS s pl.path ⟨4, mrk, pp, qq, how, han, a, c, data⟩) := Lib.hid (by rw [HR4.out, if_neg (by simp), if_neg (by simp [hm100])])
            clear hmd
            obtain ⟨u2, -, uB⟩ := HWH.out wg HBwg.out
            obtain ⟨u3, v0, v1, v2, v3, v4, v5, v6, v7, v8⟩ : q3 < wg.heap.size ∧ wg.cell? ⟨q3, 0, none⟩ = some (.int .i64 4) ∧ wg.cell? ⟨q3, 1, none⟩ = some (.int .i64 mrk) ∧ wg.cell? ⟨q3, 2, none⟩ = some (.string (tx pp)) ∧ wg.cell? ⟨q3, 3, none⟩ = some (.string (tx qq)) ∧ wg.cell? ⟨q3, 4, none⟩ = some (.int .i64 how) ∧ wg.cell? ⟨q3, 5, none⟩ = some (.int .i64 han) ∧ wg.cell? ⟨q3, 6, none⟩ = some (.int .i64 a) ∧ wg.cell? ⟨q3, 7, none⟩ = some (.int .i64 c) ∧ wg.cell? ⟨q3, 8, none⟩ = some (.slice D m d) :=
              ⟨HX3wg.out.lt, HX3wg.out.cell 0 _ rfl, HX3wg.out.cell 1 _ rfl, HX3wg.out.cell 2 _ rfl, HX3wg.out.cell 3 _ rfl, HX3wg.out.cell 4 _ rfl, HX3wg.out.cell 5 _ rfl, HX3wg.out.cell 6 _ rfl, HX3wg.out.cell 7 _ rfl, HX3wg.out.cell 8 _ rfl⟩
            have w0 := cell_drew1 u2
            have e0 := cell_drew1 v0
            have e1 := cell_drew1 v1
            have e2 := cell_drew1 v2
            have e3 := cell_drew1 v3
            have e4 := cell_drew1 v4
            have e5 := cell_drew1 v5
            have e6 := cell_drew1 v6
            have e7 := cell_drew1 v7
            have e8 := cell_drew1 v8
            go_upto_region 11 with fail
            have HAC := Lib.hid (HACT.out pl.path wg.drew (HBwg.out.trans ((Below.refl _ _).drew.mono HBwg.out.size)))
            have hq4d : q4 ≠ B ∧ q3 ≠ q4 ∧ q3 ≠ B := by have := HQ.out; exact ⟨by omega, by omega, by omega⟩
            go_region_held3 (fun W => W.cell? ⟨B, 1 + i * 4 + 2, none⟩ = some (.string (tx pl.path)) ∧ W.cell? ⟨q3, 0, none⟩ = some (.int .i64 4) ∧ W.cell? ⟨q3, 1, none⟩ = some (.int .i64 mrk) ∧ W.cell? ⟨q3, 2, none⟩ = some (.string (tx pp)) ∧ W.cell? ⟨q3, 3, none⟩ = some (.string (tx qq)) ∧ W.cell? ⟨q3, 4, none⟩ = some (.int .i64 how) ∧ W.cell? ⟨q3, 5, none⟩ = some (.int .i64 han) ∧ W.cell? ⟨q3, 6, none⟩ = some (.int .i64 a) ∧ W.cell? ⟨q3, 7, none⟩ = some (.int .i64 c) ∧ W.cell? ⟨q3, 8, none⟩ = some (.slice D m d)) (first | (with_reducible exact ⟨m0, n0, n1, n2, n3, n4, n5, n6, n7, n8⟩) | (with_reducible exact ⟨w0, e0, e1, e2, e3, e4, e5, e6, e7, e8⟩) | (with_reducible exact ⟨(cs7 hq4d.1.symm _ _ _ _ _ _ _).trans m0, (cs7 hq4d.2.1 _ _ _ _ _ _ _).trans n0, (cs7 hq4d.2.1 _ _ _ _ _ _ _).trans n1, (cs7 hq4d.2.1 _ _ _ _ _ _ _).trans n2, (cs7 hq4d.2.1 _ _ _ _ _ _ _).trans n3, (cs7 hq4d.2.1 _ _ _ _ _ _ _).trans n4, (cs7 hq4d.2.1 _ _ _ _ _ _ _).trans n5, (cs7 hq4d.2.1 _ _ _ _ _ _ _).trans n6, (cs7 hq4d.2.1 _ _ _ _ _ _ _).trans n7, (cs7 hq4d.2.1 _ _ _ _ _ _ _).trans n8⟩) | go_keep) (first
              | (go_at_call 62; (with_reducible refine HAC.out.mono ?_); intro e w2 hret; obtain ⟨y, rfl, HY2⟩ := ret_value hret; obtain ⟨hz4, hkeep⟩ := HAFT.out wg.drew w2 y (HBwg.out.trans ((Below.refl _ _).drew.mono HBwg.out.size)) HY2.out; obtain ⟨l4, ⟨d0, d1, d2, d3, d4, d5, d6⟩, ⟨f0, f1, f2, f3, f4, f5, f6⟩⟩ := hz4.all7; have HZ4 := Lib.hid hz4; obtain ⟨m0, n0, n1, n2, n3, n4, n5, n6, n7, n8⟩ := hkeep; unfold rvV; clear hret hz4))
            obtain ⟨w9, hw9⟩ : ∃ w9, w9 = put7 w2 q4 (.int .i64 y.r.mrk) (.int .i64 y.r.code) (.int .i64 y.r.han) (.int .i64 y.r.kd) (.int .i64 y.r.sz) (.slice y.A y.n y.c) (.slice y.N y.m y.d) := ⟨_, rfl⟩
            have HX9 : Hid (Bx 39 w9 q4 #[.int .i64 y.r.mrk, .int .i64 y.r.code, .int .i64 y.r.han, .int .i64 y.r.kd, .int .i64 y.r.sz, .slice y.A y.n y.c, .slice y.N y.m y.d]) := Lib.hid (by rw [hw9]; exact HZ4.out.put7 _ _ _ _ _ _ _)
            have HN9 : Hid (Only (fun b => b = q4) w2 w9) := Lib.hid (by rw [hw9]; exact only_put7 _ _ _ _ _ _ _ _ _)
            unfold put7 at hw9
            rw [← hw9]
            clear hw9 d0 d1 d2 d3 d4 d5 d6 f0 f1 f2 f3 f4 f5 f6 m0 n0 n1 n2 n3 n4 n5 n6 n7 n8 w0 e0 e1 e2 e3 e4 e5 e6 e7 e8 u2 v0 v1 v2 v3 v4 v5 v6 v7 v8
            go_wp2_with fail
            obtain ⟨-, ⟨d0, d1, d2, d3, d4, d5, d6⟩, -⟩ := HX9.out.all7
            refine end_ret (v := .agg (rvV y)) (by unfold rvV; simp [results, Tryz.results61, go_sem, d0, d1, d2, d3, d4, d5, d6]; try rfl) ?_
            rw [HE.out]
            have hz := HB1.out.size
            have hz2 := HBwg.out.size
            refine RetSv.box HH.out HY2.out (bthen HB1.out (HBwg.out.trans ((Below.refl _ _).drew.mono HBwg.out.size))) (HN9.out.mono (fun b hb => ?_))
            have := HQ.out
            rw [hb]
            exact ⟨by omega, by show q4 < wg.heap.size; omega⟩
        · have hmi : ¬ (m : Int) ≤ 100 := by omega
          have hmd : decide ((m : Int) ≤ 100) = false := decide_eq_false hmi
          go_quiet (fail)
          generalize hwd : World.drewN we _ = wg
          have HBwg : Hid (Below w1.heap.size w1 wg) := Lib.hid (by rw [← hwd]; exact below_drewN HBwe.out _)
          have HX3wg := Lib.hid (HX3.out.below HBwg.out)
          have HX4wg := Lib.hid (HX4.out.below HBwg.out)
          unfold zeroR at HX4wg
          obtain ⟨-, y3, yB⟩ := HWH.out wg HBwg.out
          clear hwd
          clear x0 x8 lx
          have x0 := HX3wg.out.cell 0 _ rfl
          have lx := HX3wg.out.lt
          cases t2
          · simp only [Bool.false_eq_true, if_false] at b2
            have HE : Hid (r = (s, srE 12)) := Lib.hid (by rw [HR4.out, if_pos rfl])
            clear hmd
            obtain ⟨l4, ⟨d0, d1, d2, d3, d4, d5, d6⟩, ⟨f0, f1, f2, f3, f4, f5, f6⟩⟩ := HX4wg.out.all7
            go_wp2_with fail
            obtain ⟨w9, hw9⟩ : ∃ w9, w9 = put7 wg q4 (.int .i64 0) (.int .i64 12) (.int .i64 0) (.int .i64 0) (.int .i64 0) (.slice none 0 0) (.slice none 0 0) := ⟨_, rfl⟩
            have HX9 : Hid (Bx 39 w9 q4 #[.int .i64 0, .int .i64 12, .int .i64 0, .int .i64 0, .int .i64 0, .slice none 0 0, .slice none 0 0]) := Lib.hid (by rw [hw9]; exact HX4wg.out.put7 _ _ _ _ _ _ _)
            have HN9 : Hid (Only (fun b => b = q4) wg w9) := Lib.hid (by rw [hw9]; exact only_put7 _ _ _ _ _ _ _ _ _)
            unfold put7 at hw9
            rw [← hw9]
            clear hw9 d0 d1 d2 d3 d4 d5 d6 f0 f1 f2 f3 f4 f5 f6
            obtain ⟨-, ⟨d0, d1, d2, d3, d4, d5, d6⟩, -⟩ := HX9.out.all7
            refine end_ret (v := .agg (rvV (rvP (srE 12)))) (by unfold rvV rvP srE; simp [results, Tryz.results61, go_sem, d0, d1, d2, d3, d4, d5, d6]; try rfl) ?_
            exact HNO.out 12 wg w9 HE.out HBwg.out HN9.out
          · simp only [if_true] at b2
            have HE : Hid (r = (s, srE 1)) := Lib.hid (by rw [HR4.out, if_neg (by simp), if_pos (by simp [hm100])])
            clear hmd
            obtain ⟨l4, ⟨d0, d1, d2, d3, d4, d5, d6⟩, ⟨f0, f1, f2, f3, f4, f5, f6⟩⟩ := HX4wg.out.all7
            go_wp2_with fail
            obtain ⟨w9, hw9⟩ : ∃ w9, w9 = put7 wg q4 (.int .i64 0) (.int .i64 1) (.int .i64 0) (.int .i64 0) (.int .i64 0) (.slice none 0 0) (.slice none 0 0) := ⟨_, rfl⟩
            have HX9 : Hid (Bx 39 w9 q4 #[.int .i64 0, .int .i64 1, .int .i64 0, .int .i64 0, .int .i64 0, .slice none 0 0, .slice none 0 0]) := Lib.hid (by rw [hw9]; exact HX4wg.out.put7 _ _ _ _ _ _ _)
            have HN9 : Hid (Only (fun b => b = q4) wg w9) := Lib.hid (by rw [hw9]; exact only_put7 _ _ _ _ _ _ _ _ _)
            unfold put7 at hw9
            rw [← hw9]
            clear hw9 d0 d1 d2 d3 d4 d5 d6 f0 f1 f2 f3 f4 f5 f6
            obtain ⟨-, ⟨d0, d1, d2, d3, d4, d5, d6⟩, -⟩ := HX9.out.all7
            refine end_ret (v := .agg (rvV (rvP (srE 1)))) (by unfold rvV rvP srE; simp [results, Tryz.results61, go_sem, d0, d1, d2, d3, d4, d5, d6]; try rfl) ?_
            exact HNO.out 1 wg w9 HE.out HBwg.out HN9.out

end Go.Proofs.YthjpighlcalocaaGreatDoor

namespace Go.Proofs.YthjpighlcalocaaGreatDoor
open Go.RowKit Go.Maps
set_option linter.unusedVariables false
set_option linter.unusedSimpArgs false

theorem RetSv.mono {w w' : World} {B K K' : Nat} {f : Rl} {r : Sd × Sr} {e : Ending} (h : RetSv w B f K r e w') (hK : K ≤ K') : RetSv w B f K' r e w' := by
  obtain ⟨x, f', p', h1, h2, h3, h4, h5⟩ := h
  exact ⟨x, f', p', h1, h2, h3, h4.mono hK, h5⟩
/-- a box of the caller's stays -/
theorem RetSv.own {w wA w2 : World} {B K K0 q : Nat} {f : Rl} {p : Nat → Nat} {s : Sd} {r : Sd × Sr} {e : Ending} {t : TypeId} {cs : Array Value} (hH : SvIs w B s f p K0) (h : RetSv wA B f K r e w2) (hq : w.heap.size ≤ q) (hb : Bx t wA q cs) : Bx t w2 q cs := by
  obtain ⟨x, f', p', -, -, -, -, ho, -, -⟩ := h
  obtain ⟨tb, -, htr⟩ := hH.tree
  have hB := hH.lt
  refine hb.only ho (fun g => ?_)
  rcases g with g | g
  · have := htr.lt q g; omega
  · omega
theorem RetOp.sv {w w' : World} {B K : Nat} {f : Rl} {r : Sd × (Int × Int)} {e : Ending} (h : RetOp w B f K r e w') : RetSv w B f K (r.1, ⟨0, r.2.2, r.2.1, 0, 0, [], []⟩) (.returned (.agg (rvV (rvP ⟨0, r.2.2, r.2.1, 0, 0, [], []⟩)))) w' := by
  obtain ⟨-, f', p', h1, h2, h3⟩ := h
  exact ⟨rvP _, f', p', rfl, rfl, rvOwn_p _ _ _ rfl rfl, h1, h2, h3, fun b _ => rvB_p _ b⟩
theorem svshut_any (w : World) (B K : Nat) (s : Sd) (f : Rl) (p : Nat → Nat) (h : SvIs w B s f p K) (hK : K < 1000000) (n : Int) :
    Calls Tryz.prog 60 #[.pointer (some ⟨B, 1, none⟩), .int .i64 n] w fun e w' => e = .returned (.int .i64 (shutH s.hs n).2) ∧ RetSv w B f (K + 1) (⟨s.T, (shutH s.hs n).1⟩, srE (shutH s.hs n).2) (.returned (.agg (rvV (rvP (srE (shutH s.hs n).2))))) w' := by
  obtain ⟨tb, hbx, htr⟩ := h.tree
  refine (hshut_any w B tb s.hs hbx h.len (fun x hx => by have := (h.hs x hx).1; omega) n _ rfl).mono ?_
  rintro e w' ⟨rfl, hb, ho⟩
  have o2 : Only (fun b => f b ≠ none ∨ b = B) w w' := ho.mono (fun b hb => .inr hb)
  refine ⟨rfl, rvP _, f, p, rfl, rfl, rvOwn_p _ _ _ rfl rfl, h.mk2 o2 (fun b hb => .inl hb) hb ((htr.only ho (fun b hb => by rw [hb]; exact h.off)).mono (Nat.le_succ K)) ?_ ?_, o2, fun b hb => .inl hb, fun b _ => rvB_p _ b⟩
  · unfold shutH
    split
    · exact h.len
    · simp [h.len]
  · intro x hx
    unfold shutH at hx
    split at hx
    · have := h.hs x hx; exact ⟨by omega, this.2⟩
    · rename_i i hi
      rcases List.mem_or_eq_of_mem_set hx with hx | rfl
      · have := h.hs x hx; exact ⟨by omega, this.2⟩
      · have := (h.place i (findH_some hi).1).2.1
        exact ⟨by simp only; omega, by simp⟩

set_option maxHeartbeats 16000000 in
theorem svserve_any (w : World) (B K : Nat) (s : Sd) (f : Rl) (p : Nat → Nat) (h : SvIs w B s f p K) (hK : K + 1 < 1000000) (hln : liveN s.T ≤ 1000000) (x : Sq) (D : Option Addr) (m d : Nat) (hD : Ls byS w D x.data) (hm : x.data.length = m) (hcl : 0 < m → Clear (fun k => f k ≠ none) D) (hd : ∀ z ∈ x.data, 0 ≤ z ∧ z ≤ 255) :
    Calls Tryz.prog 46 #[.pointer (some ⟨B, 0, none⟩), .agg (sqV x D m d)] w (RetSv w B f (K + 2) (serveS s x)) := by
  have hB := h.lt
  have HH := Lib.hid h
  obtain ⟨q3, hq3⟩ : ∃ q, q = w.heap.size := ⟨_, rfl⟩
  obtain ⟨q4, hq4⟩ : ∃ q, q = w.heap.size + 1 := ⟨_, rfl⟩
  obtain ⟨w1, hw1⟩ : ∃ w1, w1 = (w.alloc (.cells (sqV x D m d) 46)).alloc (.cells zeroR 39) := ⟨_, rfl⟩
  have HB1 : Hid (Below w.heap.size w w1) := Lib.hid (by rw [hw1]; exact ba2 _ _ _)
  have HX3 : Hid (Bx 46 w1 q3 (sqV x D m d)) := Lib.hid (by rw [hw1, hq3]; exact (bx_new _ _ _).below (ba1 _ _))
  have HX4 : Hid (Bx 39 w1 q4 zeroR) := Lib.hid (by
    rw [hw1, hq4]
    have := bx_new (w.alloc (.cells (sqV x D m d) 46)) 39 zeroR
    simpa using this)
  have HQ : Hid (w.heap.size ≤ q3 ∧ q3 < q4 ∧ q4 < w1.heap.size) := Lib.hid ⟨by omega, by omega, HX4.out.lt⟩
  obtain ⟨r, hr⟩ : ∃ r, r = serveS s x := ⟨_, rfl⟩
  have HR : Hid (r = serveS s x) := Lib.hid hr
  rw [← hr]
  have HS1 : Hid (SvIs w1 B s f p K) := Lib.hid (h.new HB1.out)
  have HACT : Hid (5 ≤ x.kd ∧ x.kd ≤ 10 → Calls Tryz.prog 62 #[.pointer (some ⟨B, 0, none⟩), .string (tx x.p), .agg (sqV x D m d)] w1 (RetSv w1 B f (K + 2) (actS s x.p x))) := Lib.hid (fun hk => (svact_any w1 B K s f p HS1.out (by omega) hln x.p x D m d (hD.below HB1.out) hm hcl hd (by omega)).mono fun e w' h => h.mono (by omega))
  have HWORK : Hid (x.kd = 3 ∨ x.kd = 4 → Calls Tryz.prog 61 #[.pointer (some ⟨B, 0, none⟩), .agg (sqV x D m d)] w1 (RetSv w1 B f (K + 2) (workS s x))) := Lib.hid (fun hk => (svwork_any w1 B K s f p HS1.out (by omega) hln x D m d (hD.below HB1.out) hm hcl hd hk).mono fun e w' h => h.mono (by omega))
  have HOPEN : Hid (Calls Tryz.prog 59 #[.pointer (some ⟨B, 0, none⟩), .string (tx x.p), .int .i64 x.how] w1 (RetOp w1 B f (K + 2) (openS s x.p x.how))) := Lib.hid (svopen_any w1 B K s f p HS1.out hK hln x.p x.how)
  have HSHUT : Hid (Calls Tryz.prog 60 #[.pointer (some ⟨B, 1, none⟩), .int .i64 x.han] w1.drew fun e w' => e = .returned (.int .i64 (shutH s.hs x.han).2) ∧ RetSv w1.drew B f (K + 1) (⟨s.T, (shutH s.hs x.han).1⟩, srE (shutH s.hs x.han).2) (.returned (.agg (rvV (rvP (srE (shutH s.hs x.han).2))))) w') := Lib.hid (svshut_any w1.drew B K s f p (HS1.out.new (Below.refl _ _).drew) (by omega) x.han)
  clear h hD hcl hd hr
  obtain ⟨⟨kd, mrk, pp, qq, how, han, a, c, data⟩, hxe⟩ : ∃ y, y = x := ⟨_, rfl⟩
  subst hxe
  unfold sqV zeroR at hw1
  unfold sqV at HX3 HACT HWORK
  simp only at hw1 HX3 HACT HWORK HOPEN HSHUT HR
  unfold zeroR at HX4
  have c0 := HX3.out.cell 0 _ rfl
  have c1 := HX3.out.cell 1 _ rfl
  have c2 := HX3.out.cell 2 _ rfl
  have c3 := HX3.out.cell 3 _ rfl
  have c4 := HX3.out.cell 4 _ rfl
  have c5 := HX3.out.cell 5 _ rfl
  have c6 := HX3.out.cell 6 _ rfl
  have c7 := HX3.out.cell 7 _ rfl
  have c8 := HX3.out.cell 8 _ rfl
  have l3 := HX3.out.lt
  unfold sqV
  simp only
  have hkk : kd = 1 ∨ kd = 2 ∨ kd = 3 ∨ kd = 4 ∨ kd = 5 ∨ kd = 6 ∨ kd = 7 ∨ kd = 8 ∨ kd = 9 ∨ kd = 10 ∨ (kd ≠ 1 ∧ kd ≠ 2 ∧ kd ≠ 3 ∧ kd ≠ 4 ∧ ¬ (5 ≤ kd ∧ kd ≤ 10)) := by omega
  rcases hkk with rfl | rfl | rfl | rfl | rfl | rfl | rfl | rfl | rfl | rfl | hkk
  · have HE : Hid (r = ((openS s pp how).1, ⟨0, (openS s pp how).2.2, (openS s pp how).2.1, 0, 0, [], []⟩)) := Lib.hid (by rw [HR.out]; rfl)
    clear HACT HWORK HSHUT
    generalize openS s pp how = og at *
    go_enter Tryz.func46, Tryz.ntmps46
    go_upto_region 1 with fail
    rw [← hw1, ← hq4, ← hq3]
    clear hw1 hq3 hq4
    go_wp2_with (go_at_call 59; (with_reducible refine HOPEN.out.mono ?_); intro e w2 hret; have HRT := Lib.hid (RetOp.sv hret); obtain ⟨rfl, -⟩ := hret; have HZ4 := Lib.hid (RetSv.own HH.out HRT.out (by have := HQ.out; omega) HX4.out); obtain ⟨l4, ⟨d0, d1, d2, d3, d4, d5, d6⟩, ⟨f0, f1, f2, f3, f4, f5, f6⟩⟩ := HZ4.out.all7)
    obtain ⟨w9, hw9⟩ : ∃ w9, w9 = put7 w2 q4 (.int .i64 0) (.int .i64 og.2.2) (.int .i64 og.2.1) (.int .i64 0) (.int .i64 0) (.slice none 0 0) (.slice none 0 0) := ⟨_, rfl⟩
    have HX9 : Hid (Bx 39 w9 q4 #[.int .i64 0, .int .i64 og.2.2, .int .i64 og.2.1, .int .i64 0, .int .i64 0, .slice none 0 0, .slice none 0 0]) := Lib.hid (by rw [hw9]; exact HZ4.out.put7 _ _ _ _ _ _ _)
    have HN9 : Hid (Only (fun b => b = q4) w2 w9) := Lib.hid (by rw [hw9]; exact only_put7 _ _ _ _ _ _ _ _ _)
    unfold put7 at hw9
    rw [← hw9]
    clear hw9 d0 d1 d2 d3 d4 d5 d6 f0 f1 f2 f3 f4 f5 f6
    obtain ⟨-, ⟨d0, d1, d2, d3, d4, d5, d6⟩, -⟩ := HX9.out.all7
    refine end_ret (v := .agg (rvV (rvP ⟨0, og.2.2, og.2.1, 0, 0, [], []⟩))) (by unfold rvV rvP; simp [results, Tryz.results46, go_sem, d0, d1, d2, d3, d4, d5, d6]; try rfl) ?_
    rw [HE.out]
    refine RetSv.box HH.out HRT.out HB1.out (HN9.out.mono (fun b hb => ?_))
    have := HQ.out
    rw [hb]
    exact ⟨by omega, by show q4 < w1.heap.size; omega⟩
  · have HE : Hid (r = (⟨s.T, (shutH s.hs han).1⟩, srE (shutH s.hs han).2)) := Lib.hid (by rw [HR.out]; rfl)
    clear HACT HWORK HOPEN
    generalize shutH s.hs han = og at *
    go_enter Tryz.func46, Tryz.ntmps46
    go_upto_region 1 with fail
    rw [← hw1, ← hq4, ← hq3]
    clear hw1 hq3 hq4
    have lB : B < w1.heap.size := Nat.lt_of_lt_of_le hB HB1.out.size
    have hq34 : q3 ≠ q4 := by have := HQ.out; omega
    have e5 := cell_drew1 c5
    go_upto_region 6 with fail
    go_region_held3 (fun W => W.cell? ⟨q3, 5, none⟩ = some (.int .i64 han)) (first | (with_reducible exact m5) | (with_reducible exact e5) | (with_reducible exact (cs7 hq34 _ _ _ _ _ _ _).trans m5) | go_keep) (first
      | (go_at_call 60; (with_reducible refine HSHUT.out.mono ?_); rintro e w2 ⟨rfl, hret⟩; have HRT := Lib.hid (hret.mono (Nat.le_succ _)); have HZ4 := Lib.hid (RetSv.own HH.out HRT.out (by have := HQ.out; omega) (HX4.out.below (Below.refl _ _).drew)); have m5 := (RetSv.own HH.out HRT.out HQ.out.1 (HX3.out.below (Below.refl _ _).drew)).cell 5 (.int .i64 han) rfl; obtain ⟨l4, ⟨d0, d1, d2, d3, d4, d5, d6⟩, ⟨f0, f1, f2, f3, f4, f5, f6⟩⟩ := HZ4.out.all7; clear hret))
    obtain ⟨w9, hw9⟩ : ∃ w9, w9 = put7 w2 q4 (.int .i64 0) (.int .i64 og.2) (.int .i64 0) (.int .i64 0) (.int .i64 0) (.slice none 0 0) (.slice none 0 0) := ⟨_, rfl⟩
    have HX9 : Hid (Bx 39 w9 q4 #[.int .i64 0, .int .i64 og.2, .int .i64 0, .int .i64 0, .int .i64 0, .slice none 0 0, .slice none 0 0]) := Lib.hid (by rw [hw9]; exact HZ4.out.put7 _ _ _ _ _ _ _)
    have HN9 : Hid (Only (fun b => b = q4) w2 w9) := Lib.hid (by rw [hw9]; exact only_put7 _ _ _ _ _ _ _ _ _)
    unfold put7 at hw9
    rw [← hw9]
    clear hw9 d0 d1 d2 d3 d4 d5 d6 f0 f1 f2 f3 f4 f5 f6
    obtain ⟨-, ⟨d0, d1, d2, d3, d4, d5, d6⟩, -⟩ := HX9.out.all7
    go_wp2_with fail
    refine end_ret (v := .agg (rvV (rvP (srE og.2)))) (by unfold rvV rvP srE; simp [results, Tryz.results46, go_sem, d0, d1, d2, d3, d4, d5, d6]; try rfl) ?_
    rw [HE.out]
    refine RetSv.box HH.out HRT.out (bthen HB1.out (Below.refl _ _).drew) (HN9.out.mono (fun b hb => ?_))
    have := HQ.out
    rw [hb]
    exact ⟨by omega, by show q4 < w1.heap.size; omega⟩
  · have HE : Hid (r = workS s ⟨3, mrk, pp, qq, how, han, a, c, data⟩) := Lib.hid (by rw [HR.out]; unfold serveS; simp)
    have HCL := Lib.hid (HWORK.out (by omega))
    clear HACT HWORK HOPEN HSHUT
    go_enter Tryz.func46, Tryz.ntmps46
    go_upto_region 1 with fail
    rw [← hw1, ← hq4, ← hq3]
    clear hw1 hq3 hq4
    go_wp2_with (go_at_call 61; (with_reducible refine HCL.out.mono ?_); intro e w2 hret; obtain ⟨y, rfl, HRT⟩ := ret_value hret; have HZ4 := Lib.hid (RetSv.own HH.out HRT.out (by have := HQ.out; omega) HX4.out); obtain ⟨l4, ⟨d0, d1, d2, d3, d4, d5, d6⟩, ⟨f0, f1, f2, f3, f4, f5, f6⟩⟩ := HZ4.out.all7; unfold rvV; clear hret)
    obtain ⟨w9, hw9⟩ : ∃ w9, w9 = put7 w2 q4 (.int .i64 y.r.mrk) (.int .i64 y.r.code) (.int .i64 y.r.han) (.int .i64 y.r.kd) (.int .i64 y.r.sz) (.slice y.A y.n y.c) (.slice y.N y.m y.d) := ⟨_, rfl⟩
    have HX9 : Hid (Bx 39 w9 q4 #[.int .i64 y.r.mrk, .int .i64 y.r.code, .int .i64 y.r.han, .int .i64 y.r.kd, .int .i64 y.r.sz, .slice y.A y.n y.c, .slice y.N y.m y.d]) := Lib.hid (by rw [hw9]; exact HZ4.out.put7 _ _ _ _ _ _ _)
    have HN9 : Hid (Only (fun b => b = q4) w2 w9) := Lib.hid (by rw [hw9]; exact only_put7 _ _ _ _ _ _ _ _ _)
    unfold put7 at hw9
    rw [← hw9]
    clear hw9 d0 d1 d2 d3 d4 d5 d6 f0 f1 f2 f3 f4 f5 f6
    obtain ⟨-, ⟨d0, d1, d2, d3, d4, d5, d6⟩, -⟩ := HX9.out.all7
    refine end_ret (v := .agg (rvV y)) (by unfold rvV; simp [results, Tryz.results46, go_sem, d0, d1, d2, d3, d4, d5, d6]; try rfl) ?_
    rw [HE.out]
    refine RetSv.box HH.out HRT.out HB1.out (HN9.out.mono (fun b hb => ?_))
    have := HQ.out
    rw [hb]
    exact ⟨by omega, by show q4 < w1.heap.size; omega⟩
  · have HE : Hid (r = workS s ⟨4, mrk, pp, qq, how, han, a, c, data⟩) := Lib.hid (by rw [HR.out]; unfold serveS; simp)
    have HCL := Lib.hid (HWORK.out (by omega))
    clear HACT HWORK HOPEN HSHUT
    go_enter Tryz.func46, Tryz.ntmps46
    go_upto_region 1 with fail
    rw [← hw1, ← hq4, ← hq3]
    clear hw1 hq3 hq4
    go_wp2_with (go_at_call 61; (with_reducible refine HCL.out.mono ?_); intro e w2 hret; obtain ⟨y, rfl, HRT⟩ := ret_value hret; have HZ4 := Lib.hid (RetSv.own HH.out HRT.out (by have := HQ.out; omega) HX4.out); obtain ⟨l4, ⟨d0, d1, d2, d3, d4, d5, d6⟩, ⟨f0, f1, f2, f3, f4, f5, f6⟩⟩ := HZ4.out.all7; unfold rvV; clear hret)
    obtain ⟨w9, hw9⟩ : ∃ w9, w9 = put7 w2 q4 (.int .i64 y.r.mrk) (.int .i64 y.r.code) (.int .i64 y.r.han) (.int .i64 y.r.kd) (.int .i64 y.r.sz) (.slice y.A y.n y.c) (.slice y.N y.m y.d) := ⟨_, rfl⟩
    have HX9 : Hid (Bx 39 w9 q4 #[.int .i64 y.r.mrk, .int .i64 y.r.code, .int .i64 y.r.han, .int .i64 y.r.kd, .int .i64 y.r.sz, .slice y.A y.n y.c, .slice y.N y.m y.d]) := Lib.hid (by rw [hw9]; exact HZ4.out.put7 _ _ _ _ _ _ _)
    have HN9 : Hid (Only (fun b => b = q4) w2 w9) := Lib.hid (by rw [hw9]; exact only_put7 _ _ _ _ _ _ _ _ _)
    unfold put7 at hw9
    rw [← hw9]
    clear hw9 d0 d1 d2 d3 d4 d5 d6 f0 f1 f2 f3 f4 f5 f6
    obtain ⟨-, ⟨d0, d1, d2, d3, d4, d5, d6⟩, -⟩ := HX9.out.all7
    refine end_ret (v := .agg (rvV y)) (by unfold rvV; simp [results, Tryz.results46, go_sem, d0, d1, d2, d3, d4, d5, d6]; try rfl) ?_
    rw [HE.out]
    refine RetSv.box HH.out HRT.out HB1.out (HN9.out.mono (fun b hb => ?_))
    have := HQ.out
    rw [hb]
    exact ⟨by omega, by show q4 < w1.heap.size; omega⟩
  · have HE : Hid (r = actS s pp ⟨5, mrk, pp, qq, how, han, a, c, data⟩) := Lib.hid (by rw [HR.out]; unfold serveS; simp)
    have HCL := Lib.hid (HACT.out (by omega))
    clear HACT HWORK HOPEN HSHUT
    go_enter Tryz.func46, Tryz.ntmps46
    go_upto_region 1 with fail
    rw [← hw1, ← hq4, ← hq3]
    clear hw1 hq3 hq4
    go_wp2_with (go_at_call 62; (with_reducible refine HCL.out.mono ?_); intro e w2 hret; obtain ⟨y, rfl, HRT⟩ := ret_value hret; have HZ4 := Lib.hid (RetSv.own HH.out HRT.out (by have := HQ.out; omega) HX4.out); obtain ⟨l4, ⟨d0, d1, d2, d3, d4, d5, d6⟩, ⟨f0, f1, f2, f3, f4, f5, f6⟩⟩ := HZ4.out.all7; unfold rvV; clear hret)
    obtain ⟨w9, hw9⟩ : ∃ w9, w9 = put7 w2 q4 (.int .i64 y.r.mrk) (.int .i64 y.r.code) (.int .i64 y.r.han) (.int .i64 y.r.kd) (.int .i64 y.r.sz) (.slice y.A y.n y.c) (.slice y.N y.m y.d) := ⟨_, rfl⟩
    have HX9 : Hid (Bx 39 w9 q4 #[.int .i64 y.r.mrk, .int .i64 y.r.code, .int .i64 y.r.han, .int .i64 y.r.kd, .int .i64 y.r.sz, .slice y.A y.n y.c, .slice y.N y.m y.d]) := Lib.hid (by rw [hw9]; exact HZ4.out.put7 _ _ _ _ _ _ _)
    have HN9 : Hid (Only (fun b => b = q4) w2 w9) := Lib.hid (by rw [hw9]; exact only_put7 _ _ _ _ _ _ _ _ _)
    unfold put7 at hw9
    rw [← hw9]
    clear hw9 d0 d1 d2 d3 d4 d5 d6 f0 f1 f2 f3 f4 f5 f6
    obtain ⟨-, ⟨d0, d1, d2, d3, d4, d5, d6⟩, -⟩ := HX9.out.all7
    refine end_ret (v := .agg (rvV y)) (by unfold rvV; simp [results, Tryz.results46, go_sem, d0, d1, d2, d3, d4, d5, d6]; try rfl) ?_
    rw [HE.out]
    refine RetSv.box HH.out HRT.out HB1.out (HN9.out.mono (fun b hb => ?_))
    have := HQ.out
    rw [hb]
    exact ⟨by omega, by show q4 < w1.heap.size; omega⟩
  · have HE : Hid (r = actS s pp ⟨6, mrk, pp, qq, how, han, a, c, data⟩) := Lib.hid (by rw [HR.out]; unfold serveS; simp)
    have HCL := Lib.hid (HACT.out (by omega))
    clear HACT HWORK HOPEN HSHUT
    go_enter Tryz.func46, Tryz.ntmps46
    go_upto_region 1 with fail
    rw [← hw1, ← hq4, ← hq3]
    clear hw1 hq3 hq4
    go_wp2_with (go_at_call 62; (with_reducible refine HCL.out.mono ?_); intro e w2 hret; obtain ⟨y, rfl, HRT⟩ := ret_value hret; have HZ4 := Lib.hid (RetSv.own HH.out HRT.out (by have := HQ.out; omega) HX4.out); obtain ⟨l4, ⟨d0, d1, d2, d3, d4, d5, d6⟩, ⟨f0, f1, f2, f3, f4, f5, f6⟩⟩ := HZ4.out.all7; unfold rvV; clear hret)
    obtain ⟨w9, hw9⟩ : ∃ w9, w9 = put7 w2 q4 (.int .i64 y.r.mrk) (.int .i64 y.r.code) (.int .i64 y.r.han) (.int .i64 y.r.kd) (.int .i64 y.r.sz) (.slice y.A y.n y.c) (.slice y.N y.m y.d) := ⟨_, rfl⟩
    have HX9 : Hid (Bx 39 w9 q4 #[.int .i64 y.r.mrk, .int .i64 y.r.code, .int .i64 y.r.han, .int .i64 y.r.kd, .int .i64 y.r.sz, .slice y.A y.n y.c, .slice y.N y.m y.d]) := Lib.hid (by rw [hw9]; exact HZ4.out.put7 _ _ _ _ _ _ _)
    have HN9 : Hid (Only (fun b => b = q4) w2 w9) := Lib.hid (by rw [hw9]; exact only_put7 _ _ _ _ _ _ _ _ _)
    unfold put7 at hw9
    rw [← hw9]
    clear hw9 d0 d1 d2 d3 d4 d5 d6 f0 f1 f2 f3 f4 f5 f6
    obtain ⟨-, ⟨d0, d1, d2, d3, d4, d5, d6⟩, -⟩ := HX9.out.all7
    refine end_ret (v := .agg (rvV y)) (by unfold rvV; simp [results, Tryz.results46, go_sem, d0, d1, d2, d3, d4, d5, d6]; try rfl) ?_
    rw [HE.out]
    refine RetSv.box HH.out HRT.out HB1.out (HN9.out.mono (fun b hb => ?_))
    have := HQ.out
    rw [hb]
    exact ⟨by omega, by show q4 < w1.heap.size; omega⟩
  · have HE : Hid (r = actS s pp ⟨7, mrk, pp, qq, how, han, a, c, data⟩) := Lib.hid (by rw [HR.out]; unfold serveS; simp)
    have HCL := Lib.hid (HACT.out (by omega))
    clear HACT HWORK HOPEN HSHUT
    go_enter Tryz.func46, Tryz.ntmps46
    go_upto_region 1 with fail
    rw [← hw1, ← hq4, ← hq3]
    clear hw1 hq3 hq4
    go_wp2_with (go_at_call 62; (with_reducible refine HCL.out.mono ?_); intro e w2 hret; obtain ⟨y, rfl, HRT⟩ := ret_value hret; have HZ4 := Lib.hid (RetSv.own HH.out HRT.out (by have := HQ.out; omega) HX4.out); obtain ⟨l4, ⟨d0, d1, d2, d3, d4, d5, d6⟩, ⟨f0, f1, f2, f3, f4, f5, f6⟩⟩ := HZ4.out.all7; unfold rvV; clear hret)
    obtain ⟨w9, hw9⟩ : ∃ w9, w9 = put7 w2 q4 (.int .i64 y.r.mrk) (.int .i64 y.r.code) (.int .i64 y.r.han) (.int .i64 y.r.kd) (.int .i64 y.r.sz) (.slice y.A y.n y.c) (.slice y.N y.m y.d) := ⟨_, rfl⟩
    have HX9 : Hid (Bx 39 w9 q4 #[.int .i64 y.r.mrk, .int .i64 y.r.code, .int .i64 y.r.han, .int .i64 y.r.kd, .int .i64 y.r.sz, .slice y.A y.n y.c, .slice y.N y.m y.d]) := Lib.hid (by rw [hw9]; exact HZ4.out.put7 _ _ _ _ _ _ _)
    have HN9 : Hid (Only (fun b => b = q4) w2 w9) := Lib.hid (by rw [hw9]; exact only_put7 _ _ _ _ _ _ _ _ _)
    unfold put7 at hw9
    rw [← hw9]
    clear hw9 d0 d1 d2 d3 d4 d5 d6 f0 f1 f2 f3 f4 f5 f6
    obtain ⟨-, ⟨d0, d1, d2, d3, d4, d5, d6⟩, -⟩ := HX9.out.all7
    refine end_ret (v := .agg (rvV y)) (by unfold rvV; simp [results, Tryz.results46, go_sem, d0, d1, d2, d3, d4, d5, d6]; try rfl) ?_
    rw [HE.out]
    refine RetSv.box HH.out HRT.out HB1.out (HN9.out.mono (fun b hb => ?_))
    have := HQ.out
    rw [hb]
    exact ⟨by omega, by show q4 < w1.heap.size; omega⟩
  · have HE : Hid (r = actS s pp ⟨8, mrk, pp, qq, how, han, a, c, data⟩) := Lib.hid (by rw [HR.out]; unfold serveS; simp)
    have HCL := Lib.hid (HACT.out (by omega))
    clear HACT HWORK HOPEN HSHUT
    go_enter Tryz.func46, Tryz.ntmps46
    go_upto_region 1 with fail
    rw [← hw1, ← hq4, ← hq3]
    clear hw1 hq3 hq4
    go_wp2_with (go_at_call 62; (with_reducible refine HCL.out.mono ?_); intro e w2 hret; obtain ⟨y, rfl, HRT⟩ := ret_value hret; have HZ4 := Lib.hid (RetSv.own HH.out HRT.out (by have := HQ.out; omega) HX4.out); obtain ⟨l4, ⟨d0, d1, d2, d3, d4, d5, d6⟩, ⟨f0, f1, f2, f3, f4, f5, f6⟩⟩ := HZ4.out.all7; unfold rvV; clear hret)
    obtain ⟨w9, hw9⟩ : ∃ w9, w9 = put7 w2 q4 (.int .i64 y.r.mrk) (.int .i64 y.r.code) (.int .i64 y.r.han) (.int .i64 y.r.kd) (.int .i64 y.r.sz) (.slice y.A y.n y.c) (.slice y.N y.m y.d) := ⟨_, rfl⟩
    have HX9 : Hid (Bx 39 w9 q4 #[.int .i64 y.r.mrk, .int .i64 y.r.code, .int .i64 y.r.han, .int .i64 y.r.kd, .int .i64 y.r.sz, .slice y.A y.n y.c, .slice y.N y.m y.d]) := Lib.hid (by rw [hw9]; exact HZ4.out.put7 _ _ _ _ _ _ _)
    have HN9 : Hid (Only (fun b => b = q4) w2 w9) := Lib.hid (by rw [hw9]; exact only_put7 _ _ _ _ _ _ _ _ _)
    unfold put7 at hw9
    rw [← hw9]
    clear hw9 d0 d1 d2 d3 d4 d5 d6 f0 f1 f2 f3 f4 f5 f6
    obtain ⟨-, ⟨d0, d1, d2, d3, d4, d5, d6⟩, -⟩ := HX9.out.all7
    refine end_ret (v := .agg (rvV y)) (by unfold rvV; simp [results, Tryz.results46, go_sem, d0, d1, d2, d3, d4, d5, d6]; try rfl) ?_
    rw [HE.out]
    refine RetSv.box HH.out HRT.out HB1.out (HN9.out.mono (fun b hb => ?_))
    have := HQ.out
    rw [hb]
    exact ⟨by omega, by show q4 < w1.heap.size; omega⟩
  · have HE : Hid (r = actS s pp ⟨9, mrk, pp, qq, how, han, a, c, data⟩) := Lib.hid (by rw [HR.out]; unfold serveS; simp)
    have HCL := Lib.hid (HACT.out (by omega))
    clear HACT HWORK HOPEN HSHUT
    go_enter Tryz.func46, Tryz.ntmps46
    go_upto_region 1 with fail
    rw [← hw1, ← hq4, ← hq3]
    clear hw1 hq3 hq4
    go_wp2_with (go_at_call 62; (with_reducible refine HCL.out.mono ?_); intro e w2 hret; obtain ⟨y, rfl, HRT⟩ := ret_value hret; have HZ4 := Lib.hid (RetSv.own HH.out HRT.out (by have := HQ.out; omega) HX4.out); obtain ⟨l4, ⟨d0, d1, d2, d3, d4, d5, d6⟩, ⟨f0, f1, f2, f3, f4, f5, f6⟩⟩ := HZ4.out.all7; unfold rvV; clear hret)
    obtain ⟨w9, hw9⟩ : ∃ w9, w9 = put7 w2 q4 (.int .i64 y.r.mrk) (.int .i64 y.r.code) (.int .i64 y.r.han) (.int .i64 y.r.kd) (.int .i64 y.r.sz) (.slice y.A y.n y.c) (.slice y.N y.m y.d) := ⟨_, rfl⟩
    have HX9 : Hid (Bx 39 w9 q4 #[.int .i64 y.r.mrk, .int .i64 y.r.code, .int .i64 y.r.han, .int .i64 y.r.kd, .int .i64 y.r.sz, .slice y.A y.n y.c, .slice y.N y.m y.d]) := Lib.hid (by rw [hw9]; exact HZ4.out.put7 _ _ _ _ _ _ _)
    have HN9 : Hid (Only (fun b => b = q4) w2 w9) := Lib.hid (by rw [hw9]; exact only_put7 _ _ _ _ _ _ _ _ _)
    unfold put7 at hw9
    rw [← hw9]
    clear hw9 d0 d1 d2 d3 d4 d5 d6 f0 f1 f2 f3 f4 f5 f6
    obtain ⟨-, ⟨d0, d1, d2, d3, d4, d5, d6⟩, -⟩ := HX9.out.all7
    refine end_ret (v := .agg (rvV y)) (by unfold rvV; simp [results, Tryz.results46, go_sem, d0, d1, d2, d3, d4, d5, d6]; try rfl) ?_
    rw [HE.out]
    refine RetSv.box HH.out HRT.out HB1.out (HN9.out.mono (fun b hb => ?_))
    have := HQ.out
    rw [hb]
    exact ⟨by omega, by show q4 < w1.heap.size; omega⟩
  · have HE : Hid (r = actS s pp ⟨10, mrk, pp, qq, how, han, a, c, data⟩) := Lib.hid (by rw [HR.out]; unfold serveS; simp)
    have HCL := Lib.hid (HACT.out (by omega))
    clear HACT HWORK HOPEN HSHUT
    go_enter Tryz.func46, Tryz.ntmps46
    go_upto_region 1 with fail
    rw [← hw1, ← hq4, ← hq3]
    clear hw1 hq3 hq4
    go_wp2_with (go_at_call 62; (with_reducible refine HCL.out.mono ?_); intro e w2 hret; obtain ⟨y, rfl, HRT⟩ := ret_value hret; have HZ4 := Lib.hid (RetSv.own HH.out HRT.out (by have := HQ.out; omega) HX4.out); obtain ⟨l4, ⟨d0, d1, d2, d3, d4, d5, d6⟩, ⟨f0, f1, f2, f3, f4, f5, f6⟩⟩ := HZ4.out.all7; unfold rvV; clear hret)
    obtain ⟨w9, hw9⟩ : ∃ w9, w9 = put7 w2 q4 (.int .i64 y.r.mrk) (.int .i64 y.r.code) (.int .i64 y.r.han) (.int .i64 y.r.kd) (.int .i64 y.r.sz) (.slice y.A y.n y.c) (.slice y.N y.m y.d) := ⟨_, rfl⟩
    have HX9 : Hid (Bx 39 w9 q4 #[.int .i64 y.r.mrk, .int .i64 y.r.code, .int .i64 y.r.han, .int .i64 y.r.kd, .int .i64 y.r.sz, .slice y.A y.n y.c, .slice y.N y.m y.d]) := Lib.hid (by rw [hw9]; exact HZ4.out.put7 _ _ _ _ _ _ _)
    have HN9 : Hid (Only (fun b => b = q4) w2 w9) := Lib.hid (by rw [hw9]; exact only_put7 _ _ _ _ _ _ _ _ _)
    unfold put7 at hw9
    rw [← hw9]
    clear hw9 d0 d1 d2 d3 d4 d5 d6 f0 f1 f2 f3 f4 f5 f6
    obtain ⟨-, ⟨d0, d1, d2, d3, d4, d5, d6⟩, -⟩ := HX9.out.all7
    refine end_ret (v := .agg (rvV y)) (by unfold rvV; simp [results, Tryz.results46, go_sem, d0, d1, d2, d3, d4, d5, d6]; try rfl) ?_
    rw [HE.out]
    refine RetSv.box HH.out HRT.out HB1.out (HN9.out.mono (fun b hb => ?_))
    have := HQ.out
    rw [hb]
    exact ⟨by omega, by show q4 < w1.heap.size; omega⟩
  · obtain ⟨k1, k2, k3, k4, k5⟩ := hkk
    have HE : Hid (r = (s, srE 3)) := Lib.hid (by rw [HR.out]; unfold serveS; simp only; rw [if_neg k1, if_neg k2, if_neg (by omega), if_neg k5])
    have z1 : (kd == 1) = false := by simp; omega
    have y1 : decide (kd = 1) = false := by simp; omega
    have z2 : (kd == 2) = false := by simp; omega
    have y2 : decide (kd = 2) = false := by simp; omega
    have z3 : (kd == 3) = false := by simp; omega
    have y3 : decide (kd = 3) = false := by simp; omega
    have z4 : (kd == 4) = false := by simp; omega
    have y4 : decide (kd = 4) = false := by simp; omega
    have z5 : (kd == 5) = false := by simp; omega
    have y5 : decide (kd = 5) = false := by simp; omega
    have z6 : (kd == 6) = false := by simp; omega
    have y6 : decide (kd = 6) = false := by simp; omega
    have z7 : (kd == 7) = false := by simp; omega
    have y7 : decide (kd = 7) = false := by simp; omega
    have z8 : (kd == 8) = false := by simp; omega
    have y8 : decide (kd = 8) = false := by simp; omega
    have z9 : (kd == 9) = false := by simp; omega
    have y9 : decide (kd = 9) = false := by simp; omega
    have z10 : (kd == 10) = false := by simp; omega
    have y10 : decide (kd = 10) = false := by simp; omega
    clear HACT HWORK HOPEN HSHUT k1 k2 k3 k4 k5
    go_enter Tryz.func46, Tryz.ntmps46
    go_upto_region 1 with fail
    rw [← hw1, ← hq4, ← hq3]
    clear hw1 hq3 hq4
    obtain ⟨l4, ⟨d0, d1, d2, d3, d4, d5, d6⟩, ⟨f0, f1, f2, f3, f4, f5, f6⟩⟩ := HX4.out.all7
    go_wp2_with fail
    obtain ⟨w9, hw9⟩ : ∃ w9, w9 = put7 w1 q4 (.int .i64 0) (.int .i64 3) (.int .i64 0) (.int .i64 0) (.int .i64 0) (.slice none 0 0) (.slice none 0 0) := ⟨_, rfl⟩
    have HX9 : Hid (Bx 39 w9 q4 #[.int .i64 0, .int .i64 3, .int .i64 0, .int .i64 0, .int .i64 0, .slice none 0 0, .slice none 0 0]) := Lib.hid (by rw [hw9]; exact HX4.out.put7 _ _ _ _ _ _ _)
    have HN9 : Hid (Only (fun b => b = q4) w1 w9) := Lib.hid (by rw [hw9]; exact only_put7 _ _ _ _ _ _ _ _ _)
    unfold put7 at hw9
    rw [← hw9]
    clear hw9 d0 d1 d2 d3 d4 d5 d6 f0 f1 f2 f3 f4 f5 f6
    obtain ⟨-, ⟨d0, d1, d2, d3, d4, d5, d6⟩, -⟩ := HX9.out.all7
    refine end_ret (v := .agg (rvV (rvP (srE 3)))) (by unfold rvV rvP srE; simp [results, Tryz.results46, go_sem, d0, d1, d2, d3, d4, d5, d6]; try rfl) ?_
    refine RetSv.plain HH.out (by omega) HE.out rfl rfl (HB1.out.trans (HN9.out.below (B := w.heap.size) (fun b hb => by have := HQ.out; omega) HB1.out.size))

end Go.Proofs.YthjpighlcalocaaGreatDoor

namespace Go.Proofs.YthjpighlcalocaaGreatDoor
open Go.RowKit Go.Maps
set_option linter.unusedVariables false
set_option linter.unusedSimpArgs false

def Rv.mark (x : Rv) (k : Int) : Rv := { x with r := { x.r with mrk := k } }
set_option maxHeartbeats 8000000 in
theorem svdo_any (w : World) (B K : Nat) (s : Sd) (f : Rl) (p : Nat → Nat) (h : SvIs w B s f p K) (hK : K + 1 < 1000000) (hln : liveN s.T ≤ 1000000) (x : Sq) (D : Option Addr) (m d : Nat) (hD : Ls byS w D x.data) (hm : x.data.length = m) (hcl : 0 < m → Clear (fun k => f k ≠ none) D) (hd : ∀ z ∈ x.data, 0 ≤ z ∧ z ≤ 255) :
    Calls Tryz.prog 27 #[.pointer (some ⟨B, 0, none⟩), .agg (sqV x D m d)] w (RetSv w B f (K + 2) (doS s x)) := by
  have hB := h.lt
  have HH := Lib.hid h
  obtain ⟨q3, hq3⟩ : ∃ q, q = w.heap.size := ⟨_, rfl⟩
  obtain ⟨q4, hq4⟩ : ∃ q, q = w.heap.size + 1 := ⟨_, rfl⟩
  obtain ⟨w1, hw1⟩ : ∃ w1, w1 = (w.alloc (.cells (sqV x D m d) 46)).alloc (.cells zeroR 39) := ⟨_, rfl⟩
  have HB1 : Hid (Below w.heap.size w w1) := Lib.hid (by rw [hw1]; exact ba2 _ _ _)
  have HX3 : Hid (Bx 46 w1 q3 (sqV x D m d)) := Lib.hid (by rw [hw1, hq3]; exact (bx_new _ _ _).below (ba1 _ _))
  have HX4 : Hid (Bx 39 w1 q4 zeroR) := Lib.hid (by
    rw [hw1, hq4]
    have := bx_new (w.alloc (.cells (sqV x D m d) 46)) 39 zeroR
    simpa using this)
  have HQ : Hid (w.heap.size ≤ q3 ∧ q3 < q4 ∧ q4 < w1.heap.size) := Lib.hid ⟨by omega, by omega, HX4.out.lt⟩
  have HS1 : Hid (SvIs w1 B s f p K) := Lib.hid (h.new HB1.out)
  have HSV : Hid (Calls Tryz.prog 46 #[.pointer (some ⟨B, 0, none⟩), .agg (sqV x D m d)] w1 (RetSv w1 B f (K + 2) (serveS s x))) := Lib.hid (svserve_any w1 B K s f p HS1.out hK hln x D m d (hD.below HB1.out) hm hcl hd)
  obtain ⟨r, hr⟩ : ∃ r, r = doS s x := ⟨_, rfl⟩
  obtain ⟨g, hg⟩ : ∃ g, g = serveS s x := ⟨_, rfl⟩
  have HR : Hid (r = (g.1, { g.2 with mrk := x.mrk })) := Lib.hid (by rw [hr, hg]; rfl)
  rw [← hr]
  rw [← hg] at HSV
  clear h hD hcl hd hr hg
  obtain ⟨⟨kd, mrk, pp, qq, how, han, a, c, data⟩, hxe⟩ : ∃ y, y = x := ⟨_, rfl⟩
  subst hxe
  unfold sqV zeroR at hw1
  unfold sqV at HX3 HSV
  simp only at hw1 HX3 HSV HR
  unfold zeroR at HX4
  have c0 := HX3.out.cell 0 _ rfl
  have c1 := HX3.out.cell 1 _ rfl
  have c2 := HX3.out.cell 2 _ rfl
  have c3 := HX3.out.cell 3 _ rfl
  have c4 := HX3.out.cell 4 _ rfl
  have c5 := HX3.out.cell 5 _ rfl
  have c6 := HX3.out.cell 6 _ rfl
  have c7 := HX3.out.cell 7 _ rfl
  have c8 := HX3.out.cell 8 _ rfl
  have l3 := HX3.out.lt
  unfold sqV
  simp only
  go_enter Tryz.func27, Tryz.ntmps27
  go_upto_region 1 with fail
  rw [← hw1, ← hq4, ← hq3]
  clear hw1 hq3 hq4
  go_upto_region 2 with (go_at_call 46; (with_reducible refine HSV.out.mono ?_); rintro e w2 ⟨y, f2, p2, hy1, rfl, hy2, hy3, hy4, hy5, hy6⟩; have HRT : Hid (RetSv w1 B f (K + 2) (g.1, { g.2 with mrk := mrk }) (.returned (.agg (rvV (y.mark mrk)))) w2) := Lib.hid ⟨y.mark mrk, f2, p2, (by rw [← hy1]; rfl), rfl, hy2, hy3, hy4, hy5, hy6⟩; clear hy1 hy2 hy3 hy4 hy5 hy6; unfold rvV)
  clear c0 c1 c2 c3 c4 c5 c6 c7 c8 l3
  obtain ⟨q5, hq5⟩ : ∃ q, q = w2.heap.size := ⟨_, rfl⟩
  obtain ⟨w3, hw3⟩ : ∃ w3, w3 = w2.alloc (.cells #[.int .i64 y.r.mrk, .int .i64 y.r.code, .int .i64 y.r.han, .int .i64 y.r.kd, .int .i64 y.r.sz, .slice y.A y.n y.c, .slice y.N y.m y.d] 39) := ⟨_, rfl⟩
  have HB3 : Hid (Below w2.heap.size w2 w3) := Lib.hid (by rw [hw3]; exact ba1 _ _)
  have HX5 : Hid (Bx 39 w3 q5 #[.int .i64 y.r.mrk, .int .i64 y.r.code, .int .i64 y.r.han, .int .i64 y.r.kd, .int .i64 y.r.sz, .slice y.A y.n y.c, .slice y.N y.m y.d]) := Lib.hid (by rw [hw3, hq5]; exact bx_new _ _ _)
  have HX33 := Lib.hid ((RetSv.own HH.out HRT.out HQ.out.1 HX3.out).below HB3.out)
  have HX43 := Lib.hid ((RetSv.own HH.out HRT.out (by have := HQ.out; omega) HX4.out).below HB3.out)
  have HQ5 : Hid (w2.heap.size ≤ q5 ∧ q4 < w2.heap.size ∧ q3 < w2.heap.size) := Lib.hid ⟨by omega, (RetSv.own HH.out HRT.out (by have := HQ.out; omega) HX4.out).lt, (RetSv.own HH.out HRT.out HQ.out.1 HX3.out).lt⟩
  rw [← hw3, ← hq5]
  clear hw3 hq5
  have c1 := HX33.out.cell 1 _ rfl
  have l3 := HX33.out.lt
  have g0 := HX5.out.soft 0
  have g1 := HX5.out.cell 0 _ rfl
  have l5 := HX5.out.lt
  go_upto_region 3 with fail
  obtain ⟨w4, hw4⟩ : ∃ w4, w4 = w3.setCell ⟨q5, 0, none⟩ (.int .i64 mrk) := ⟨_, rfl⟩
  have HX54 : Hid (Bx 39 w4 q5 #[.int .i64 mrk, .int .i64 y.r.code, .int .i64 y.r.han, .int .i64 y.r.kd, .int .i64 y.r.sz, .slice y.A y.n y.c, .slice y.N y.m y.d]) := Lib.hid (by rw [hw4]; exact HX5.out.set 0 _)
  have HX44 : Hid (Bx 39 w4 q4 #[.int .i64 0, .int .i64 0, .int .i64 0, .int .i64 0, .int .i64 0, .slice none 0 0, .slice none 0 0]) := Lib.hid (by rw [hw4]; exact HX43.out.other (by have := HQ5.out; omega) _)
  have HN4 : Hid (Only (fun b => b = q5) w3 w4) := Lib.hid (by rw [hw4]; exact only_set' _ _ _ _)
  rw [← hw4]
  clear hw4 c1 l3 g0 g1 l5
  obtain ⟨l5, ⟨e0, e1, e2, e3, e4, e5, e6⟩, -⟩ := HX54.out.all7
  obtain ⟨l4, ⟨d0, d1, d2, d3, d4, d5, d6⟩, ⟨f0, f1, f2', f3, f4, f5, f6⟩⟩ := HX44.out.all7
  go_wp2_with fail
  obtain ⟨w9, hw9⟩ : ∃ w9, w9 = put7 w4 q4 (.int .i64 mrk) (.int .i64 y.r.code) (.int .i64 y.r.han) (.int .i64 y.r.kd) (.int .i64 y.r.sz) (.slice y.A y.n y.c) (.slice y.N y.m y.d) := ⟨_, rfl⟩
  have HX9 : Hid (Bx 39 w9 q4 #[.int .i64 mrk, .int .i64 y.r.code, .int .i64 y.r.han, .int .i64 y.r.kd, .int .i64 y.r.sz, .slice y.A y.n y.c, .slice y.N y.m y.d]) := Lib.hid (by rw [hw9]; exact HX44.out.put7 _ _ _ _ _ _ _)
  have HN9 : Hid (Only (fun b => b = q4) w4 w9) := Lib.hid (by rw [hw9]; exact only_put7 _ _ _ _ _ _ _ _ _)
  unfold put7 at hw9
  rw [← hw9]
  clear hw9 d0 d1 d2 d3 d4 d5 d6 f0 f1 f2' f3 f4 f5 f6 e0 e1 e2 e3 e4 e5 e6
  obtain ⟨-, ⟨d0, d1, d2, d3, d4, d5, d6⟩, -⟩ := HX9.out.all7
  refine end_ret (v := .agg (rvV (y.mark mrk))) (by unfold rvV Rv.mark; simp [results, Tryz.results27, go_sem, d0, d1, d2, d3, d4, d5, d6]; try rfl) ?_
  rw [HR.out]
  refine RetSv.box HH.out HRT.out HB1.out (((only_new HB3.out).trans HN4.out (fun b hb => .inr (by have := HQ5.out; omega))).trans HN9.out (fun b hb => .inl ?_))
  have := HQ.out
  rw [hb]
  exact ⟨by omega, this.2.2⟩

/-! ### a new one -/
theorem sv_zero (tb : Nat) : svC tb sd0.hs = #[.pointer (some ⟨tb, 0, none⟩), .bool false, .int .i64 0, .string ⟨#[]⟩, .int .i64 0, .bool false, .int .i64 0, .string ⟨#[]⟩, .int .i64 0, .bool false, .int .i64 0, .string ⟨#[]⟩, .int .i64 0, .bool false, .int .i64 0, .string ⟨#[]⟩, .int .i64 0, .bool false, .int .i64 0, .string ⟨#[]⟩, .int .i64 0, .bool false, .int .i64 0, .string ⟨#[]⟩, .int .i64 0, .bool false, .int .i64 0, .string ⟨#[]⟩, .int .i64 0, .bool false, .int .i64 0, .string ⟨#[]⟩, .int .i64 0] := rfl
theorem svnew_any (w : World) (ht : TabAt w) (h0 : 0 < w.heap.size) : Calls Tryz.prog 26 #[] w fun e w' => ∃ B, e = .returned (.pointer (some ⟨B, 0, none⟩)) ∧ Hid (Below w.heap.size w w' ∧ w.heap.size ≤ B ∧ ∃ f p, SvIs w' B sd0 f p 0 ∧ ∀ b, f b ≠ none → w.heap.size ≤ b) := by
  have HT := Lib.hid ht
  clear ht
  go_enter Tryz.func26, Tryz.ntmps26
  go_wp2_with (go_at_call 20; refine (new_any w).mono ?_; rintro e w1 ⟨tb, rfl, HNEW⟩)
  go_ret
  obtain ⟨hb1, f, p, htr, hf⟩ := HNEW.out
  have hb2 := hb1.trans ((ba1 w1 (.cells (svC tb sd0.hs) 99)).mono hb1.size)
  have hf0 : f 0 = none := by
    rcases e : f 0 with _ | q
    · rfl
    · have := hf 0 (by rw [e]; simp); omega
  have hfB : f w1.heap.size = none := by
    rcases e : f w1.heap.size with _ | q
    · rfl
    · have := htr.lt _ (by rw [e]; simp : f w1.heap.size ≠ none); omega
  have hz := hb1.size
  refine ⟨w1.heap.size, rfl, Lib.hid ⟨hb2, hz, f, p, ⟨⟨tb, bx_new _ _ _, htr.new (ba1 _ _)⟩, hfB, rfl, fun x hx => ?_, (HT.out.only (S := fun _ => False) (only_new hb2) (fun h => h) h0), hf0, by omega, Nat.lt_of_lt_of_le h0 hb2.size⟩, hf⟩⟩
  have hx' : x = pl0 := List.eq_of_mem_replicate hx
  rw [hx']
  exact ⟨Nat.le_refl _, by decide, by decide⟩

/-! ### the play -/
structure Sqv where
  x : Sq
  D : Option Addr
  m : Nat
  d : Nat
def sqS : Shape Sqv := { cells := fun y => [.int .i64 y.x.kd, .int .i64 y.x.mrk, .string (tx y.x.p), .string (tx y.x.q), .int .i64 y.x.how, .int .i64 y.x.han, .int .i64 y.x.a, .int .i64 y.x.c, .slice y.D y.m y.d], size := 9, len := fun _ => rfl, pos := by decide, one := by intro x u hu; simp at hu; rcases hu with rfl | rfl | rfl | rfl | rfl | rfl | rfl | rfl | rfl <;> rfl }
theorem sqInfo : (Tryz.prog.info? 46).map (fun i => (i.zero, i.size, i.bytes)) = some (some (.agg #[.int .i64 0, .int .i64 0, .string ⟨#[]⟩, .string ⟨#[]⟩, .int .i64 0, .int .i64 0, .int .i64 0, .int .i64 0, .slice none 0 0]), sqS.size, 104) := by kernel_rfl
/-- the requests' bytes lie where they say -/
def SqIn (w : World) (l : List Sqv) : Prop := ∀ y ∈ l, Ls byS w y.D y.x.data ∧ y.x.data.length = y.m ∧ ∀ z ∈ y.x.data, 0 ≤ z ∧ z ≤ 255
theorem SqIn.below {w w' : World} {l : List Sqv} (h : SqIn w l) (hb : Below w.heap.size w w') : SqIn w' l := fun x hx => by
  obtain ⟨h1, h2⟩ := h x hx
  exact ⟨h1.below hb, h2⟩
/-- the lists of the replies lie where they say, and in none of S -/
def RvI (w : World) (S : Nat → Prop) (l : List Rv) : Prop := ∀ x ∈ l, (x.r.data.length = x.n ∧ Ls byS w x.A x.r.data ∧ Clear (fun k => S k ∨ w.heap.size ≤ k) x.A) ∧ (x.r.names.length = x.m ∧ Ls stS w x.N x.r.names ∧ Clear (fun k => S k ∨ w.heap.size ≤ k) x.N)
theorem RvI.only {w w' : World} {S S' T : Nat → Prop} {l : List Rv} (h : RvI w S l) (ho : Only S' w w') (hS : ∀ k, S' k → S k ∨ w.heap.size ≤ k) (hT : ∀ k, T k → S k ∨ w.heap.size ≤ k) : RvI w' T l := fun x hx => by
  obtain ⟨⟨h1, h2, h3⟩, h4, h5, h6⟩ := h x hx
  have hm : ∀ k, (T k ∨ w'.heap.size ≤ k) → S k ∨ w.heap.size ≤ k := fun k hk => by
    rcases hk with hk | hk
    · exact hT k hk
    · exact .inr (Nat.le_trans ho.size hk)
  exact ⟨⟨h1, Cs.only h2 ho (h3.mono hS), h3.mono hm⟩, h4, Cs.only h5 ho (h6.mono hS), h6.mono hm⟩
theorem RvI.app {w : World} {S : Nat → Prop} {l : List Rv} {x : Rv} (h : RvI w S l) (hx : RvOwn w 0 x) (hS : ∀ k, S k → ¬ RvB x k) : RvI w S (l ++ [x]) := fun y hy => by
  rcases List.mem_append.1 hy with hy | hy
  · exact h y hy
  · simp at hy; subst hy
    refine ⟨⟨hx.1.1, hx.1.ls, fun a ha g => ?_⟩, hx.2.1, hx.2.ls, fun a ha g => ?_⟩
    · have hb : (Value.slice y.A y.n y.c).ownBlock = some a.block := by rw [ha]; rfl
      rcases g with g | g
      · exact hS _ g (.inl hb)
      · have := (hx.1.lt _ hb).2; omega
    · have hb : (Value.slice y.N y.m y.d).ownBlock = some a.block := by rw [ha]; rfl
      rcases g with g | g
      · exact hS _ g (.inr hb)
      · have := (hx.2.lt _ hb).2; omega
/-- what serve.Play answers -/
def RetRp (w : World) (ss : List Sr) (e : Ending) (w' : World) : Prop :=
  ∃ A c l, e = .returned (.tuple #[.slice A ss.length c, .int .i64 0]) ∧ OwnL rvS 39 w' w.heap.size A ss.length c l ∧ l.map Rv.r = ss ∧ RvI w' (fun _ => False) l ∧ Below w.heap.size w w'
theorem svplay_size (L : Option Addr) (n c : Nat) (w : World) (hn : 300 < n) :
    Calls Tryz.prog 11 #[.slice L n c] w fun e w' => e = .returned (.tuple #[.slice none 0 0, .int .i64 1]) ∧ Below w.heap.size w w' := by
  have h3 : (300 : Int) < (n : Int) := by omega
  go_enter Tryz.func11, Tryz.ntmps11
  go_wp2
  go_ret2
  exact ⟨rfl, Below.refl _ _⟩
theorem take_sq {l : List Sqv} {k : Nat} {x : Sqv} (h : l[k]? = some x) : (l.map Sqv.x).take (k + 1) = (l.map Sqv.x).take k ++ [x.x] := by
  rw [List.take_add_one, List.getElem?_map, h]; rfl
theorem stS_len (l : List Sq) : ∀ s, (stS_ s l).T.length ≤ s.T.length + l.length := by
  induction l with
  | nil => intro s; exact Nat.le_refl _
  | cons r l ih => intro s; have h1 := ih (doS s r).1; have h2 := doS_len s r (actT_len s.T); simp only [stS_, List.length_cons]; omega

/-- how far the play has come -/
def SvX (w : World) (n B : Nat) (l : List Sqv) (o i : Value) (wr : World) : Prop :=
  ∃ (k : Nat) (A : Option Addr) (c : Nat) (ts : List Rv) (f : Rl) (p : Nat → Nat), k ≤ n ∧ i = .int .i64 k ∧ o = .slice A k c ∧ OwnL rvS 39 wr w.heap.size A k c ts ∧ ts.map Rv.r = repS sd0 ((l.map Sqv.x).take k) ∧
    SvIs wr B (stS_ sd0 ((l.map Sqv.x).take k)) f p (2 * k) ∧ (∀ b, (f b ≠ none ∨ b = B) → w.heap.size ≤ b ∧ (Value.slice A k c).ownBlock ≠ some b) ∧ RvI wr (fun j => (f j ≠ none ∨ j = B) ∨ (Value.slice A k c).ownBlock = some j) ts ∧ Below w.heap.size w wr

set_option maxRecDepth 100000 in
set_option maxHeartbeats 8000000 in
theorem svplay_ok (L : Option Addr) (n c : Nat) (l : List Sqv) (w : World) (ht : TabAt w) (h0w : 0 < w.heap.size) (hn : n ≤ 300) (hb : Ls sqS w L l) (hl : l.length = n) (hin : SqIn w l) :
    Calls Tryz.prog 11 #[.slice L n c] w (RetRp w (repS sd0 (l.map Sqv.x))) := by
  have HL := Lib.hid hb
  have HN := Lib.hid hl
  have HI := Lib.hid hin
  have HTB := Lib.hid ht
  have h3 : ¬ (300 : Int) < (n : Int) := by omega
  clear hb hl hin ht
  go_enter Tryz.func11, Tryz.ntmps11
  go_upto_region 4 with (go_at_call 26; (refine (svnew_any w HTB.out h0w).mono ?_); rintro e w1 ⟨B, rfl, HNEW⟩)
  go_wp2_with (at_make; refine wpList_makeL (F := rvS) rfl _ _ _ 34 rfl _ 88 Tryz.underlying34 rvInfo w.heap.size _ _ _ n rfl rfl rfl (by omega) (by omega) (by have := HNEW.out.1.size; omega) ?_; intro w2 ho2 hb2 hs2; have O2 := Lib.hid ho2; have HB2 := Lib.hid hb2; clear ho2 hb2 hs2)
  obtain ⟨q5, hq5⟩ : ∃ q, q = w1.heap.size := ⟨_, rfl⟩
  rw [← hq5] at O2 ⊢
  have HQ5 := Lib.hid hq5
  clear hq5
  go_loopw [5, 17] (fun o i wr => SvX w n B l o i wr) (fun _ i _ => n - (intOf i).toNat)
  case atStart =>
    obtain ⟨hb1, hBw, f, p, hs, hf⟩ := HNEW.out
    have hlt := hs.lt
    obtain ⟨tb, -, htr⟩ := hs.tree
    have hq := HQ5.out
    refine ⟨0, some ⟨q5, 0, none⟩, n, [], f, p, Nat.zero_le _, rfl, rfl, O2.out, rfl, hs.new HB2.out, fun b hb => ⟨?_, fun e => ?_⟩, fun x hx => (by cases hx), bthen hb1 HB2.out⟩
    · rcases hb with hb | hb
      · exact hf b hb
      · omega
    · injection e with e
      simp only at e
      rcases hb with hb | hb
      · have := htr.lt b hb; omega
      · omega
  case round =>
    obtain ⟨k, A, c', ts, f, p, hk, rfl, rfl, hown, hts, hsv, hsep, hei, hbw⟩ := hrel
    have HOW := Lib.hid hown
    have HTS := Lib.hid hts
    have HSV := Lib.hid hsv
    have HSEP := Lib.hid hsep
    have HEI := Lib.hid hei
    have HBW := Lib.hid hbw
    clear hown hts hsv hsep hei hbw
    by_cases hlt : k < n
    · obtain ⟨x, hx⟩ : ∃ x, l[k]? = some x := ⟨_, List.getElem?_eq_getElem (by rw [HN.out]; exact hlt)⟩
      obtain ⟨bL, oL, rfl, hbl, hcc⟩ := (HL.out.below HBW.out).at k x hx
      have g0 := hcc 0 (.int .i64 x.x.kd) rfl
      have g1 := hcc 1 (.int .i64 x.x.mrk) rfl
      have g2 := hcc 2 (.string (tx x.x.p)) rfl
      have g3 := hcc 3 (.string (tx x.x.q)) rfl
      have g4 := hcc 4 (.int .i64 x.x.how) rfl
      have g5 := hcc 5 (.int .i64 x.x.han) rfl
      have g6 := hcc 6 (.int .i64 x.x.a) rfl
      have g7 := hcc 7 (.int .i64 x.x.c) rfl
      have g8 := hcc 8 (.slice x.D x.m x.d) rfl
      simp only [sqS, Nat.add_zero] at g0 g1 g2 g3 g4 g5 g6 g7 g8
      have hki : (k : Int) < (n : Int) := by omega
      have htk := take_sq hx
      obtain ⟨hi1, hi2, hi3⟩ := HI.out x (List.mem_of_getElem? hx)
      obtain ⟨sk, hsk⟩ : ∃ T, T = stS_ sd0 ((l.map Sqv.x).take k) := ⟨_, rfl⟩
      have HSE : Hid (repS sd0 ((l.map Sqv.x).take (k + 1)) = repS sd0 ((l.map Sqv.x).take k) ++ [(doS sk x.x).2]) := Lib.hid (by rw [htk, repS_app, ← hsk]; rfl)
      have HST : Hid (stS_ sd0 ((l.map Sqv.x).take (k + 1)) = (doS sk x.x).1) := Lib.hid (by rw [htk, stS_app, ← hsk]; rfl)
      have hln : liveN sk.T ≤ 1000000 := by
        have h1 := stS_len ((l.map Sqv.x).take k) sd0
        have h2 : liveN sk.T ≤ sk.T.length := List.length_filter_le _ _
        rw [← hsk] at h1
        have h3 : ((l.map Sqv.x).take k).length ≤ k := by rw [List.length_take]; omega
        have h4 : sd0.T.length = 1 := rfl
        omega
      rw [← hsk] at HSV
      obtain ⟨q7, hq7⟩ : ∃ q, q = wr.heap.size := ⟨_, rfl⟩
      obtain ⟨w6, hw6⟩ : ∃ w6, w6 = wr.alloc (.cells (sqV x.x x.D x.m x.d) 46) := ⟨_, rfl⟩
      have HB6 : Hid (Below wr.heap.size wr w6) := Lib.hid (by rw [hw6]; exact ba1 _ _)
      have HX7 : Hid (Bx 46 w6 q7 (sqV x.x x.D x.m x.d)) := Lib.hid (by rw [hw6, hq7]; exact bx_new _ _ _)
      have HS6 := Lib.hid (HSV.out.new HB6.out)
      have HCALL : Hid (Calls Tryz.prog 27 #[.pointer (some ⟨B, 0, none⟩), .agg (sqV x.x x.D x.m x.d)] w6 (RetSv w6 B f (2 * k + 2) (doS sk x.x))) := Lib.hid (by
        refine svdo_any w6 B (2 * k) sk f p HS6.out (by omega) hln x.x x.D x.m x.d ((hi1.below HBW.out).below HB6.out) hi2 (fun h0 a ha hfa => ?_) hi3
        rcases hi1 with hz | ⟨b, o', e, hlt2, -⟩
        · have hd0 : x.x.data = [] := by
            rcases hdz : x.x.data with _ | ⟨z, zt⟩
            · rfl
            · rw [hdz] at hz; simp [Shape.flat, byS] at hz
          rw [hd0] at hi2; simp at hi2; omega
        · rw [ha] at e; injection e with e; subst e
          have := (HSEP.out _ (.inl hfa)).1
          simp only at this; omega)
      clear hcc hx hi1 hi2 hi3 hln htk hsk
      go_upto_region 8 with fail
      have hw6' := hw6
      unfold sqV at hw6'
      rw [← hw6', ← hq7]
      clear hw6 hw6' hq7 g0 g1 g2 g3 g4 g5 g6 g7 g8
      have hx7 := HX7.out
      unfold sqV at hx7 HCALL
      have a0 := hx7.cell 0 _ rfl
      have a1 := hx7.cell 1 _ rfl
      have a2 := hx7.cell 2 _ rfl
      have a3 := hx7.cell 3 _ rfl
      have a4 := hx7.cell 4 _ rfl
      have a5 := hx7.cell 5 _ rfl
      have a6 := hx7.cell 6 _ rfl
      have a7 := hx7.cell 7 _ rfl
      have a8 := hx7.cell 8 _ rfl
      have hq7l := hx7.lt
      clear hx7
      go_wp2_with (first
        | (go_at_call 27; (with_reducible refine HCALL.out.mono ?_); rintro e w7 ⟨y, f7, p7, hy1, rfl, hy2, hy3, hy4, hy5, hy6⟩; have HY1 := Lib.hid hy1; have HY2 := Lib.hid hy2; have HY3 := Lib.hid hy3; have HY4 := Lib.hid hy4; have HY5 := Lib.hid hy5; have HY6 := Lib.hid hy6; unfold rvV; clear hy1 hy2 hy3 hy4 hy5 hy6 a0 a1 a2 a3 a4 a5 a6 a7 a8 hq7l)
        | (at_builtin; refine wpList_appL (F := rvS) rfl _ (.tmp 21) (.tmp 25) 34 rfl _ 88 Tryz.underlying34 rvInfo rfl w.heap.size A k c' ts rfl (((HOW.out.below HB6.out).keep (fun g hg => HY4.out.block g ((HOW.out.below HB6.out).lt g hg).2 (fun hs => (HSEP.out g hs).2 hg))).below (ba1 _ _)) (some ⟨w7.heap.size, 0, none⟩) 1 1 [y] rfl (ls_new w7 _ _ _ rfl _ rfl) rfl (k + 1) rfl (by omega) (by omega) (by have := HY4.out.size; have := HB6.out.size; have := HBW.out.size; simp; omega) ?_; intro A8 c8 w8 ho8 hb8 hs8; have HO8 := Lib.hid ho8; have HB8 := Lib.hid hb8; have HS8 := Lib.hid hs8; clear ho8 hb8 hs8))
      have z1 := HBW.out.size
      have z2 := HB6.out.size
      have z3 := HY4.out.size
      have hrow6 := fun j (hj : (Value.slice A k c').ownBlock = some j) => ((HOW.out.below HB6.out).lt j hj).2
      have hx8 : Only (fun j => (Value.slice A k c').ownBlock = some j) w7 w8 := (only_new (ba1 w7 _)).trans (T := fun j => (Value.slice A k c').ownBlock = some j) (HS8.out.only HB8.out) (fun j hj => .inl hj)
      have hf7 : ∀ b, (f7 b ≠ none ∨ b = B) → w.heap.size ≤ b ∧ (Value.slice A k c').ownBlock ≠ some b := fun b hb => by
        rcases hb with hb | hb
        · rcases HY5.out b hb with g | g
          · exact HSEP.out b (.inl g)
          · exact ⟨by omega, fun e => by have := hrow6 b e; omega⟩
        · exact HSEP.out b (.inr hb)
      have hlt7 : ∀ b, (f7 b ≠ none ∨ b = B) → b < w7.heap.size := fun b hb => by
        rcases hb with hb | hb
        · obtain ⟨tb, -, htr⟩ := HY3.out.tree; exact htr.lt b hb
        · rw [hb]; exact HY3.out.lt
      have hown8 : ∀ j, (Value.slice A8 (k + 1) c8).ownBlock = some j → (Value.slice A k c').ownBlock = some j ∨ w7.heap.size ≤ j := fun j hj => by
        rcases HS8.out.own j hj with g | g
        · exact .inl g
        · exact .inr (by simp at g; omega)
      refine ⟨⟨k + 1, A8, c8, ts ++ [y], f7, p7, by omega, by go_num, rfl, HO8.out, ?_, ?_, ?_, ?_, ?_⟩, by simp [intOf]; omega⟩
      · rw [List.map_append, HTS.out, HSE.out, ← HY1.out]; rfl
      · rw [HST.out]
        refine HY3.out.only hx8 (fun b hb => ?_)
        refine ⟨?_, fun e => (hf7 b (.inr e)).2 hb, fun e => ?_⟩
        · rcases hfb : f7 b with _ | r
          · rfl
          · exact absurd hb (hf7 b (.inl (by rw [hfb]; simp))).2
        · have := (HOW.out.lt b hb).1; omega
      · intro b hb
        refine ⟨(hf7 b hb).1, fun e => ?_⟩
        rcases hown8 b e with g | g
        · exact (hf7 b hb).2 g
        · have := hlt7 b hb; omega
      · have h7 : RvI w7 (fun j => (f7 j ≠ none ∨ j = B) ∨ (Value.slice A k c').ownBlock = some j) ts := by
          refine (HEI.out.only (S' := fun _ => False) (T := fun j => (f j ≠ none ∨ j = B) ∨ (Value.slice A k c').ownBlock = some j) (only_new HB6.out) (fun _ h => h.elim) (fun j hj => .inl hj)).only HY4.out (fun j hj => .inl (.inl hj)) (fun j hj => ?_)
          rcases hj with (hj | hj) | hj
          · rcases HY5.out j hj with g | g
            · exact .inl (.inl (.inl g))
            · exact .inr g
          · exact .inl (.inl (.inr hj))
          · exact .inl (.inr hj)
        have h7y : RvI w7 (fun j => (f7 j ≠ none ∨ j = B) ∨ (Value.slice A k c').ownBlock = some j) (ts ++ [y]) := h7.app (HY2.out.base (Nat.zero_le _)) (fun j hj hs => by
          rcases hj with (hj | hj) | hj
          · exact HY6.out j hj hs
          · have h1 := (HY2.out.lt j hs).1
            have h2 := HS6.out.lt
            omega
          · have := (HY2.out.lt j hs).1; have := hrow6 j hj; omega)
        refine h7y.only hx8 (fun j hj => .inl (.inr hj)) (fun j hj => ?_)
        rcases hj with hj | hj
        · exact .inl (.inl hj)
        · rcases hown8 j hj with g | g
          · exact .inl (.inr g)
          · exact .inr g
      · refine (bthen HBW.out HB6.out).trans ((HY4.out.below (B := w.heap.size) (fun j hj => (HSEP.out j hj).1) (by omega)).trans (hx8.below (B := w.heap.size) (fun j hj => ?_) (by omega)))
        exact (HOW.out.lt j hj).1
    · obtain rfl : k = n := by omega
      have hki : ¬ (k : Int) < (k : Int) := by omega
      have hall : (l.map Sqv.x).take k = l.map Sqv.x := List.take_of_length_le (by rw [List.length_map, HN.out]; exact Nat.le_refl _)
      rw [hall] at HTS
      have hlen : Hid ((repS sd0 (l.map Sqv.x)).length = k) := Lib.hid (by rw [repS_len, List.length_map, HN.out])
      go_wp2_with fail
      go_ret2
      exact ⟨A, c', ts, by rw [hlen.out]; rfl, by rw [hlen.out]; exact HOW.out, HTS.out, HEI.out.only (Only.refl (fun _ => False) _) (fun _ h => h.elim) (fun _ h => h.elim), HBW.out⟩

end Go.Proofs.YthjpighlcalocaaGreatDoor
