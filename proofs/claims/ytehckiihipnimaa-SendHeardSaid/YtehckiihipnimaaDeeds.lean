/-
  Contract of packthreadkeep.Deeds.
-/
import Derived.Test.YtehckiihipnimaaWish
import Derived.Test.YtehckiihipnimaaBox5
import Derived.Deep.DeepCutAuto
import Derived.Deep.CutBlock
import Derived.Deep.RegionHeld3
import Derived.BigQuiet
import Derived.BigRegion
import Derived.RegionTactic
import Derived.Laws.NewBlocks
namespace Go.Proofs.Ytehckiihipnimaa
open Go.RowKit
set_option linter.unusedVariables false
set_option linter.unusedSimpArgs false

theorem tdiv_ok {a k : Int} (hk : 1 ≤ k) (h : i64ok a) : i64ok (a.tdiv k) := by
  obtain ⟨h1, h2⟩ := h
  have hd : ∀ b : Int, 0 ≤ b → 0 ≤ b / k ∧ b / k ≤ b := fun b hb => ⟨Int.ediv_nonneg hb (by omega), Int.ediv_le_self k hb⟩
  rcases Int.le_total 0 a with h0 | h0
  · rw [Int.tdiv_eq_ediv_of_nonneg h0]
    have := hd a h0
    exact ⟨by omega, by omega⟩
  · have e : a.tdiv k = -((-a).tdiv k) := by rw [Int.neg_tdiv, Int.neg_neg]
    rw [e, Int.tdiv_eq_ediv_of_nonneg (by omega)]
    have := hd (-a) (by omega)
    exact ⟨by omega, by omega⟩
theorem wrap_ok {a : Int} (h : i64ok a) : IntKind.i64.wrap a = a := by
  obtain ⟨h1, h2⟩ := h
  rw [IntKind.wrap_i64]
  omega
/-- a deed lies in the box q -/
def DdX (w : World) (q m : Nat) (p : Value) (wx : World) : Prop :=
  ∃ x : Dv, p = .pointer (some ⟨q, 0, none⟩) ∧ Bx 39 wx q #[.int .i64 x.d.kind, .slice x.A x.n x.c, .int .i64 x.d.ack, .int .i64 x.d.win, .slice x.S x.m x.e] ∧ DEI1 wx (fun k => k ≤ q) x ∧ Tame m x.d ∧ Below w.heap.size w wx
theorem ddX_plain {w w6 : World} {q m : Nat} (k : Int) (h1 : 1 ≤ k) (h5 : k ≤ 5) (hx : Bx 39 w6 q #[.int .i64 k, .slice none 0 0, .int .i64 0, .int .i64 0, .slice none 0 0]) (hb : Below w.heap.size w w6) : DdX w q m (.pointer (some ⟨q, 0, none⟩)) w6 :=
  ⟨⟨⟨k, [], 0, 0, []⟩, none, 0, 0, none, 0, 0⟩, rfl, hx, ⟨Ls.nil _ _, rfl, Ls.nil _ _, rfl, by simp, by simp, Clear.none _, Clear.none _⟩, ⟨h1, h5, by simp, by simp, by simp, by simp, by simp, by simp, by simp⟩, hb⟩

def DdsI (w : World) (n m : Nat) (sent : Nat) (o i : Value) (wr : World) : Prop :=
  ∃ (k : Nat) (A : Option Addr) (c : Nat) (xs : List Dv), k ≤ n ∧ k ≤ m ∧ i = .int .i64 k ∧ o = .slice A k c ∧ OwnL deS 39 wr w.heap.size A k c xs ∧ DEI wr (fun j => (Value.slice A k c).ownBlock = some j) xs ∧ (∀ x ∈ xs, Tame sent x.d) ∧ Below w.heap.size w wr
def RetDs (w : World) (m sent : Nat) (e : Ending) (w' : World) : Prop :=
  ∃ k A c xs, e = .returned (.slice A k c) ∧ k ≤ m ∧ OwnL deS 39 w' w.heap.size A k c xs ∧ DEI w' (fun j => (Value.slice A k c).ownBlock = some j) xs ∧ (∀ x ∈ xs, Tame sent x.d) ∧ Below w.heap.size w w'

set_option maxRecDepth 100000 in
set_option maxHeartbeats 4000000 in
theorem deeds_any (L : Option Addr) (n c m sent : Nat) (l : List Wv) (w : World) (hb : Ls whS w L l) (hl : l.length = n) (hin : WIn w l) (hn : n ≤ 100000000000000) (hm : m ≤ 300) (hs : sent ≤ 1000) :
    Calls Try.prog 21 #[.slice L n c, .int .i64 m, .int .i64 sent] w (RetDs w m sent) := by
  have HL := Lib.hid hb
  have HN := Lib.hid hl
  have HI := Lib.hid hin
  clear hb hl hin
  go_enter Try.func21, Try.ntmps21
  go_wp2
  go_loopw [7, 8] (fun o i wr => DdsI w n m sent o i wr) (fun _ i _ => n - (intOf i).toNat)
  case atStart => exact ⟨0, none, 0, [], Nat.zero_le _, Nat.zero_le _, rfl, rfl, OwnL.nil _ _, fun x hx => by (cases hx), fun x hx => by (cases hx), Below.refl _ _⟩
  case round =>
    obtain ⟨k, A, c', xs, hk, hkm, rfl, rfl, hown, hei, hta, hbw⟩ := hrel
    have HOW := Lib.hid hown
    have HEI := Lib.hid hei
    have HTA := Lib.hid hta
    have HBW := Lib.hid hbw
    clear hown hei hta hbw
    by_cases hlt : k < n
    · have hki : decide ((k : Int) < (n : Int)) = true := by simp; omega
      by_cases hltm : k < m
      · have hkm2 : decide ((k : Int) < (m : Int)) = true := by simp; omega
        obtain ⟨x, hx⟩ : ∃ x, l[k]? = some x := ⟨_, List.getElem?_eq_getElem (by rw [HN.out]; exact hlt)⟩
        obtain ⟨bL, oL, rfl, hbl, hcc⟩ := (HL.out.below HBW.out).at k x hx
        obtain ⟨hd1, hd2, hd3, hd4, hd5, hd6, hd7⟩ := HI.out x (List.mem_of_getElem? hx)
        have g0 := hcc 0 (.int .i64 x.kind) rfl
        have g1 := hcc 1 (.slice x.A x.n x.c) rfl
        have g2 := hcc 2 (.int .i64 x.a) rfl
        have g3 := hcc 3 (.int .i64 x.b) rfl
        simp only [whS, Nat.add_zero] at g0 g1 g2 g3
        obtain ⟨kd, hkd, hkd12⟩ := pick_nat x.kind 12 (by omega)
        obtain ⟨q9, hq9⟩ : ∃ q, q = wr.heap.size := ⟨_, rfl⟩
        obtain ⟨w6, hw6⟩ : ∃ w6, w6 = wr.alloc (.cells #[.int .i64 3, .slice none 0 0, .int .i64 0, .int .i64 0, .slice none 0 0] 39) := ⟨_, rfl⟩
        have HB6 : Hid (Below wr.heap.size wr w6) := Lib.hid (by rw [hw6]; exact ba1 _ _)
        have HX9 : Hid (Bx 39 w6 q9 #[.int .i64 3, .slice none 0 0, .int .i64 0, .int .i64 0, .slice none 0 0]) := Lib.hid (by rw [hw6, hq9]; exact bx_new _ _ _)
        have HQ9 := Lib.hid hq9
        have HS6 : Hid (w6.heap.size = q9 + 1) := Lib.hid (by rw [hw6, hq9]; simp)
        have hd5a := hd5.1
        have hd5b := hd5.2
        have HD1 : Hid (Ls byS w6 x.A x.data) := Lib.hid ((hd1.below HBW.out).below HB6.out)
        have HD2 := Lib.hid hd2
        have HD6 := Lib.hid hd6
        have HD7 := Lib.hid hd7
        clear hcc hx hd1 hd2 hd5 hd6 hd7
        go_upto_region 6 with fail
        rw [← hw6, ← hq9]
        have k0 := (HB6.out.cell (p := ⟨bL, oL + k * 4, none⟩) hbl).trans g0
        have k1 := (HB6.out.cell (p := ⟨bL, oL + k * 4 + 1, none⟩) hbl).trans g1
        have k2 := (HB6.out.cell (p := ⟨bL, oL + k * 4 + 2, none⟩) hbl).trans g2
        have k3 := (HB6.out.cell (p := ⟨bL, oL + k * 4 + 3, none⟩) hbl).trans g3
        have hbl6 := Nat.lt_of_lt_of_le hbl HB6.out.size
        have hbq : ¬ bL = q9 := by omega
        have hqb : ¬ q9 = bL := by omega
        clear hw6 g0 g1 g2 g3 hbl hq9
        go_upto_block 2 with (go_at_call 20; (with_reducible refine (picked_n x.kind 12 kd _ hkd hd5a hd5b (by omega) (by omega)).mono ?_); rintro e w' ⟨rfl, rfl⟩)
        have p0 := HX9.out.cell 0 (.int .i64 3) rfl
        have p1 := HX9.out.cell 1 (.slice none 0 0) rfl
        have p2 := HX9.out.cell 2 (.int .i64 0) rfl
        have p3 := HX9.out.cell 3 (.int .i64 0) rfl
        have p4 := HX9.out.cell 4 (.slice none 0 0) rfl
        have y0 := HX9.out.soft 0
        have y1 := HX9.out.soft 1
        have y2 := HX9.out.soft 2
        have y3 := HX9.out.soft 3
        have y4 := HX9.out.soft 4
        have lq := HX9.out.lt
        go_cut [9] (fun p wx => DdX wr q9 sent p wx)
        case first =>
          by_cases h01 : kd = 0 ∨ kd = 1
          · obtain ⟨mm, hmm⟩ : ∃ q, q = min x.n 90 := ⟨_, rfl⟩
            have hmm1 : mm ≤ 90 := by omega
            have HMM := Lib.hid hmm
            clear hmm p0 p1 p2 p3 p4 y0 y1 y2 y3 y4
            rcases h01 with h01 | h01
            all_goals
              subst h01
              go_wp2_with (go_at_call 24; refine (octets_any x.A x.n x.c 90 mm x.data w6 HD1.out HD2.out hd3 (by omega) (by omega) HMM.out).mono ?_; rintro e w7 ⟨A7, c7, rfl, ho7, hb7⟩; have HO7 := Lib.hid ho7; have HB7 := Lib.hid hb7; have hx9 := HX9.out.below hb7; have HX97 := Lib.hid hx9; have p0 := hx9.cell 0 (.int .i64 3) rfl; have p1 := hx9.cell 1 (.slice none 0 0) rfl; have p2 := hx9.cell 2 (.int .i64 0) rfl; have p3 := hx9.cell 3 (.int .i64 0) rfl; have p4 := hx9.cell 4 (.slice none 0 0) rfl; have y0 := hx9.soft 0; have y1 := hx9.soft 1; have y2 := hx9.soft 2; have y3 := hx9.soft 3; have y4 := hx9.soft 4; have lq7 := hx9.lt; clear ho7 hb7 hx9)
              go_meet
              have hs6 := HS6.out
              have hown7 := HO7.out.lt
              have ho8 := HO7.out.only (only_put5 w7 q9 (.int .i64 1) (.slice A7 mm c7) (.int .i64 0) (.int .i64 0) (.slice none 0 0)) (fun k hk hs => by have := (hown7 k hk).1; omega)
              have hsz := (only_put5 w7 q9 (.int .i64 1) (.slice A7 mm c7) (.int .i64 0) (.int .i64 0) (.slice none 0 0)).size
              refine ⟨⟨⟨1, x.data.take mm, 0, 0, []⟩, A7, mm, c7, none, 0, 0⟩, rfl, HX97.out.put5 (.int .i64 1) (.slice A7 mm c7) (.int .i64 0) (.int .i64 0) (.slice none 0 0), ⟨ho8.ls, ho8.1, Ls.nil _ _, rfl, by simp only; omega, by simp, clear_of_own ho8.2 (fun k hk => hk.imp (fun g => by omega) id), Clear.none _⟩, ⟨by simp, by simp, by simp only; rw [HO7.out.1]; exact hmm1, by simp, by simp, by simp, by simp, by simp, by simp⟩, ?_⟩
              have hq := HQ9.out
              exact (bthen HB6.out HB7.out).trans ((only_put5 w7 q9 (.int .i64 1) (.slice A7 mm c7) (.int .i64 0) (.int .i64 0) (.slice none 0 0)).below (B := wr.heap.size) (fun j hj => by omega) (by have := HB6.out.size; have := HB7.out.size; omega))
          · by_cases h24 : kd = 2 ∨ kd = 3 ∨ kd = 4
            · obtain ⟨pa, hpa, hpa2⟩ := pick_nat x.a ((sent : Int) + 1) (by omega)
              obtain ⟨pb, hpb, hpb2⟩ := pick_nat x.b 200 (by omega)
              have hwr : IntKind.i64.wrap ((sent : Int) + 1) = (sent : Int) + 1 := by rw [IntKind.wrap_i64]; omega
              have a6a := HD6.out.1
              have a6b := HD6.out.2
              have a7a := HD7.out.1
              have a7b := HD7.out.2
              rcases h24 with h24 | h24 | h24
              all_goals
                subst h24
                go_upto_region 13 with fail
                go_cut [9] (fun p wx => p = .pointer (some ⟨q9, 0, none⟩) ∧ Bx 39 wx q9 #[.int .i64 2, .slice none 0 0, .int .i64 pa, .int .i64 pb, .slice none 0 0] ∧ Only (fun k => k = q9) w6 wx)
                case first =>
                  go_region_law (first
                    | (go_simp; go_at_call 20; (with_reducible refine (picked_n x.a ((sent : Int) + 1) pa _ hpa a6a a6b (by omega) (by omega)).mono ?_); rintro e w' ⟨rfl, rfl⟩)
                    | (go_simp; go_at_call 20; (with_reducible refine (picked_n x.b 200 pb _ hpb a7a a7b (by omega) (by omega)).mono ?_); rintro e w' ⟨rfl, rfl⟩))
                  all_goals
                    go_wp2_with fail
                    go_meet
                    exact ⟨rfl, (HX9.out.put5 (.int .i64 2) (.slice none 0 0) (.int .i64 pa) (.int .i64 pb) (.slice none 0 0)).below (Below.refl _ _).drew, (only_put5 w6 q9 (.int .i64 2) (.slice none 0 0) (.int .i64 pa) (.int .i64 pb) (.slice none 0 0)).drew⟩
                case rest =>
                  obtain ⟨rfl, hx9, hon⟩ := hcut
                  have k2' := (World.cell?_of_block (a := ⟨bL, oL + k * 4 + 2, none⟩) (hon.block bL hbl6 hbq)).trans k2
                  have k3' := (World.cell?_of_block (a := ⟨bL, oL + k * 4 + 3, none⟩) (hon.block bL hbl6 hbq)).trans k3
                  have HXc := Lib.hid hx9
                  have HNc := Lib.hid hon
                  have hblc := Nat.lt_of_lt_of_le hbl6 hon.size
                  clear p0 p1 p2 p3 p4 y0 y1 y2 y3 y4 lq hx9 hon k0 k1 k2 k3 hpa hpb
                  have hpa0 : (pa : Int) ≤ sent := by omega
                  have hpb0 : (pb : Int) ≤ 199 := by omega
                  by_cases hb3 : x.b.tmod 3 = 0
                  · have hb3i : (x.b.tmod 3 == 0) = true := by simp [hb3]
                    clear hb3
                    obtain ⟨qa, hqa⟩ : ∃ q, q = x.a.tdiv 7 := ⟨_, rfl⟩
                    obtain ⟨qb, hqb'⟩ : ∃ q, q = x.b.tdiv 7 := ⟨_, rfl⟩
                    have hqaw : i64ok qa := by rw [hqa]; exact tdiv_ok (by omega) HD6.out
                    have hqbw : i64ok qb := by rw [hqb']; exact tdiv_ok (by omega) HD7.out
                    have hwqa := wrap_ok hqaw
                    have hwqb := wrap_ok hqbw
                    have hqa' := hqa.symm
                    have hqb'' := hqb'.symm
                    obtain ⟨r1, hr1⟩ : ∃ r, r = qa % 170 := ⟨_, rfl⟩
                    obtain ⟨r2, hr2⟩ : ∃ r, r = qa % 170 + qb % 30 := ⟨_, rfl⟩
                    have hr0 : 0 ≤ r1 ∧ r1 ≤ 169 ∧ r1 ≤ r2 ∧ r2 ≤ 198 := by omega
                    have HR1 := Lib.hid hr1
                    have HR2 := Lib.hid hr2
                    have HQA := Lib.hid hqaw
                    have HQB := Lib.hid hqbw
                    clear hqa hqb' hqaw hqbw hr1 hr2
                    obtain ⟨wo, hwo⟩ : ∃ wo, wo = wc := ⟨_, rfl⟩
                    subst hwo
                    go_upto_region 15 with fail
                    go_cut [10] (fun p wx => ∃ q10, p = .pointer (some ⟨q10, 0, none⟩) ∧ wo.heap.size ≤ q10 ∧ Bx 44 wx q10 #[.int .i64 r1, .int .i64 r2] ∧ Below wo.heap.size wo wx)
                    case first =>
                      have HW2 : Hid (Below wo.heap.size wo (wo.alloc (.cells #[.int .i64 0, .int .i64 0] 44)).drew) := Lib.hid (ba1 _ _).drew
                      have HW2X : Hid (Bx 44 (wo.alloc (.cells #[.int .i64 0, .int .i64 0] 44)).drew wo.heap.size #[.int .i64 0, .int .i64 0]) := Lib.hid ((bx_new wo _ _).below (Below.refl _ _).drew)
                      go_region_law (first
                        | (go_simp; go_at_call 41; (with_reducible refine (rangeOf_any qa qb r1 r2 wo.drew HR1 HR2 HQA.out HQB.out).mono ?_); rintro e w5 ⟨rfl, hb5⟩; have HB5 : Hid (Below wo.heap.size wo w5) := Lib.hid ((Below.refl _ _).drew.trans hb5); clear hb5)
                        | (go_simp; go_at_call 41; (with_reducible refine (rangeOf_any qa qb r1 r2 (wo.alloc (.cells #[.int .i64 0, .int .i64 0] 44)).drew HR1 HR2 HQA.out HQB.out).mono ?_); rintro e w7 ⟨rfl, hb7⟩; have HX7 := Lib.hid (HW2X.out.below hb7); have HB7 : Hid (Below wo.heap.size wo w7) := Lib.hid (bthen HW2.out hb7); obtain ⟨l7, v0, v1, f0, f1⟩ := Bx.cells2 (show Bx 44 w7 wo.heap.size (i2 0 0) from HX7.out); clear hb7))
                      all_goals
                        go_wp2_with fail
                        go_meet
                        first
                          | exact ⟨w5.heap.size, rfl, HB5.out.size, bx_new w5 _ _, HB5.out.alloc HB5.out.size _⟩
                          | exact ⟨wo.heap.size, rfl, Nat.le_refl _, (HX7.out.set 0 (.int .i64 r1)).set 1 (.int .i64 r2), (HB7.out.setCell (Nat.le_refl _) _).setCell (Nat.le_refl _) _⟩
                    case rest =>
                      obtain ⟨q10, rfl, hq10, hx10, hb10⟩ := hcut
                      have HX10 := Lib.hid hx10
                      have HB10 := Lib.hid hb10
                      have HX9d := Lib.hid (HXc.out.below hb10)
                      have b0 := hx10.cell 0 (.int .i64 r1) rfl
                      have b1 := hx10.cell 1 (.int .i64 r2) rfl
                      have lb := hx10.lt
                      have l9 := HX9d.out.lt
                      have hcs := HXc.out.lt
                      clear hx10 hb10 k2' k3'
                      have p4 := HX9d.out.cell 4 (.slice none 0 0) rfl
                      have y4 := HX9d.out.soft 4
                      have HBt : Hid (Below wr.heap.size wr wc) := Lib.hid ((HB6.out.trans (HNc.out.below (B := wr.heap.size) (fun j hj => by have := HQ9.out; omega) HB6.out.size)).trans (HB10.out.mono (by have := HQ9.out; omega)))
                      by_cases hr12 : r1 < r2
                      · go_wp2_with fail
                        go_meet
                        obtain ⟨wf, hwf⟩ : ∃ wf, wf = wc.setCell ⟨q9, 4, none⟩ (.slice (some ⟨wc.heap.size, 0, none⟩) 1 1) := ⟨_, rfl⟩
                        have hzf : wf.heap.size = wc.heap.size := by rw [hwf]; simp [World.setCell]
                        have hbf : Below wr.heap.size wr wf := by rw [hwf]; exact HBt.out.setCell (by have := HQ9.out; simp only; omega) _
                        have hx11 : Bx 39 wf q9 #[.int .i64 2, .slice none 0 0, .int .i64 pa, .int .i64 pb, .slice (some ⟨wc.heap.size, 0, none⟩) 1 1] := by rw [hwf]; exact HX9d.out.set 4 _
                        rw [← hwf]
                        have hls : Ls rgS (wf.alloc (.cells #[.int .i64 r1, .int .i64 r2] 44)) (some ⟨wc.heap.size, 0, none⟩) [(r1, r2)] := ls_new wf _ _ _ rfl _ hzf.symm
                        refine ⟨⟨⟨2, [], pa, pb, [(r1, r2)]⟩, none, 0, 0, some ⟨wc.heap.size, 0, none⟩, 1, 1⟩, rfl, hx11.below (ba1 _ _), ⟨Ls.nil _ _, rfl, hls, rfl, by simp, by simp, Clear.none _, fun a ha g => ?_⟩, ⟨by simp, by simp, by simp, by simp, hpa0, by simp, hpb0, by simp, fun r hr => ?_⟩, hbf.alloc hbf.size _⟩
                        · cases ha
                          rcases g with g | g
                          · simp only at g; omega
                          · simp only [World.size_alloc] at g; omega
                        · simp at hr; subst hr; exact ⟨by simp only; omega, hr12, by simp only; omega⟩
                      · go_wp2_with fail
                        go_meet
                        exact ⟨⟨⟨2, [], pa, pb, []⟩, none, 0, 0, none, 0, 0⟩, rfl, HX9d.out, ⟨Ls.nil _ _, rfl, Ls.nil _ _, rfl, by simp, by simp, Clear.none _, Clear.none _⟩, ⟨by simp, by simp, by simp, by simp, hpa0, by simp, hpb0, by simp, by simp⟩, HBt.out⟩
                  · have hb3i : (x.b.tmod 3 == 0) = false := by simp [hb3]
                    clear hb3
                    go_wp2_with fail
                    go_meet
                    refine ⟨⟨⟨2, [], pa, pb, []⟩, none, 0, 0, none, 0, 0⟩, rfl, HXc.out, ⟨Ls.nil _ _, rfl, Ls.nil _ _, rfl, by simp, by simp, Clear.none _, Clear.none _⟩, ⟨by simp, by simp, by simp, by simp, hpa0, by simp, hpb0, by simp, by simp⟩, ?_⟩
                    have hq := HQ9.out
                    exact HB6.out.trans (HNc.out.below (B := wr.heap.size) (fun j hj => by omega) HB6.out.size)
            · by_cases h5 : kd = 5
              · subst h5
                go_wp2_with fail
                go_meet
                have hq := HQ9.out
                exact ddX_plain 4 (by omega) (by omega) (HX9.out.put5 (.int .i64 4) (.slice none 0 0) (.int .i64 0) (.int .i64 0) (.slice none 0 0)) (HB6.out.trans ((only_put5 w6 q9 (.int .i64 4) (.slice none 0 0) (.int .i64 0) (.int .i64 0) (.slice none 0 0)).below (B := wr.heap.size) (fun j hj => by omega) HB6.out.size))
              · by_cases h6 : kd = 6
                · subst h6
                  have hkw : IntKind.i64.wrap (k : Int) = (k : Int) := by rw [IntKind.wrap_i64]; omega
                  by_cases hk5 : (k : Int) % 5 = 0
                  · have hk5i : ((k : Int) % 5 == 0) = true := by rw [hk5]; rfl
                    clear hk5
                    go_wp2_with fail
                    go_meet
                    have hq := HQ9.out
                    exact ddX_plain 5 (by omega) (by omega) (HX9.out.put5 (.int .i64 5) (.slice none 0 0) (.int .i64 0) (.int .i64 0) (.slice none 0 0)) (HB6.out.trans ((only_put5 w6 q9 (.int .i64 5) (.slice none 0 0) (.int .i64 0) (.int .i64 0) (.slice none 0 0)).below (B := wr.heap.size) (fun j hj => by omega) HB6.out.size))
                  · have hk5i : ((k : Int) % 5 == 0) = false := beq_eq_false_iff_ne.2 hk5
                    clear hk5
                    go_wp2_with fail
                    go_meet
                    exact ddX_plain 3 (by omega) (by omega) HX9.out HB6.out
                · have hx : kd = 7 ∨ kd = 8 ∨ kd = 9 ∨ kd = 10 ∨ kd = 11 := by omega
                  clear h01 h24 h5 h6
                  rcases hx with rfl | rfl | rfl | rfl | rfl
                  all_goals
                    go_wp2_with fail
                    go_meet
                    exact ddX_plain 3 (by omega) (by omega) HX9.out HB6.out
        case rest =>
          obtain ⟨y, rfl, hxb, hdy, hty, hbc⟩ := hcut
          obtain ⟨wd, hwd⟩ : ∃ wd, wd = wc := ⟨_, rfl⟩
          subst hwd
          have HXB := Lib.hid hxb
          have HDY := Lib.hid hdy
          have HTY := Lib.hid hty
          have HBC := Lib.hid hbc
          have hsq : wr.heap.size = q9 := HQ9.out.symm
          have HSQ := Lib.hid hsq
          have b0 := hxb.cell 0 (.int .i64 y.d.kind) rfl
          have b1 := hxb.cell 1 (.slice y.A y.n y.c) rfl
          have b2 := hxb.cell 2 (.int .i64 y.d.ack) rfl
          have b3 := hxb.cell 3 (.int .i64 y.d.win) rfl
          have b4 := hxb.cell 4 (.slice y.S y.m y.e) rfl
          have lqd := hxb.lt
          have HOWd : Hid (OwnL deS 39 wd w.heap.size A k c' xs) := Lib.hid (HOW.out.below hbc)
          clear hxb hdy hty hbc hsq p0 p1 p2 p3 p4 y0 y1 y2 y3 y4 lq k0 k1 k2 k3
          go_wp2_with (at_builtin; refine wpList_appL (F := deS) rfl _ (.tmp 95) (.tmp 97) 22 rfl _ 72 Try.underlying22 deInfo rfl w.heap.size A k c' xs rfl (HOWd.out.below (ba1 _ _)) (some ⟨wd.heap.size, 0, none⟩) 1 1 [y] rfl (ls_new wd _ _ _ rfl _ rfl) rfl (k + 1) rfl (by omega) (by omega) (by have := HBC.out.size; have := HBW.out.size; simp; omega) ?_; intro A8 c8 w8 ho8 hb8 hs8; have HO8 := Lib.hid ho8; have HB8 := Lib.hid hb8; have HS8 := Lib.hid hs8; clear ho8 hb8 hs8)
          have hsq := HSQ.out
          refine ⟨⟨k + 1, A8, c8, xs ++ [y], by omega, by omega, by go_num, rfl, HO8.out, ?_, ?_, ?_⟩, by simp [intOf]; omega⟩
          · have h1 : DEI wd (fun j => (Value.slice A k c').ownBlock = some j) (xs ++ [y]) := by
              refine (HEI.out.new HBC.out).app (HDY.out.only (S' := fun _ => False) (Only.refl _ _) (fun _ h => h.elim) (fun j hj => .inl ?_))
              have := (HOW.out.lt j hj).2
              show j ≤ q9
              omega
            exact DEI.only (h1.new (ba1 _ _)) (HS8.out.only HB8.out) (fun j hj => .inl hj) (fun j hj => HS8.out.own j hj)
          · intro z hz
            rcases List.mem_append.1 hz with hz | hz
            · exact HTA.out z hz
            · simp at hz; subst hz; exact HTY.out
          · exact ((HBW.out.trans (HBC.out.mono HBW.out.size)).trans ((ba1 wd _).mono (by have := HBC.out.size; have := HBW.out.size; omega))).trans (HB8.out.mono (Nat.le_refl _))
      · have hkm2 : decide ((k : Int) < (m : Int)) = false := by simp; omega
        go_wp2_with fail
        go_ret
        exact ⟨k, A, c', xs, rfl, hkm, HOW.out, HEI.out, HTA.out, HBW.out⟩
    · have hki : decide ((k : Int) < (n : Int)) = false := by simp; omega
      go_wp2_with fail
      go_ret
      exact ⟨k, A, c', xs, rfl, hkm, HOW.out, HEI.out, HTA.out, HBW.out⟩

end Go.Proofs.Ytehckiihipnimaa
