/-
  Contracts of package cong: behind.
-/
import Derived.Test.YtjaaijobdccclaaCong1
namespace Go.Proofs.Ytjaaijobdccclaa
open Go.RowKit
set_option linter.unusedVariables false
set_option linter.unusedSimpArgs false

/-- acks one by one: the state of behind's loop -/
def BhI (w : World) (x : Wd) (n : Int) (i : Value) (wr : World) : Prop :=
  ∃ (k : Nat) (A B C : Int), (k : Int) ≤ n ∧ i = .int .i64 k ∧ (⟨A, B, C⟩ : Wd) = acks k x ∧ Bx 28 wr w.heap.size (i3 A B C) ∧ Bx 35 wr (w.heap.size + 1) (i2 1 n) ∧ Bx 28 wr (w.heap.size + 2) (i3 0 0 0) ∧ Below w.heap.size w wr

theorem bh_store {w w3 : World} {x : Wd} {n : Int} {k : Nat} {A B C A0 B0 C0 : Int} (h1 : Bx 28 w3 w.heap.size (i3 A0 B0 C0)) (h2 : Bx 35 w3 (w.heap.size + 1) (i2 1 n)) (h3 : Bx 28 w3 (w.heap.size + 2) (i3 0 0 0)) (hb : Below w.heap.size w w3) (hk : (k : Int) < n) (hy : (⟨A, B, C⟩ : Wd) = acks (k + 1) x) :
    BhI w x n (.int .i64 ((k : Int) + 1)) (((w3.setCell ⟨w.heap.size, 0, none⟩ (.int .i64 A)).setCell ⟨w.heap.size, 1, none⟩ (.int .i64 B)).setCell ⟨w.heap.size, 2, none⟩ (.int .i64 C)) :=
  ⟨k + 1, A, B, C, by omega, by simp, hy, h1.store3 _ _ _, h2.other3 (by omega) _ _ _, h3.other3 (by omega) _ _ _, below_store3 hb (Nat.le_refl _) _ _ _⟩

set_option maxHeartbeats 1000000 in
theorem behind_acked (x : Wd) (n : Int) (w : World) (hg : Good x) (n0 : 1 ≤ n) (n1 : n ≤ 64) :
    Calls Try.prog 14 #[.agg #[.int .i64 x.win, .int .i64 x.slow, .int .i64 x.again], .agg #[.int .i64 1, .int .i64 n]] w fun e w' => e = .returned (.tuple #[.agg #[.int .i64 (acks n.toNat x).win, .int .i64 (acks n.toNat x).slow, .int .i64 (acks n.toNat x).again], .int .i64 0]) ∧ Below w.heap.size w w' := by
  obtain ⟨a, b, c⟩ := x
  have HN := Lib.hid (three_new w (i3 a b c) (i2 1 n) (i3 0 0 0) 28 35 28)
  have HG := Lib.hid hg
  have HB0 := Lib.hid (ba3 w (.cells (i3 a b c) 28) (.cells (i2 1 n) 35) (.cells (i3 0 0 0) 28))
  clear hg
  simp only
  go_enter Try.func14, Try.ntmps14
  go_wp2
  go_loopw [22] (fun i wr => BhI w ⟨a, b, c⟩ n i wr) (fun i _ => n.toNat - (intOf i).toNat)
  case atStart => exact ⟨0, a, b, c, by omega, rfl, rfl, HN.out.1, HN.out.2.1, HN.out.2.2, HB0.out⟩
  case round =>
    obtain ⟨k, A, B, C, hk, rfl, hy, h1, h2, h3, hb⟩ := hrel
    have HY := Lib.hid hy; have H1 := Lib.hid h1; have H2 := Lib.hid h2; have H3 := Lib.hid h3; have HB := Lib.hid hb
    clear hy h1 h2 h3 hb
    obtain ⟨l1, c10, c11, c12, f10, f11, f12⟩ := H1.out.cells3
    obtain ⟨l2, c20, c21, f20, f21⟩ := H2.out.cells2
    obtain ⟨l3, c30, c31, c32, f30, f31, f32⟩ := H3.out.cells3
    by_cases hlt : (k : Int) < n
    · obtain ⟨A', B', C', hz⟩ : ∃ A' B' C', (⟨A', B', C'⟩ : Wd) = ack1 ⟨A, B, C⟩ := ⟨_, _, _, rfl⟩
      have hgy : Good ⟨A, B, C⟩ := by rw [HY.out]; exact (acks_good k HG.out).1
      have hB : B' = B := by have := (ack1_good hgy).2.2; rw [← hz] at this; exact this
      have HZ : Hid ((⟨A', B, C'⟩ : Wd) = ack1 ⟨A, B, C⟩) := Lib.hid (by rw [← hz, hB])
      have HGY := Lib.hid hgy
      clear hz hB hgy
      go_wp2_with (go_at_call 15; (refine (grown_any A B C A' C' _ HGY.out HZ.out).mono ?_); rintro e w3 ⟨rfl, hb3⟩; have H13 := Lib.hid (H1.out.below hb3); have H23 := Lib.hid (H2.out.below hb3); have H33 := Lib.hid (H3.out.below hb3); have HB3 : Hid (Below w.heap.size w w3) := Lib.hid (bthen HB.out hb3); clear hb3; obtain ⟨l4, c40, c41, c42, f40, f41, f42⟩ := H13.out.cells3)
      exact ⟨bh_store H13.out H23.out H33.out HB3.out hlt (by rw [HZ.out, HY.out]; exact (acks_succ k _).symm), by simp [intOf]; omega⟩
    · obtain rfl : n = k := by omega
      go_wp2
      obtain ⟨wf, hwf⟩ : ∃ wf, wf = (((wr.setCell ⟨w.heap.size + 2, 0, none⟩ (.int .i64 A)).setCell ⟨w.heap.size + 2, 1, none⟩ (.int .i64 B)).setCell ⟨w.heap.size + 2, 2, none⟩ (.int .i64 C)) := ⟨_, rfl⟩
      have hf : Bx 28 wf (w.heap.size + 2) (i3 A B C) := by rw [hwf]; exact H3.out.store3 _ _ _
      have hbf : Below w.heap.size w wf := by rw [hwf]; exact below_store3 HB.out (by omega) _ _ _
      obtain ⟨-, r0, r1, r2, -⟩ := hf.cells3
      rw [← hwf]
      have hy := HY.out
      rw [← hy]
      exact end_ret (v := .tuple #[.agg #[.int .i64 A, .int .i64 B, .int .i64 C], .int .i64 0]) (by simp [results, Try.results14, go_sem, r0, r1, r2]) ⟨rfl, hbf⟩

theorem behind_again (x : Wd) (n : Int) (w : World) (hg : Good x) :
    Calls Try.prog 14 #[.agg #[.int .i64 x.win, .int .i64 x.slow, .int .i64 x.again], .agg #[.int .i64 2, .int .i64 n]] w fun e w' => e = .returned (.tuple #[.agg #[.int .i64 (half x.win), .int .i64 (half x.win), .int .i64 0], .int .i64 0]) ∧ Below w.heap.size w w' := by
  obtain ⟨a, b, c⟩ := x
  have HN := Lib.hid (three_new w (i3 a b c) (i2 2 n) (i3 0 0 0) 28 35 28)
  have HB0 := Lib.hid (ba3 w (.cells (i3 a b c) 28) (.cells (i2 2 n) 35) (.cells (i3 0 0 0) 28))
  obtain ⟨h, hh⟩ : ∃ h, h = half a := ⟨_, rfl⟩
  have HH := Lib.hid hh
  have g0 : 0 ≤ a := by have := hg.w0; simp only at this; omega
  have g1 : a ≤ 64 := hg.w1
  simp only
  rw [← hh]
  clear hg hh
  go_enter Try.func14, Try.ntmps14
  go_wp2_with (go_at_call 16; (refine (halved_any a b c h _ g0 g1 HH.out).mono ?_); rintro e w3 ⟨rfl, hb3⟩; have H33 : Hid (Bx 28 w3 (w.heap.size + 2) (i3 0 0 0)) := Lib.hid (HN.out.2.2.below hb3); have HB3 : Hid (Below w.heap.size w w3) := Lib.hid (bthen HB0.out hb3); clear hb3; obtain ⟨l4, c40, c41, c42, f40, f41, f42⟩ := H33.out.cells3)
  obtain ⟨wf, hwf⟩ : ∃ wf, wf = (((w3.setCell ⟨w.heap.size + 2, 0, none⟩ (.int .i64 h)).setCell ⟨w.heap.size + 2, 1, none⟩ (.int .i64 h)).setCell ⟨w.heap.size + 2, 2, none⟩ (.int .i64 0)) := ⟨_, rfl⟩
  have hf : Bx 28 wf (w.heap.size + 2) (i3 h h 0) := by rw [hwf]; exact H33.out.store3 _ _ _
  have hbf : Below w.heap.size w wf := by rw [hwf]; exact below_store3 HB3.out (by omega) _ _ _
  obtain ⟨-, r0, r1, r2, -⟩ := hf.cells3
  rw [← hwf]
  exact end_ret (v := .tuple #[.agg #[.int .i64 h, .int .i64 h, .int .i64 0], .int .i64 0]) (by simp [results, Try.results14, go_sem, r0, r1, r2]) ⟨rfl, hbf⟩

theorem behind_late (x : Wd) (n : Int) (w : World) (hg : Good x) :
    Calls Try.prog 14 #[.agg #[.int .i64 x.win, .int .i64 x.slow, .int .i64 x.again], .agg #[.int .i64 3, .int .i64 n]] w fun e w' => e = .returned (.tuple #[.agg #[.int .i64 1, .int .i64 (half x.win), .int .i64 0], .int .i64 0]) ∧ Below w.heap.size w w' := by
  obtain ⟨a, b, c⟩ := x
  have HN := Lib.hid (three_new w (i3 a b c) (i2 3 n) (i3 0 0 0) 28 35 28)
  have HB0 := Lib.hid (ba3 w (.cells (i3 a b c) 28) (.cells (i2 3 n) 35) (.cells (i3 0 0 0) 28))
  obtain ⟨h, hh⟩ : ∃ h, h = half a := ⟨_, rfl⟩
  have HH := Lib.hid hh
  have g0 : 0 ≤ a := by have := hg.w0; simp only at this; omega
  have g1 : a ≤ 64 := hg.w1
  simp only
  rw [← hh]
  clear hg hh
  go_enter Try.func14, Try.ntmps14
  go_wp2_with (go_at_call 16; (refine (halved_any a b c h _ g0 g1 HH.out).mono ?_); rintro e w3 ⟨rfl, hb3⟩; have H33 : Hid (Bx 28 w3 (w.heap.size + 2) (i3 0 0 0)) := Lib.hid (HN.out.2.2.below hb3); have HB3 : Hid (Below w.heap.size w w3) := Lib.hid (bthen HB0.out hb3); clear hb3; obtain ⟨l4, c40, c41, c42, f40, f41, f42⟩ := H33.out.cells3)
  obtain ⟨wf, hwf⟩ : ∃ wf, wf = (((w3.setCell ⟨w.heap.size + 2, 0, none⟩ (.int .i64 1)).setCell ⟨w.heap.size + 2, 1, none⟩ (.int .i64 h)).setCell ⟨w.heap.size + 2, 2, none⟩ (.int .i64 0)) := ⟨_, rfl⟩
  have hf : Bx 28 wf (w.heap.size + 2) (i3 1 h 0) := by rw [hwf]; exact H33.out.store3 _ _ _
  have hbf : Below w.heap.size w wf := by rw [hwf]; exact below_store3 HB3.out (by omega) _ _ _
  obtain ⟨-, r0, r1, r2, -⟩ := hf.cells3
  rw [← hwf]
  exact end_ret (v := .tuple #[.agg #[.int .i64 1, .int .i64 h, .int .i64 0], .int .i64 0]) (by simp [results, Try.results14, go_sem, r0, r1, r2]) ⟨rfl, hbf⟩

end Go.Proofs.Ytjaaijobdccclaa
