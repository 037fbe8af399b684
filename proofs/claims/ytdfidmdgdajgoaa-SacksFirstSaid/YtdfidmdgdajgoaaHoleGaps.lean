/-
  Contracts of hole.Gaps and of the document's answer to it.
-/
import Derived.Test.YtdfidmdgdajgoaaHole
namespace Go.Proofs.Ytdfidmdgdajgoaa
open Go.RowKit
set_option linter.unusedVariables false

/-- the gaps from a place on -/
def gapsR : Int → List Rg → List Rg
  | _, [] => []
  | d, x :: t => (d, x.1) :: gapsR x.2 t
theorem gapsR_len : ∀ (l : List Rg) (d : Int), (gapsR d l).length = l.length
  | [], _ => rfl
  | x :: t, d => by simp [gapsR, gapsR_len t]

/-- What a call answers that makes a list of ranges, and an error number. -/
def RetR (W : World) (n : Nat) (l : List Rg) (e : Ending) (w' : World) : Prop :=
  ∃ A c, e = .returned (.tuple #[.slice A n c, .int .i64 0]) ∧ OwnR w' W.heap.size A n c l ∧ Below W.heap.size W w'

theorem ba1 (w : World) (o : Obj) : Below w.heap.size w (w.alloc o) := (Below.refl _ _).alloc (Nat.le_refl _) _
theorem ba2 (w : World) (o p : Obj) : Below w.heap.size w ((w.alloc o).alloc p) := (ba1 w o).alloc (by simp) _

theorem gaps_no (d : Int) (A : Option Addr) (n c : Nat) (l : List Rg) (w : World) (hb : Rs w A l) (hn : l.length = n) (h47 : n ≤ 140737488355328) (hm : mayB d l = false) :
    Calls Try.prog 18 #[.int .i64 d, .slice A n c] w fun e w' => e = .returned (.tuple #[.slice none 0 0, .int .i64 4]) ∧ Below w.heap.size w w' := by
  have HB := Lib.hid hb
  have HN := Lib.hid hn
  have HM := Lib.hid hm
  clear hb hn hm
  go_enter Try.func18, Try.ntmps18
  go_wp2_with (go_at_call 11; refine (may_any d A n c l _ HB.out HN.out h47).mono ?_; rw [HM.out]; rintro e w1 ⟨rfl, hb1⟩)
  go_ret2
  exact ⟨by simp, hb1⟩

theorem refGaps_no (d : Int) (A : Option Addr) (n c : Nat) (l : List Rg) (w : World) (hb : Rs w A l) (hn : l.length = n) (h47 : n ≤ 140737488355328) (hm : mayB d l = false) :
    Calls Try.prog 19 #[.int .i64 d, .slice A n c] w fun e w' => e = .returned (.tuple #[.slice none 0 0, .int .i64 4]) ∧ Below w.heap.size w w' := by
  have HB := Lib.hid hb
  have HN := Lib.hid hn
  have HM := Lib.hid hm
  clear hb hn hm
  go_enter Try.func19, Try.ntmps19
  go_wp2_with (go_at_call 12; refine (refMay_any d A n c l _ HB.out HN.out h47).mono ?_; rw [HM.out]; rintro e w1 ⟨rfl, hb1⟩)
  go_ret2
  exact ⟨by simp, hb1⟩

theorem gaps_ok (d : Int) (A : Option Addr) (n c : Nat) (l : List Rg) (w : World) (hb : Rs w A l) (hn : l.length = n) (h47 : n ≤ 16) (hm : mayB d l = true) :
    Calls Try.prog 18 #[.int .i64 d, .slice A n c] w (RetR w n (gapsR d l)) := by
  have HB := Lib.hid hb
  have HN := Lib.hid hn
  have HM := Lib.hid hm
  clear hb hn hm
  go_enter Try.func18, Try.ntmps18
  go_wp2_with (go_at_call 11; refine (may_any d A n c l _ HB.out HN.out (by omega)).mono ?_; rw [HM.out]; rintro e w1 ⟨rfl, hb1⟩)
  go_loopw [6, 7, 17] (fun o z i wr => ∃ (k : Nat) (A3 : Option Addr) (c3 : Nat) (Y : List Rg) (e : Int), k ≤ n ∧ i = .int .i64 k ∧ z = .int .i64 e ∧ o = .slice A3 k c3 ∧ OwnR wr w.heap.size A3 k c3 Y ∧ gapsR d l = Y ++ gapsR e (l.drop k) ∧ Below w.heap.size w wr) (fun _ _ i _ => n - (intOf i).toNat)
  case atStart => exact ⟨0, none, 0, [], d, Nat.zero_le _, rfl, rfl, rfl, OwnR.nil _ _, rfl, hb1⟩
  case round =>
    obtain ⟨k, A3, c3, Y, e, hk, rfl, rfl, rfl, ho3, hy, hb3⟩ := hrel
    have O3 := Lib.hid ho3
    have HY := Lib.hid hy
    clear ho3 hy
    by_cases hlt : k < n
    · obtain ⟨⟨x1, x2⟩, hx, hd⟩ := drop_at l k (by rw [HN.out]; exact hlt)
      obtain ⟨b, o, rfl, hbs, hc1, hc2⟩ := (HB.out.below hb3).at k _ hx
      have HD := Lib.hid hd
      clear hd hx
      simp only at hc1 hc2
      go_wp2_with (at_builtin; refine wpList_appR rfl _ (.tmp 21) (.tmp 26) rfl w.heap.size A3 k c3 Y rfl (O3.out.below (ba2 _ _ _)) _ 1 1 [(e, x1)] rfl (rs_new _ _ _ _ rfl _ (by simp)) rfl (k + 1) rfl (by omega) (by have := hb3.size; simp; omega) ?_; intro A4 c4 w4 ho4 hb4 hs4; have O4 := Lib.hid ho4; have hq1 := hs4.cell ⟨wr.heap.size, 0, none⟩ (by simp; omega) (by intro q hq; have := (O3.out.lt q hq).2; simp only; omega); have hq2 := hs4.cell ⟨wr.heap.size, 1, none⟩ (by simp; omega) (by intro q hq; have := (O3.out.lt q hq).2; simp only; omega); clear ho4 hs4)
      go_roundw
      case rel => exact ⟨k + 1, A4, c4, Y ++ [(e, x1)], x2, by omega, by go_num, rfl, rfl, O4.out, by rw [HY.out, HD.out]; simp [gapsR], ((hb3.alloc hb3.size _).alloc (by have := hb3.size; simp; omega) _).trans hb4⟩
      case measure => simp [intOf]; omega
    · obtain rfl : n = k := by omega
      have HF : Hid (Y = gapsR d l) := Lib.hid (by rw [HY.out, List.drop_eq_nil_of_le (by rw [HN.out]; omega)]; simp [gapsR])
      go_wp2
      go_ret2
      exact ⟨A3, c3, by simp, by rw [← HF.out]; exact O3.out, hb3⟩

theorem refGaps_ok (d : Int) (A : Option Addr) (n c : Nat) (l : List Rg) (w : World) (hb : Rs w A l) (hn : l.length = n) (h47 : n ≤ 16) (hm : mayB d l = true) :
    Calls Try.prog 19 #[.int .i64 d, .slice A n c] w (RetR w n (gapsR d l)) := by
  have HB := Lib.hid hb
  have HN := Lib.hid hn
  have HM := Lib.hid hm
  clear hb hn hm
  go_enter Try.func19, Try.ntmps19
  go_wp2_with (go_at_call 12; refine (refMay_any d A n c l _ HB.out HN.out (by omega)).mono ?_; rw [HM.out]; rintro e w1 ⟨rfl, hb1⟩)
  go_loopw [6, 15] (fun o i wr => ∃ (k : Nat) (A3 : Option Addr) (c3 : Nat) (Y : List Rg), k ≤ n ∧ i = .int .i64 k ∧ o = .slice A3 k c3 ∧ OwnR wr w.heap.size A3 k c3 Y ∧ gapsR d l = Y ++ gapsR (prevTo d l k) (l.drop k) ∧ Below w.heap.size w wr) (fun _ i _ => n - (intOf i).toNat)
  case atStart => exact ⟨0, none, 0, [], Nat.zero_le _, rfl, rfl, OwnR.nil _ _, rfl, hb1⟩
  case round =>
    obtain ⟨k, A3, c3, Y, hk, rfl, rfl, ho3, hy, hb3⟩ := hrel
    have O3 := Lib.hid ho3
    have HY := Lib.hid hy
    clear ho3 hy
    by_cases hlt : k < n
    · obtain ⟨⟨x1, x2⟩, hx, hd⟩ := drop_at l k (by rw [HN.out]; exact hlt)
      obtain ⟨b, o, rfl, hbs, hc1, hc2⟩ := (HB.out.below hb3).at k _ hx
      have HD := Lib.hid hd
      have HX := Lib.hid hx
      clear hd hx
      simp only at hc1 hc2
      obtain ⟨z, hz⟩ : ∃ z, z = prevTo d l k := ⟨_, rfl⟩
      have HP := Lib.hid hz
      clear hz
      have fin : Hid (gapsR d l = (Y ++ [(z, x1)]) ++ gapsR (prevTo d l (k + 1)) (l.drop (k + 1))) := Lib.hid (by rw [HY.out, HD.out, ← HP.out, prevTo_succ d l k _ HX.out]; simp [gapsR])
      rcases Nat.eq_zero_or_pos k with hk0 | hk0
      · subst hk0
        obtain rfl : z = d := HP.out
        simp only [Nat.zero_mul, Nat.add_zero] at hc1 hc2
        go_wp2_with (at_builtin; refine wpList_appR rfl _ (.tmp 27) (.tmp 35) rfl w.heap.size A3 0 c3 Y rfl (O3.out.below (ba1 _ _)) _ 1 1 [(z, x1)] rfl (rs_new _ _ _ _ rfl _ (by simp)) rfl 1 rfl (by omega) (by have := hb3.size; simp; omega) ?_; intro A4 c4 w4 ho4 hb4 hs4; have O4 := Lib.hid ho4; clear ho4 hs4)
        go_roundw
        case rel => exact ⟨1, A4, c4, Y ++ [(z, x1)], by omega, by go_num, rfl, O4.out, fin.out, (hb3.alloc hb3.size _).trans hb4⟩
        case measure => simp [intOf]; omega
      · obtain ⟨⟨y1, y2⟩, hy⟩ := drop_prev d l k _ HX.out hk0
        obtain ⟨b', o', hA, _, hc3, hc4⟩ := (HB.out.below hb3).at (k - 1) _ hy
        obtain ⟨rfl, rfl⟩ : b = b' ∧ o = o' := by injection hA with hA; injection hA with h1 h2 h3; exact ⟨h1, h2⟩
        clear hA
        obtain rfl : z = y2 := by rw [HP.out, show k = (k - 1) + 1 by omega, prevTo_succ d l (k - 1) _ hy]
        clear hy
        simp only at hc3 hc4
        go_wp2_with (at_builtin; refine wpList_appR rfl _ (.tmp 27) (.tmp 35) rfl w.heap.size A3 k c3 Y rfl (O3.out.below (ba1 _ _)) _ 1 1 [(z, x1)] rfl (rs_new _ _ _ _ rfl _ (by simp)) rfl (k + 1) rfl (by omega) (by have := hb3.size; simp; omega) ?_; intro A4 c4 w4 ho4 hb4 hs4; have O4 := Lib.hid ho4; clear ho4 hs4)
        go_roundw
        case rel => exact ⟨k + 1, A4, c4, Y ++ [(z, x1)], by omega, by go_num, rfl, O4.out, fin.out, (hb3.alloc hb3.size _).trans hb4⟩
        case measure => simp [intOf]; omega
    · obtain rfl : n = k := by omega
      have HF : Hid (Y = gapsR d l) := Lib.hid (by rw [HY.out, List.drop_eq_nil_of_le (by rw [HN.out]; omega)]; simp [gapsR])
      go_wp2
      go_ret2
      exact ⟨A3, c3, by simp, by rw [← HF.out]; exact O3.out, hb3⟩

end Go.Proofs.Ytdfidmdgdajgoaa
