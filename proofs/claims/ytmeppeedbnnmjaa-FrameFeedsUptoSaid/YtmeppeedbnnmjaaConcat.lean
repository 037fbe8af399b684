/-
  slices.Grow of nothing, slices.Concat of two lists of bytes.
-/
import Derived.Test.YtmeppeedbnnmjaaLists
import Derived.Test.YtmeppeedbnnmjaaClone
import Derived.Test.YtmeppeedbnnmjaaZeros
namespace Go.Proofs.Ytmeppeedbnnmjaa
open Go.RowKit
set_option linter.unusedVariables false
set_option linter.unusedSimpArgs false

theorem grow_nil (m : Nat) (w : World) (hm : m ≤ 1000000000) :
    Calls Try.prog 22 #[.slice none 0 0, .int .i64 m] w fun e w' => ∃ A c, e = .returned (.slice A 0 c) ∧ OwnL byS 5 w' w.heap.size A 0 c [] ∧ Below w.heap.size w w' := by
  have h0 : ¬ (m : Int) < 0 := by omega
  by_cases hz : m = 0
  · subst hz
    go_enter Try.func22, Try.ntmps22
    go_wp2
    go_ret
    exact ⟨none, 0, rfl, OwnL.nil _ _, Below.refl _ _⟩
  · have h1 : (0 : Int) < (m : Int) := by omega
    go_enter Try.func22, Try.ntmps22
    go_wp2_with (at_builtin; refine wpList_appZ rfl _ (.tmp 20) (.tmp 21) rfl w.heap.size none 0 0 [] rfl (OwnL.nil _ _) _ m rfl (by go_num) (by omega) m (by omega) (by omega) (Nat.le_refl _) ?_; intro A1 c1 w1 ho1 hb1 hs1; have hcp := ho1.cap; have had := ho1.addr; have O1 := Lib.hid (ho1.cut 0 (by omega)); have HB1 := Lib.hid hb1; clear ho1 hb1 hs1; rcases had with ⟨rfl, g1, g2⟩ | ⟨g, rfl, hg⟩)
    · exfalso; omega
    · go_wp2
      go_ret
      exact ⟨some ⟨g, 0, none⟩, c1, rfl, by simpa using O1.out, HB1.out⟩

theorem concat_two (L : Option Addr) (cL : Nat) (A : Option Addr) (n c : Nat) (B : Option Addr) (m d : Nat) (ys zs : List Int) (w : World) (hL : Ls lvS w L [⟨ys, A, n, c⟩, ⟨zs, B, m, d⟩])
    (ha : Ls byS w A ys) (hb : Ls byS w B zs) (hn : ys.length = n) (hm : zs.length = m) (hs : n + m ≤ 1000000000) :
    Calls Try.prog 19 #[.slice L 2 cL] w fun e w' => ∃ A' c', e = .returned (.slice A' (n + m) c') ∧ OwnL byS 5 w' w.heap.size A' (n + m) c' (ys ++ zs) ∧ Below w.heap.size w w' := by
  have HA := Lib.hid ha
  have HB := Lib.hid hb
  have HN := Lib.hid hn
  have HM := Lib.hid hm
  have HL := Lib.hid hL
  obtain ⟨b, o, rfl, hlt, h1⟩ := hL.at 0 _ rfl
  obtain ⟨b', o', hA', -, h2⟩ := hL.at 1 _ rfl
  injection hA' with hA'; injection hA' with e1 e2
  subst e1; subst e2
  have g1 := h1 0 (.slice A n c) rfl
  have g2 := h2 0 (.slice B m d) rfl
  simp only [lvS, Nat.mul_one, Nat.add_zero, Nat.zero_mul] at g1 g2
  clear ha hb hn hm hL h1 h2
  go_enter Try.func19, Try.ntmps19
  go_wp2
  go_loop [3, 11] (fun s i => (s = .int .i64 0 ∧ i = .int .i64 0) ∨ (s = .int .i64 n ∧ i = .int .i64 1) ∨ (s = .int .i64 ((n + m : Nat) : Int) ∧ i = .int .i64 2)) (fun _ i => 2 - (intOf i).toNat)
  case atStart => exact .inl ⟨rfl, rfl⟩
  case round =>
    rcases hrel with ⟨rfl, rfl⟩ | ⟨rfl, rfl⟩ | ⟨rfl, rfl⟩
    · have k0 : ¬ (n : Int) < 0 := by omega
      go_wp2
      go_round
      case rel => exact .inr (.inl ⟨by go_num, by go_num⟩)
      case measure => simp [intOf]
    · have k0 : ¬ (n : Int) + (m : Int) < 0 := by omega
      go_wp2
      go_round
      case rel => exact .inr (.inr ⟨by go_num, by go_num⟩)
      case measure => simp [intOf]
    · go_wp2_with (go_at_call 22; refine (grow_nil (n + m) w hs).mono ?_; rintro e w1 ⟨A1, c1, rfl, ho1, hb1⟩; have HO1 := Lib.hid ho1; have HB1 := Lib.hid hb1; have g1' := (hb1.cell (p := ⟨b, o, none⟩) hlt).trans g1; have g2' := (hb1.cell (p := ⟨b, o + 1, none⟩) hlt).trans g2; clear ho1 hb1 g1 g2)
      go_loopw [6, 27] (fun s i wr => ∃ A2 c2, Below w.heap.size w wr ∧ ((i = .int .i64 0 ∧ s = .slice A2 0 c2 ∧ OwnL byS 5 wr w.heap.size A2 0 c2 []) ∨ (i = .int .i64 1 ∧ s = .slice A2 n c2 ∧ OwnL byS 5 wr w.heap.size A2 n c2 ys) ∨ (i = .int .i64 2 ∧ s = .slice A2 (n + m) c2 ∧ OwnL byS 5 wr w.heap.size A2 (n + m) c2 (ys ++ zs)))) (fun _ i _ => 2 - (intOf i).toNat)
      case atStart => exact ⟨A1, c1, HB1.out, .inl ⟨rfl, rfl, HO1.out⟩⟩
      case round =>
        obtain ⟨A2, c2, hbw, ⟨rfl, rfl, how⟩ | ⟨rfl, rfl, how⟩ | ⟨rfl, rfl, how⟩⟩ := hrel
        · have g1 := (hbw.cell (p := ⟨b, o, none⟩) hlt).trans (((HB1.out.cell (p := ⟨b, o, none⟩) hlt).symm).trans g1')
          have HBW := Lib.hid hbw
          have HOW := Lib.hid how
          clear hbw how g1' g2'
          go_wp2_with (at_builtin; refine wpList_appL (F := byS) rfl _ (.tmp 31) (.tmp 32) 22 rfl _ 1 Try.underlying22 byInfo rfl w.heap.size A2 0 c2 [] rfl HOW.out A n c ys rfl (HA.out.below HBW.out) HN.out n (by omega) (by omega) (by omega) (by have := HBW.out.size; omega) ?_; intro A3 c3 w3 ho3 hb3 hs3; rw [List.nil_append] at ho3; have O3 := Lib.hid ho3; have HB3 : Hid (Below w.heap.size w w3) := Lib.hid (HBW.out.trans hb3); clear ho3 hb3 hs3)
          go_roundw
          case rel => exact ⟨A3, c3, HB3.out, .inr (.inl ⟨by go_num, rfl, O3.out⟩)⟩
          case measure => simp [intOf]
        · have g2 := (hbw.cell (p := ⟨b, o + 1, none⟩) hlt).trans (((HB1.out.cell (p := ⟨b, o + 1, none⟩) hlt).symm).trans g2')
          have HBW := Lib.hid hbw
          have HOW := Lib.hid how
          clear hbw how g1' g2'
          go_wp2_with (at_builtin; refine wpList_appL (F := byS) rfl _ (.tmp 31) (.tmp 32) 22 rfl _ 1 Try.underlying22 byInfo rfl w.heap.size A2 n c2 ys rfl HOW.out B m d zs rfl (HB.out.below HBW.out) HM.out (n + m) (by omega) (by omega) (by omega) (by have := HBW.out.size; omega) ?_; intro A3 c3 w3 ho3 hb3 hs3; have O3 := Lib.hid ho3; have HB3 : Hid (Below w.heap.size w w3) := Lib.hid (HBW.out.trans hb3); clear ho3 hb3 hs3)
          go_roundw
          case rel => exact ⟨A3, c3, HB3.out, .inr (.inr ⟨by go_num, rfl, O3.out⟩)⟩
          case measure => simp [intOf]
        · have HBW := Lib.hid hbw
          have HOW := Lib.hid how
          clear hbw how g1' g2'
          go_wp2
          go_ret
          exact ⟨A2, c2, rfl, HOW.out, HBW.out⟩

end Go.Proofs.Ytmeppeedbnnmjaa
