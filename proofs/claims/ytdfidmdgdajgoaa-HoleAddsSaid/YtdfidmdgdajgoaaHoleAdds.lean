/-
  The walk of HoleAdds.
-/
import Derived.Test.YtdfidmdgdajgoaaHoleRefAdd2
namespace Go.Proofs.Ytdfidmdgdajgoaa
open Go.RowKit
set_option linter.unusedVariables false

theorem add_D (d : Int) (A : Option Addr) (n c : Nat) (l : List Rg) (r1 r2 : Int) (w : World) (hb : Rs w A l) (hn : l.length = n) (hm : mayB d l = true) (hr : 0 ≤ r1 ∧ r1 ≤ r2 ∧ r2 ≤ 1048576)
    (D : Int) (N : Nat) (L : List Rg) (hD : D = addD d l (r1, r2)) (hL : L = addL d l (r1, r2)) (hN : L.length = N) (h16 : N ≤ 16) :
    Calls Try.prog 14 #[.int .i64 d, .slice A n c, .agg #[.int .i64 r1, .int .i64 r2]] w (RetD w D N L) :=
  (refAdd_ok d A n c l (r1, r2) w hb hn hm hr D N L hD hL hN).mono fun e w' h => h.1 h16
theorem add_Dfull (d : Int) (A : Option Addr) (n c : Nat) (l : List Rg) (r1 r2 : Int) (w : World) (hb : Rs w A l) (hn : l.length = n) (hm : mayB d l = true) (hr : 0 ≤ r1 ∧ r1 ≤ r2 ∧ r2 ≤ 1048576)
    (h16 : 16 < (addL d l (r1, r2)).length) :
    Calls Try.prog 14 #[.int .i64 d, .slice A n c, .agg #[.int .i64 r1, .int .i64 r2]] w fun e w' => e = .returned (.tuple #[.int .i64 0, .slice none 0 0, .int .i64 9]) ∧ Below w.heap.size w w' :=
  (refAdd_ok d A n c l (r1, r2) w hb hn hm hr _ _ _ rfl rfl rfl).mono fun e w' h => h.2 h16

theorem walkHoleAdds (d : Int) (A : Option Addr) (n c : Nat) (l : List Rg) (r : Rg) (w : World) (hb : Rs w A l) (hn : l.length = n) (hc : n ≤ c) (hr : c ≤ 8796093021952) :
    Calls Try.prog 4 #[.int .i64 d, .slice A n c, rv r] w fun e w' => e = .returned (.bool true) ∧ Below w.heap.size w w' := by
  obtain ⟨r1, r2⟩ := r
  have HB := Lib.hid hb
  have HN := Lib.hid hn
  clear hb hn
  unfold rv
  simp only
  rcases hm : mayB d l with _ | _
  · have HM := Lib.hid hm
    clear hm
    go_enter Try.func4, Try.ntmps4
    go_wp2_with (first
      | (go_at_call 13; refine (add_form d A n c l (r1, r2) _ (HB.out.below (ba1 _ _)) HN.out (by omega) HM.out).mono ?_; rintro e w1 ⟨rfl, hb1⟩; have hT := (two_new w 25 (r1, r2)).below hb1; have hc0 := hT.c0; have hc1 := hT.c1; have hl := hT.lt; simp only at hc0 hc1; clear hT)
      | (go_at_call 14; refine (refAdd_form d A n c l (r1, r2) _ ((HB.out.below (ba1 _ _)).below hb1) HN.out (by omega) HM.out).mono ?_; rintro e w2 ⟨rfl, hb2⟩)
      | (go_at_call 15; refine (same_law none 0 0 none 0 [] _ (Rs.nil _ _) (Rs.nil _ _) rfl (by omega)).mono ?_; rintro e w3 ⟨rfl, hb3⟩))
    go_ret
    exact ⟨rfl, bthen (bthen (bthen (ba1 _ _) hb1) hb2) hb3⟩
  · have HM := Lib.hid hm
    have h16n : n ≤ 16 := by have := (mayB_to hm).2.2.1; have := HN.out; omega
    clear hm
    by_cases hrr : 0 ≤ r1 ∧ r1 ≤ r2 ∧ r2 ≤ 1048576
    · obtain ⟨D, hD⟩ : ∃ D, D = addD d l (r1, r2) := ⟨_, rfl⟩
      obtain ⟨L, hL⟩ : ∃ L, L = addL d l (r1, r2) := ⟨_, rfl⟩
      obtain ⟨N, hN⟩ : ∃ N, N = L.length := ⟨_, rfl⟩
      have HR := Lib.hid hrr; have HD := Lib.hid hD; have HL := Lib.hid hL; have HNN := Lib.hid hN.symm
      clear hrr hD hL hN
      by_cases h16 : N ≤ 16
      · go_enter Try.func4, Try.ntmps4
        go_wp2_with (first
          | (go_at_call 13; (with_reducible refine (add_fit d A n c l r1 r2 _ (HB.out.below (ba1 _ _)) HN.out HM.out HR.out D N L HD.out HL.out HNN.out h16).mono ?_); rintro e w1 ⟨A1, c1, rfl, ho1, hb1⟩; have O1 := Lib.hid ho1; have hT := (two_new w 25 (r1, r2)).below hb1; have hc0 := hT.c0; have hc1 := hT.c1; have hl := hT.lt; simp only at hc0 hc1; clear hT ho1)
          | (go_at_call 14; (with_reducible refine (add_D d A n c l r1 r2 _ ((HB.out.below (ba1 _ _)).below hb1) HN.out HM.out HR.out D N L HD.out HL.out HNN.out h16).mono ?_); rintro e w2 ⟨A2, c2, rfl, hs2, hb2⟩; have S2 := Lib.hid hs2; clear hs2)
          | (go_at_call 15; (with_reducible refine (same_law A1 N c1 A2 c2 L _ (O1.out.rs.below hb2) S2.out HNN.out (by omega)).mono ?_); rintro e w3 ⟨rfl, hb3⟩))
        go_ret
        exact ⟨rfl, bthen (bthen (bthen (ba1 _ _) hb1) hb2) hb3⟩
      · have HG : Hid (16 < (addL d l (r1, r2)).length) := Lib.hid (by rw [← HL.out, HNN.out]; omega)
        go_enter Try.func4, Try.ntmps4
        go_wp2_with (first
          | (go_at_call 13; (with_reducible refine (add_full d A n c l r1 r2 _ (HB.out.below (ba1 _ _)) HN.out HM.out HR.out HG.out).mono ?_); rintro e w1 ⟨rfl, hb1⟩; have hT := (two_new w 25 (r1, r2)).below hb1; have hc0 := hT.c0; have hc1 := hT.c1; have hl := hT.lt; simp only at hc0 hc1; clear hT)
          | (go_at_call 14; (with_reducible refine (add_Dfull d A n c l r1 r2 _ ((HB.out.below (ba1 _ _)).below hb1) HN.out HM.out HR.out HG.out).mono ?_); rintro e w2 ⟨rfl, hb2⟩)
          | (go_at_call 15; refine (same_law none 0 0 none 0 [] _ (Rs.nil _ _) (Rs.nil _ _) rfl (by omega)).mono ?_; rintro e w3 ⟨rfl, hb3⟩))
        go_ret
        exact ⟨rfl, bthen (bthen (bthen (ba1 _ _) hb1) hb2) hb3⟩
    · have HR := Lib.hid hrr
      clear hrr
      go_enter Try.func4, Try.ntmps4
      go_wp2_with (first
        | (go_at_call 13; refine (add_range d A n c l (r1, r2) _ (HB.out.below (ba1 _ _)) HN.out (by omega) HM.out HR.out).mono ?_; rintro e w1 ⟨rfl, hb1⟩; have hT := (two_new w 25 (r1, r2)).below hb1; have hc0 := hT.c0; have hc1 := hT.c1; have hl := hT.lt; simp only at hc0 hc1; clear hT)
        | (go_at_call 14; refine (refAdd_range d A n c l (r1, r2) _ ((HB.out.below (ba1 _ _)).below hb1) HN.out (by omega) HM.out HR.out).mono ?_; rintro e w2 ⟨rfl, hb2⟩)
        | (go_at_call 15; refine (same_law none 0 0 none 0 [] _ (Rs.nil _ _) (Rs.nil _ _) rfl (by omega)).mono ?_; rintro e w3 ⟨rfl, hb3⟩))
      go_ret
      exact ⟨rfl, bthen (bthen (bthen (ba1 _ _) hb1) hb2) hb3⟩

end Go.Proofs.Ytdfidmdgdajgoaa
