/-
  packthreadkeep.Part and PathOf.
-/
import Derived.Test.YtdoocbaojmjpaaaDoorKeepMath
import Derived.Test.YtdoocbaojmjpaaaDoorText
import Derived.Test.YtdoocbaojmjpaaaDoorPicked
import Derived.Test.YtdoocbaojmjpaaaDoorInts
import Derived.Test.YtdoocbaojmjpaaaDoorKit
import Derived.Test.YtdoocbaojmjpaaaDoorTool
namespace Go.Proofs.YtdoocbaojmjpaaaDoor
open Go.RowKit
set_option linter.unusedVariables false
set_option linter.unusedSimpArgs false

/-- the part that a number draws -/
def drawn (a : Int) : Byt := table.getD (a % 10).toNat []
theorem drawn_tame (a : Int) : Tame (drawn a) := table_tame _ (by have := Int.emod_lt_of_pos a (show (0 : Int) < 10 by omega); have := Int.emod_nonneg a (show (10 : Int) ≠ 0 by omega); omega)

theorem ten {k : Nat} (h : k < 10) : k = 0 ∨ k = 1 ∨ k = 2 ∨ k = 3 ∨ k = 4 ∨ k = 5 ∨ k = 6 ∨ k = 7 ∨ k = 8 ∨ k = 9 := by omega
set_option maxHeartbeats 2000000 in
theorem part_any (a : Int) (w : World) (h1 : -9223372036854775808 ≤ a) (h2 : a ≤ 9223372036854775807) :
    Calls Tryd.prog 23 #[.int .i64 a] w fun e w' => e = .returned (.string (tx (drawn a))) ∧ Below w.heap.size w w' := by
  obtain ⟨k, HK, hk⟩ := pick_nat a 10 (by omega)
  have hd : drawn a = table.getD k [] := by unfold drawn; rw [← HK.out]; rfl
  rw [hd]
  have HP := Lib.hid (fun wx => picked_n a 10 k wx HK h1 h2 (by omega) (by omega))
  clear HK hd
  rcases ten (k := k) (by omega) with rfl | rfl | rfl | rfl | rfl | rfl | rfl | rfl | rfl | rfl <;>
  · go_enter Tryd.func23, Tryd.ntmps23
    go_wp2_with (go_at_call 17; refine (HP.out _).mono ?_; rintro e w1 ⟨rfl, rfl⟩)
    go_ret
    exact ⟨rfl, ba1 _ _⟩

theorem joinP_snoc : ∀ (l : List Byt) (x : Byt), joinP (l ++ [x]) = joinP l ++ 47 :: x
  | [], x => by simp [joinP]
  | y :: r, x => by simp only [List.cons_append, joinP, joinP_snoc r x, List.append_assoc]
/-- the drawn parts of a list -/
def drawns (l : List Int) (N : Nat) : List Byt := (l.take N).map drawn
theorem drawns_tame (l : List Int) (N : Nat) : Tames (drawns l N) := fun x hx => by
  obtain ⟨a, -, rfl⟩ := List.mem_map.1 hx
  exact drawn_tame a
theorem drawns_len (l : List Int) (N : Nat) : (drawns l N).length ≤ N := by unfold drawns; rw [List.length_map, List.length_take]; omega
theorem drawns_succ {l : List Int} {k : Nat} (h : k < l.length) : drawns l (k + 1) = drawns l k ++ [drawn (l.getD k 0)] := by
  unfold drawns
  rw [List.take_add_one, List.getElem?_eq_getElem h, List.map_append, List.getD_eq_getElem?_getD, List.getElem?_eq_getElem h]; rfl

set_option maxHeartbeats 1000000 in
theorem pathOf_any (A : Option Addr) (n c : Nat) (l : List Int) (N : Nat) (w : World) (hb : Is w A l) (hn : l.length = n) (hN : N ≤ 9) :
    Calls Tryd.prog 13 #[.slice A n c, .int .i64 (N : Int)] w fun e w' => e = .returned (.string (tx (joinP (drawns l N)))) ∧ Below w.heap.size w w' := by
  have HA := Lib.hid hb
  have HN := Lib.hid hn
  clear hb hn
  go_enter Tryd.func13, Tryd.ntmps13
  go_wp2
  go_loopw [5, 6] (fun s i wr => ∃ k : Nat, i = .int .i64 (k : Int) ∧ k ≤ n ∧ k ≤ N ∧ s = .string (tx (joinP (drawns l k))) ∧ Below w.heap.size w wr) (fun _ i _ => N - (intOf i).toNat)
  case atStart => exact ⟨0, rfl, Nat.zero_le _, Nat.zero_le _, rfl, Below.refl _ _⟩
  case round =>
    obtain ⟨k, rfl, hk, hkN, rfl, hbw⟩ := hrel
    have HBW := Lib.hid hbw
    clear hbw
    by_cases hlt : k < n ∧ k < N
    · obtain ⟨g1, g2⟩ := hlt
      have g1i : (k : Int) < (n : Int) := by omega
      have g2i : (k : Int) < (N : Int) := by omega
      obtain ⟨b, o, rfl, hbl, hc, x0, x1⟩ := (HA.out.below HBW.out).at k (l.getD k 0) (by rw [List.getD_eq_getElem?_getD, List.getElem?_eq_getElem (by rw [HN.out]; exact g1)]; rfl)
      have hs := drawns_succ (l := l) (k := k) (by rw [HN.out]; exact g1)
      obtain ⟨x, hx⟩ : ∃ x, l.getD k 0 = x := ⟨_, rfl⟩
      rw [hx] at hc x0 x1 hs
      have HP := Lib.hid (part_any x wr x0 x1)
      have hjl := joinF_len _ (drawns_tame l k)
      have hdl := drawns_len l k
      have htl := (drawn_tame x).2.1
      have HS : Hid (joinP (drawns l (k + 1)) = joinP (drawns l k) ++ 47 :: drawn x) := Lib.hid (by rw [hs, joinP_snoc])
      obtain ⟨J, hJ⟩ : ∃ J, joinP (drawns l k) = J := ⟨_, rfl⟩
      obtain ⟨P, hP⟩ : ∃ P, drawn x = P := ⟨_, rfl⟩
      rw [hJ] at HS hjl ⊢
      rw [hP] at HS htl HP
      have z1 := tx_size P
      have z2 := tx_size J
      have z3 := tx_size (47 :: P)
      have a1 : (⟨#[47]⟩ : ByteArray) ++ tx P = tx (47 :: P) := tx_app [47] P
      have a2 : tx J ++ tx (47 :: P) = tx (J ++ 47 :: P) := tx_app J (47 :: P)
      have q1 : ¬ 9223372036854775807 < 1 + P.length := by omega
      have q2 : ¬ 9223372036854775807 < J.length + (P.length + 1) := by omega
      simp only [List.length_cons] at z3
      clear hs hx hJ hP hdl
      go_wp2_with (go_at_call 23; refine HP.out.mono ?_; rintro e w1 ⟨rfl, hb1⟩; have HB1 := Lib.hid hb1; clear hb1)
      go_roundw
      case rel => exact ⟨k + 1, by simp, by omega, by omega, by rw [HS.out], bthen HBW.out HB1.out⟩
      case measure => simp [intOf]; omega
    · have HE : Hid (drawns l k = drawns l N) := Lib.hid (by
        by_cases h1 : k < n
        · have : k = N := by omega
          rw [this]
        · unfold drawns
          rw [List.take_of_length_le (by rw [HN.out]; omega), List.take_of_length_le (by rw [HN.out]; omega)])
      have hway : ¬ (k : Int) < (n : Int) ∨ ((k : Int) < (n : Int) ∧ ¬ (k : Int) < (N : Int)) := by omega
      rcases hway with g1 | ⟨g1, g2⟩ <;>
      · go_wp2_with fail
        go_ret
        exact ⟨by rw [← HE.out]; rfl, HBW.out⟩

end Go.Proofs.YtdoocbaojmjpaaaDoor
