/-
  packthreadkeep.PathBy: a short path by a number.
-/
import Derived.Test.YthjpighlcalocaaGreatDoorText
import Derived.Test.YthjpighlcalocaaGreatDoorPicked
import Derived.Test.YthjpighlcalocaaGreatDoorKit
import Derived.Test.YthjpighlcalocaaGreatDoorTool
namespace Go.Proofs.YthjpighlcalocaaGreatDoor
open Go.RowKit
set_option linter.unusedVariables false
set_option linter.unusedSimpArgs false

def letters : List Byt := [[97], [98], [99], [100]]
/-- the name that stands at a place of the path -/
def pbAt (n : Int) (i : Nat) : Byt := letters.getD ((n.tdiv (7 * ((i : Int) + 1))) % 4).toNat []
def pbN (n : Int) : Nat := 1 + (n % 3).toNat
def pbs (n : Int) : List Byt := (List.range (pbN n)).map (pbAt n)
def pathBy (n : Int) : Byt := joinP (pbs n)

theorem joinP_snoc : ∀ (l : List Byt) (x : Byt), joinP (l ++ [x]) = joinP l ++ 47 :: x
  | [], x => by simp [joinP]
  | y :: r, x => by simp only [List.cons_append, joinP, joinP_snoc r x, List.append_assoc]
def pbk (n : Int) (k : Nat) : List Byt := (List.range k).map (pbAt n)
theorem pbk_succ (n : Int) (k : Nat) : pbk n (k + 1) = pbk n k ++ [pbAt n k] := by unfold pbk; rw [List.range_succ, List.map_append]; rfl
theorem tdiv_b (n : Int) (d : Int) (hd : 0 < d) (h1 : -9223372036854775808 ≤ n) (h2 : n ≤ 9223372036854775807) (h7 : 2 ≤ d) : -9223372036854775808 ≤ n.tdiv d ∧ n.tdiv d ≤ 9223372036854775807 := by
  by_cases h : 0 ≤ n
  · rw [Int.tdiv_eq_ediv_of_nonneg h]
    have a := Int.ediv_nonneg h (Int.le_of_lt hd)
    have b := Int.ediv_le_self d h
    omega
  · have e : n.tdiv d = -((-n).tdiv d) := by rw [← Int.neg_tdiv, Int.neg_neg]
    rw [e, Int.tdiv_eq_ediv_of_nonneg (by omega)]
    have a := Int.ediv_nonneg (show 0 ≤ -n by omega) (Int.le_of_lt hd)
    have b := Int.ediv_le_self d (show 0 ≤ -n by omega)
    omega
theorem pbAt_len (n : Int) (i : Nat) : (pbAt n i).length = 1 := by
  unfold pbAt
  have h0 := Int.emod_nonneg (n.tdiv (7 * ((i : Int) + 1))) (show (4 : Int) ≠ 0 by decide)
  have h1 := Int.emod_lt_of_pos (n.tdiv (7 * ((i : Int) + 1))) (show (0 : Int) < 4 by decide)
  generalize (n.tdiv (7 * ((i : Int) + 1))) % 4 = v at h0 h1
  have : v.toNat = 0 ∨ v.toNat = 1 ∨ v.toNat = 2 ∨ v.toNat = 3 := by omega
  rcases this with e | e | e | e <;> rw [e] <;> rfl
theorem pbk_len (n : Int) (k : Nat) : (joinP (pbk n k)).length = 2 * k := by
  induction k with
  | zero => rfl
  | succ k ih => rw [pbk_succ, joinP_snoc, List.length_append, ih, List.length_cons, pbAt_len]; omega

set_option maxHeartbeats 4000000 in
theorem pathBy_any (n : Int) (w : World) (h1 : -9223372036854775808 ≤ n) (h2 : n ≤ 9223372036854775807) :
    Calls Tryz.prog 48 #[.int .i64 n] w fun e w' => e = .returned (.string (tx (pathBy n))) ∧ Below w.heap.size w w' := by
  obtain ⟨t, HT, ht⟩ := pick_nat n 3 (by omega)
  have HP := Lib.hid (fun wx => picked_n n 3 t wx HT h1 h2 (by omega) (by omega))
  have HPN : Hid (pathBy n = joinP (pbk n (t + 1))) := Lib.hid (by
    show joinP (pbk n (pbN n)) = _
    unfold pbN
    rw [← HT.out, Int.toNat_natCast, Nat.add_comm])
  have ht3 : t < 3 := by omega
  have H12 := Lib.hid (And.intro h1 h2)
  clear ht
  go_enter Tryz.func48, Tryz.ntmps48
  go_wp2_with fail
  go_loopw [3, 4] (fun s i wr => ∃ k : Nat, i = .int .i64 (k : Int) ∧ k ≤ t + 1 ∧ s = .string (tx (joinP (pbk n k))) ∧ Below w.heap.size w wr) (fun _ i _ => 3 - (intOf i).toNat)
  case atStart => exact ⟨0, rfl, Nat.zero_le _, rfl, Below.refl _ _⟩
  case round =>
    obtain ⟨k, rfl, hk, rfl, hbw⟩ := hrel
    have HBW := Lib.hid hbw
    clear hbw
    by_cases hlt : k < t + 1
    · have g1 : (k : Int) < 1 + (t : Int) := by omega
      obtain ⟨v, hv⟩ : ∃ v, v = n.tdiv (7 * ((k : Int) + 1)) := ⟨_, rfl⟩
      obtain ⟨hv1, hv2⟩ : -9223372036854775808 ≤ v ∧ v ≤ 9223372036854775807 := by rw [hv]; exact tdiv_b n _ (by omega) h1 h2 (by omega)
      obtain ⟨j, HJ, hj⟩ := pick_nat v 4 (by omega)
      have HPJ := Lib.hid (fun wx => picked_n v 4 j wx HJ hv1 hv2 (by omega) (by omega))
      have HPA : Hid (pbAt n k = letters.getD j []) := Lib.hid (by unfold pbAt; rw [← hv, ← HJ.out]; rfl)
      have HS : Hid (joinP (pbk n (k + 1)) = joinP (pbk n k) ++ 47 :: letters.getD j []) := Lib.hid (by rw [pbk_succ, joinP_snoc, HPA.out])
      have hJl := pbk_len n k
      obtain ⟨J, hJ⟩ : ∃ J, joinP (pbk n k) = J := ⟨_, rfl⟩
      rw [hJ] at HS hJl ⊢
      have z2 := tx_size J
      clear hJ
      have hk3 : k = 0 ∨ k = 1 ∨ k = 2 := by omega
      have hj4 : j = 0 ∨ j = 1 ∨ j = 2 ∨ j = 3 := by omega
      rcases hk3 with rfl | rfl | rfl
      · simp at hv
        have hv' : v = n.tdiv 7 := hv
        have hw : IntKind.i64.wrap (n.tdiv 7) = v := by rw [← hv', IntKind.wrap_i64]; omega
        clear hv hv'
        rcases hj4 with rfl | rfl | rfl | rfl
        all_goals
          go_wp2_with (go_at_call 16; first | ((with_reducible refine (HP.out _).mono ?_); rintro e w1 ⟨rfl, rfl⟩) | ((with_reducible refine (HPJ.out _).mono ?_); rintro e w1 ⟨rfl, rfl⟩))
        all_goals
          refine ⟨⟨1, by go_num, by omega, ?_, bthen HBW.out (ba1 _ _)⟩, by simp [intOf]⟩
          rw [HS.out, ← tx_app]
          rfl
      · simp at hv
        have hv' : v = n.tdiv 14 := hv
        have hw : IntKind.i64.wrap (n.tdiv 14) = v := by rw [← hv', IntKind.wrap_i64]; omega
        clear hv hv'
        rcases hj4 with rfl | rfl | rfl | rfl
        all_goals
          go_wp2_with (go_at_call 16; first | ((with_reducible refine (HP.out _).mono ?_); rintro e w1 ⟨rfl, rfl⟩) | ((with_reducible refine (HPJ.out _).mono ?_); rintro e w1 ⟨rfl, rfl⟩))
        all_goals
          refine ⟨⟨2, by go_num, by omega, ?_, bthen HBW.out (ba1 _ _)⟩, by simp [intOf]⟩
          rw [HS.out, ← tx_app]
          rfl
      · simp at hv
        have hv' : v = n.tdiv 21 := hv
        have hw : IntKind.i64.wrap (n.tdiv 21) = v := by rw [← hv', IntKind.wrap_i64]; omega
        clear hv hv'
        rcases hj4 with rfl | rfl | rfl | rfl
        all_goals
          go_wp2_with (go_at_call 16; first | ((with_reducible refine (HP.out _).mono ?_); rintro e w1 ⟨rfl, rfl⟩) | ((with_reducible refine (HPJ.out _).mono ?_); rintro e w1 ⟨rfl, rfl⟩))
        all_goals
          refine ⟨⟨3, by go_num, by omega, ?_, bthen HBW.out (ba1 _ _)⟩, by simp [intOf]⟩
          rw [HS.out, ← tx_app]
          rfl
    · obtain rfl : k = t + 1 := by omega
      have g1 : ¬ ((t + 1 : Nat) : Int) < 1 + (t : Int) := by omega
      go_wp2_with (go_at_call 16; ((with_reducible refine (HP.out _).mono ?_); rintro e w1 ⟨rfl, rfl⟩))
      go_ret
      exact ⟨by rw [HPN.out]; rfl, HBW.out⟩

end Go.Proofs.YthjpighlcalocaaGreatDoor
