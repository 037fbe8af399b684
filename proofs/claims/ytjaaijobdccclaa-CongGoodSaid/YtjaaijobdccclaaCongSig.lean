/-
  packthreadkeep's Signals and widths.
-/
import Derived.Test.YtjaaijobdccclaaCong3
import Derived.Test.YtjaaijobdccclaaInts
import Derived.Test.YtjaaijobdccclaaPicked
namespace Go.Proofs.Ytjaaijobdccclaa
open Go.RowKit
set_option linter.unusedVariables false
set_option linter.unusedSimpArgs false

/-- a signal out of a number -/
def sigOf (z : Int) : Sig := if z % 11 = 0 then (2, 0) else if z % 11 = 1 then (3, 0) else (1, 1 + z % 20)
def sigs (zs : List Int) (lim : Nat) : List Sig := (zs.take lim).map sigOf
theorem sigOf_code (z : Int) : sigCode (sigOf z) = 0 := by
  unfold sigOf sigCode
  split
  · rfl
  · split
    · rfl
    · simp only; rw [if_neg (by omega), if_neg (by omega)]
theorem firstCode_all : ∀ (l : List Sig), (∀ g ∈ l, sigCode g = 0) → firstCode l = 0
  | [], _ => rfl
  | g :: t, h => by
    rw [show firstCode (g :: t) = (if sigCode g = 0 then firstCode t else sigCode g) from rfl, if_pos (h g (by simp))]
    exact firstCode_all t fun x hx => h x (by simp [hx])
theorem sigs_ok (zs : List Int) (lim : Nat) : ∀ g ∈ sigs zs lim, sigCode g = 0 := by
  intro g hg
  unfold sigs at hg
  simp only [List.mem_map] at hg
  obtain ⟨z, _, rfl⟩ := hg
  exact sigOf_code z
theorem sigs_len (zs : List Int) (lim : Nat) : (sigs zs lim).length = min lim zs.length := by simp [sigs]
theorem sigs_succ (zs : List Int) (k : Nat) (z : Int) (h : zs[k]? = some z) : sigs zs (k + 1) = sigs zs k ++ [sigOf z] := by
  unfold sigs; rw [List.take_add_one, h]; simp

set_option maxHeartbeats 2000000 in
theorem signals_any (A : Option Addr) (n c : Nat) (zs : List Int) (lim : Nat) (w : World) (hb : Is w A zs) (hn : zs.length = n) (hl : lim ≤ 200) (h47 : n ≤ 17592186043904) :
    Calls Try.prog 10 #[.slice A n c, .int .i64 lim] w fun e w' => ∃ A' m c', m = min lim n ∧ e = .returned (.slice A' m c') ∧ OwnL sgS 35 w' w.heap.size A' m c' (sigs zs lim) ∧ Below w.heap.size w w' := by
  have HB := Lib.hid hb
  have HN := Lib.hid hn
  clear hb hn
  go_enter Try.func10, Try.ntmps10
  go_wp2
  go_loopw [5, 6] (fun o i wr => ∃ (k : Nat) (A3 : Option Addr) (c3 : Nat), k ≤ n ∧ k ≤ lim ∧ i = .int .i64 k ∧ o = .slice A3 k c3 ∧ OwnL sgS 35 wr w.heap.size A3 k c3 (sigs zs k) ∧ Below w.heap.size w wr) (fun _ i _ => n - (intOf i).toNat)
  case atStart => exact ⟨0, none, 0, Nat.zero_le _, Nat.zero_le _, rfl, rfl, OwnL.nil _ _, Below.refl _ _⟩
  case round =>
    obtain ⟨k, A3, c3, hk, hkl, rfl, rfl, ho, hbw⟩ := hrel
    have HO := Lib.hid ho; have HW := Lib.hid hbw
    clear ho hbw
    by_cases hlt : k < n
    · by_cases hll : k < lim
      · obtain ⟨z, hz⟩ : ∃ z, zs[k]? = some z := ⟨_, List.getElem?_eq_getElem (by rw [HN.out]; exact hlt)⟩
        obtain ⟨ab, ao, rfl, hab0, hcz0, z0, z1⟩ := HB.out.at k z hz
        have hcz := (HW.out.cell (p := ⟨ab, ao + k, none⟩) hab0).trans hcz0
        have hab : ab < wr.heap.size := Nat.lt_of_lt_of_le hab0 HW.out.size
        have hki : (k : Int) < (n : Int) := by omega
        have hkl2 : (k : Int) < (lim : Int) := by omega
        clear hcz0
        obtain ⟨x, hx⟩ : ∃ x, x = z % 20 := ⟨_, rfl⟩
        obtain ⟨y, hy⟩ : ∃ y, y = z % 11 := ⟨_, rfl⟩
        have hx0 : 0 ≤ x ∧ x < 20 := by omega
        have hy0 : 0 ≤ y ∧ y < 11 := by omega
        obtain ⟨g, hg⟩ : ∃ g, g = sigOf z := ⟨_, rfl⟩
        have hcases : (y = 0 ∧ g = (2, 0)) ∨ (y = 1 ∧ g = (3, 0)) ∨ (2 ≤ y ∧ g = (1, 1 + x)) := by
          unfold sigOf at hg
          rw [← hy, ← hx] at hg
          split at hg
          · exact .inl ⟨by assumption, hg⟩
          · split at hg
            · exact .inr (.inl ⟨by assumption, hg⟩)
            · exact .inr (.inr ⟨by omega, hg⟩)
        have HS : Hid (sigs zs (k + 1) = sigs zs k ++ [g]) := Lib.hid (by rw [hg]; exact sigs_succ zs k z hz)
        have HX := Lib.hid hx
        have HY := Lib.hid hy
        clear hx hy hg hz
        rcases hcases with ⟨rfl, rfl⟩ | ⟨rfl, rfl⟩ | ⟨hy2, rfl⟩
        all_goals
          go_wp2_with (first
            | (go_at_call 12; (with_reducible refine (picked_v z 20 x _ HX z0 z1 (by omega) (by omega)).mono ?_); rintro e w3 ⟨rfl, rfl⟩)
            | (go_at_call 12; (with_reducible refine (picked_v z 11 _ _ HY z0 z1 (by omega) (by omega)).mono ?_); rintro e w3 ⟨rfl, rfl⟩)
            | (at_builtin; refine wpList_appL (F := sgS) rfl _ (.tmp 37) (.tmp 39) 22 rfl _ 16 Try.underlying22 sgInfo rfl w.heap.size A3 k c3 _ rfl (HO.out.below (ba2 _ _ _)) _ 1 1 [(_, _)] rfl (ls_new _ _ _ _ rfl _ (by simp)) rfl (k + 1) rfl (by omega) (by omega) (by have := HW.out.size; simp; omega) ?_; intro A5 c5 w5 ho5 hb5 hs5; have HO5 := Lib.hid ho5; have HB5 := Lib.hid (((HW.out.alloc HW.out.size _).alloc (by have := HW.out.size; simp; omega) _).trans hb5); clear ho5 hb5 hs5))
          exact ⟨⟨k + 1, A5, c5, by omega, by omega, by go_num, rfl, by rw [HS.out]; exact HO5.out, HB5.out⟩, by simp [intOf]; omega⟩
      · obtain rfl : lim = k := by omega
        have hki : (lim : Int) < (n : Int) := by omega
        go_wp2
        go_ret
        exact ⟨A3, _, c3, by omega, rfl, HO.out, HW.out⟩
    · obtain rfl : n = k := by omega
      go_wp2
      go_ret
      have ho := HO.out
      have e : sigs zs lim = sigs zs n := by unfold sigs; rw [List.take_of_length_le (by rw [HN.out]; omega), List.take_of_length_le (by rw [HN.out]; omega)]
      exact ⟨A3, _, c3, by omega, rfl, by rw [e]; exact ho, HW.out⟩

/-- widths of signals that are none refused -/
theorem widths_ok (A : Option Addr) (n c : Nat) (l : List Sig) (w : World) (hb : Ls sgS w A l) (hn : l.length = n) (h300 : n ≤ 300) (h0 : ∀ g ∈ l, sigCode g = 0) :
    Calls Try.prog 11 #[.slice A n c] w fun e w' => ∃ A' c', e = .returned (.tuple #[.slice A' n c', .bool true]) ∧ OwnL wdS 28 w' w.heap.size A' n c' (plays wd0 l) ∧ Below w.heap.size w w' := by
  have HL := Lib.hid hb
  have HN := Lib.hid hn
  have HZ := Lib.hid (firstCode_all l h0)
  clear hb hn h0
  go_enter Try.func11, Try.ntmps11
  go_wp2_with (first
    | (at_builtin; refine wpList_appL (F := sgS) rfl _ (.const (.slice none 0 0)) (.tmp 7) 22 rfl _ 16 Try.underlying22 sgInfo rfl w.heap.size none 0 0 [] rfl (OwnL.nil _ _) A n c l rfl HL.out HN.out n (by omega) (by omega) (by omega) (Nat.le_refl _) ?_; intro A5 c5 w5 ho5 hb5 hs5; have HO5 := Lib.hid ho5; have HB5 := Lib.hid hb5; clear ho5 hb5 hs5)
    | (go_at_call 8; (refine (play_ok A5 n c5 l _ (by have := HO5.out.ls; exact this) HN.out h300 HZ.out).mono ?_); rintro e w6 ⟨A6, c6, rfl, ho6, hb6⟩; have HO6 := Lib.hid ho6; have HB6 : Hid (Below w.heap.size w w6) := Lib.hid (bthen HB5.out hb6); clear ho6 hb6))
  go_ret2
  exact ⟨A6, c6, by simp, HO6.out.base HB5.out.size, HB6.out⟩

end Go.Proofs.Ytjaaijobdccclaa
