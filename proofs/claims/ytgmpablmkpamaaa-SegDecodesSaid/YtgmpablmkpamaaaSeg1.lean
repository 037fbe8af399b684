/-
  Contracts of package seg's inner functions: check and what it calls.
-/
import Derived.Test.YtgmpablmkpamaaaSegMath
import Derived.Test.YtgmpablmkpamaaaKit
import Derived.Test.YtgmpablmkpamaaaRg
namespace Go.Proofs.Ytgmpablmkpamaaa
open Go.RowKit
set_option linter.unusedVariables false

theorem ser_ok (a c : Int) (b : Nat) (w : World) (hb : b = w.heap.size) (h : sm a = true ∧ sm c = true) :
    Calls Try.prog 39 #[.slice (some ⟨b, 0, none⟩) 2 2] (w.alloc (.cells #[.int .i64 a, .int .i64 c] 3)) fun e w' => e = .returned (.bool true) ∧ w.alloc (.cells #[.int .i64 a, .int .i64 c] 3) = w' := by
  subst hb
  rw [sm_t, sm_t] at h
  obtain ⟨⟨h0, h1⟩, h2, h3⟩ := h
  go_enter Try.func39, Try.ntmps39
  go_wp2
  go_rounds 3
  all_goals go_ret
  all_goals exact ⟨rfl, rfl⟩

theorem ser_no (a c : Int) (b : Nat) (w : World) (hb : b = w.heap.size) (h : sm a = false ∨ sm c = false) :
    Calls Try.prog 39 #[.slice (some ⟨b, 0, none⟩) 2 2] (w.alloc (.cells #[.int .i64 a, .int .i64 c] 3)) fun e w' => e = .returned (.bool false) ∧ w.alloc (.cells #[.int .i64 a, .int .i64 c] 3) = w' := by
  subst hb
  rw [sm_f, sm_f] at h
  have h' : (a < 0 ∨ 65535 < a) ∨ (0 ≤ a ∧ a ≤ 65535) ∧ (c < 0 ∨ 65535 < c) := by omega
  clear h
  rcases h' with (h | h) | ⟨⟨g0, g1⟩, h | h⟩
  all_goals
    go_enter Try.func39, Try.ntmps39
    go_wp2
    go_rounds 3
    all_goals go_ret
    all_goals exact ⟨rfl, rfl⟩

theorem odd_ok (x : Rg) (w : World) (h : okR x = true) :
    Calls Try.prog 38 #[rv x] w fun e w' => e = .returned (.bool false) ∧ Below w.heap.size w w' := by
  obtain ⟨a, c⟩ := x
  simp only [okR, Bool.and_eq_true] at h
  have H := Lib.hid h
  clear h
  unfold rv
  go_enter Try.func38, Try.ntmps38
  go_wp2_with (go_at_call 39; refine (ser_ok _ _ _ _ (by first | rfl | simp) H.out).mono ?_; rintro e w' ⟨rfl, rfl⟩)
  go_ret
  exact ⟨rfl, ba2 _ _ _⟩
theorem odd_no (x : Rg) (w : World) (h : okR x = false) :
    Calls Try.prog 38 #[rv x] w fun e w' => e = .returned (.bool true) ∧ Below w.heap.size w w' := by
  obtain ⟨a, c⟩ := x
  simp only [okR, Bool.and_eq_false_iff] at h
  have H := Lib.hid h
  clear h
  unfold rv
  go_enter Try.func38, Try.ntmps38
  go_wp2_with (go_at_call 39; refine (ser_no _ _ _ _ (by first | rfl | simp) H.out).mono ?_; rintro e w' ⟨rfl, rfl⟩)
  go_ret
  exact ⟨rfl, ba2 _ _ _⟩

def oddF : Value := .func (.func 38) #[] #[]

theorem index_any (A : Option Addr) (n c : Nat) (l : List Rg) (w : World) (hb : Rs w A l) (hn : l.length = n) (h47 : n ≤ 140737488355328) :
    Calls Try.prog 46 #[.slice A n c, oddF] w fun e w' => (∃ i : Int, e = .returned (.int .i64 i) ∧ (l.all okR = true ∧ i = -1 ∨ l.all okR = false ∧ 0 ≤ i)) ∧ Below w.heap.size w w' := by
  have HB := Lib.hid hb; have HN := Lib.hid hn
  clear hb hn
  unfold oddF
  go_enter Try.func46, Try.ntmps46
  go_wp2
  go_loopw [8] (fun i wr => ∃ k : Nat, k ≤ n ∧ i = .int .i64 k ∧ (l.take k).all okR = true ∧ Below w.heap.size w wr) (fun i _ => n - (intOf i).toNat)
  case atStart => exact ⟨0, Nat.zero_le _, rfl, rfl, Below.refl _ _⟩
  case round =>
    obtain ⟨k, hk, rfl, hy, hb3⟩ := hrel
    have HY := Lib.hid hy
    clear hy
    by_cases hlt : k < n
    · obtain ⟨⟨x1, x2⟩, hx, hd⟩ := drop_at l k (by rw [HN.out]; exact hlt)
      obtain ⟨b, o, rfl, hbs, hc1, hc2⟩ := (HB.out.below hb3).at k _ hx
      have HX := Lib.hid hx
      have ht : Hid ((l.take (k + 1)).all okR = okR (x1, x2)) := Lib.hid (by
        rw [List.take_add_one, hx, List.all_append, HY.out]; simp)
      clear hd hx
      simp only at hc1 hc2
      by_cases hok : okR (x1, x2) = true
      · have HO := Lib.hid hok
        clear hok
        go_wp2_with (go_at_call 38; refine (odd_ok (x1, x2) _ HO.out).mono ?_; rintro e w' ⟨rfl, hb4⟩)
        go_roundw
        case rel => exact ⟨k + 1, by omega, by go_num, by rw [ht.out]; exact HO.out, hb3.trans (hb4.mono hb3.size)⟩
        case measure => simp [intOf]; omega
      · have HO := Lib.hid (Bool.eq_false_iff.2 hok)
        clear hok
        go_wp2_with (go_at_call 38; refine (odd_no (x1, x2) _ HO.out).mono ?_; rintro e w' ⟨rfl, hb4⟩)
        go_ret
        refine ⟨⟨k, rfl, .inr ⟨?_, by omega⟩⟩, hb3.trans (hb4.mono hb3.size)⟩
        rw [← List.take_append_drop (k + 1) l, List.all_append, ht.out, HO.out]; rfl
    · have hall : l.all okR = true := by rw [← HY.out, List.take_of_length_le (by rw [HN.out]; omega)]
      have HA := Lib.hid hall
      clear hall
      go_wp2
      go_ret
      exact ⟨⟨-1, rfl, .inl ⟨HA.out, rfl⟩⟩, hb3⟩

theorem contains_any (A : Option Addr) (n c : Nat) (l : List Rg) (w : World) (hb : Rs w A l) (hn : l.length = n) (h47 : n ≤ 140737488355328) :
    Calls Try.prog 40 #[.slice A n c, oddF] w fun e w' => e = .returned (.bool (!l.all okR)) ∧ Below w.heap.size w w' := by
  have HB := Lib.hid hb; have HN := Lib.hid hn
  clear hb hn
  unfold oddF
  go_enter Try.func40, Try.ntmps40
  go_wp2_with (go_at_call 46; refine (index_any _ _ _ _ _ HB.out HN.out h47).mono ?_; rintro e w1 ⟨⟨i, rfl, hi⟩, hb1⟩; have HI := Lib.hid hi; clear hi)
  go_ret
  refine ⟨?_, hb1⟩
  rcases HI.out with ⟨h1, rfl⟩ | ⟨h1, h2⟩
  · simp [h1]
  · simp [h1]; omega

end Go.Proofs.Ytgmpablmkpamaaa
