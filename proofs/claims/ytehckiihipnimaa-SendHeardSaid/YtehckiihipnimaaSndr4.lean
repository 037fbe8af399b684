/-
  The program's sender: what is odd about a range (a closure), slices.IndexFunc and ContainsFunc with it.
-/
import Derived.Test.YtehckiihipnimaaSndr2
namespace Go.Proofs.Ytehckiihipnimaa
open Go.RowKit
set_option linter.unusedVariables false
set_option linter.unusedSimpArgs false

def okS (sn : Nat) (r : Rg) : Bool := decide (0 ≤ r.1) && (decide (r.1 < r.2) && decide (r.2 ≤ (sn : Int)))
theorem okS_bad (sn : Nat) (r : Rg) : okS sn r = true ↔ ¬ badR sn r := by unfold okS badR; simp only [Bool.and_eq_true, decide_eq_true_eq]; omega

/-- what the closure reads -/
structure Odd (w : World) (Q B sn : Nat) : Prop where
  q : w.cell? ⟨Q, 0, none⟩ = some (.pointer (some ⟨B, 0, none⟩))
  ql : Q < w.heap.size
  s : w.cell? ⟨B, 2, none⟩ = some (.int .i64 sn)
  sl : B < w.heap.size
theorem Odd.below {w w' : World} {Q B sn : Nat} (h : Odd w Q B sn) (hb : Below w.heap.size w w') : Odd w' Q B sn :=
  ⟨(hb.cell (p := ⟨Q, 0, none⟩) h.ql).trans h.q, Nat.lt_of_lt_of_le h.ql hb.size, (hb.cell (p := ⟨B, 2, none⟩) h.sl).trans h.s, Nat.lt_of_lt_of_le h.sl hb.size⟩

theorem sodd_any (x1 x2 : Int) (Q B sn : Nat) (w : World) (h : Odd w Q B sn) (v : Bool) (hv : v = !okS sn (x1, x2)) :
    Calls Try.prog 66 #[.agg #[.int .i64 x1, .int .i64 x2], .pointer (some ⟨Q, 0, none⟩)] w fun e w' => e = .returned (.bool v) ∧ Below w.heap.size w w' := by
  obtain ⟨c1, l1, c2, l2⟩ := h
  have hc : (x1 < 0 ∧ v = true) ∨ (0 ≤ x1 ∧ x2 ≤ x1 ∧ v = true) ∨ (0 ≤ x1 ∧ x1 < x2 ∧ (sn : Int) < x2 ∧ v = true) ∨ (0 ≤ x1 ∧ x1 < x2 ∧ x2 ≤ (sn : Int) ∧ v = false) := by
    rw [hv]; unfold okS
    rcases Int.lt_or_le x1 0 with a | a
    · left; exact ⟨a, by simp; omega⟩
    · right
      rcases Int.lt_or_le x1 x2 with b | b
      · right
        rcases Int.lt_or_le (sn : Int) x2 with c | c
        · left; exact ⟨a, b, c, by simp; omega⟩
        · right; exact ⟨a, b, c, by simp; omega⟩
      · left; exact ⟨a, b, by simp; omega⟩
  clear hv
  rcases hc with ⟨a, rfl⟩ | ⟨a, b, rfl⟩ | ⟨a, b, c, rfl⟩ | ⟨a, b, c, rfl⟩
  · have f0 : decide (x1 < 0) = true := by simp; omega
    go_enter Try.func66, Try.ntmps66
    go_wp2_with fail
    go_quiet (fail)
    go_wp2
    go_ret
    exact ⟨rfl, below_drewN (ba1 _ _) _⟩
  · have f0 : decide (x1 < 0) = false := by simp; omega
    have f1 : decide (x2 ≤ x1) = true := by simp; omega
    go_enter Try.func66, Try.ntmps66
    go_wp2_with fail
    go_quiet (fail)
    go_wp2
    go_ret
    exact ⟨rfl, below_drewN (ba1 _ _) _⟩
  · have f0 : decide (x1 < 0) = false := by simp; omega
    have f1 : decide (x2 ≤ x1) = false := by simp; omega
    have f2 : decide ((sn : Int) < x2) = true := by simp; omega
    go_enter Try.func66, Try.ntmps66
    go_wp2_with fail
    go_quiet (fail)
    go_wp2
    go_ret
    exact ⟨rfl, below_drewN (ba1 _ _) _⟩
  · have f0 : decide (x1 < 0) = false := by simp; omega
    have f1 : decide (x2 ≤ x1) = false := by simp; omega
    have f2 : decide ((sn : Int) < x2) = false := by simp; omega
    go_enter Try.func66, Try.ntmps66
    go_wp2_with fail
    go_quiet (fail)
    go_wp2
    go_ret
    exact ⟨rfl, below_drewN (ba1 _ _) _⟩

def soddF (Q : Nat) : Value := .func (.func 66) #[] #[.pointer (some ⟨Q, 0, none⟩)]

theorem sindex_any (A : Option Addr) (n c : Nat) (l : List Rg) (Q B sn : Nat) (w : World) (ho : Odd w Q B sn) (hb : Ls rgS w A l) (hn : l.length = n) (h47 : n ≤ 140737488355328) :
    Calls Try.prog 87 #[.slice A n c, soddF Q] w fun e w' => (∃ i : Int, e = .returned (.int .i64 i) ∧ (l.all (okS sn) = true ∧ i = -1 ∨ l.all (okS sn) = false ∧ 0 ≤ i)) ∧ Below w.heap.size w w' := by
  have HB := Lib.hid hb; have HN := Lib.hid hn; have HO := Lib.hid ho
  clear hb hn ho
  unfold soddF
  go_enter Try.func87, Try.ntmps87
  go_wp2
  go_loopw [8] (fun i wr => ∃ k : Nat, k ≤ n ∧ i = .int .i64 k ∧ (l.take k).all (okS sn) = true ∧ Below w.heap.size w wr) (fun i _ => n - (intOf i).toNat)
  case atStart => exact ⟨0, Nat.zero_le _, rfl, rfl, Below.refl _ _⟩
  case round =>
    obtain ⟨k, hk, rfl, hy, hb3⟩ := hrel
    have HY := Lib.hid hy
    clear hy
    by_cases hlt : k < n
    · obtain ⟨⟨x1, x2⟩, hx⟩ : ∃ x, l[k]? = some x := ⟨_, List.getElem?_eq_getElem (by rw [HN.out]; exact hlt)⟩
      obtain ⟨b, o, rfl, hbs, hcc⟩ := (HB.out.below hb3).at k _ hx
      have hc1 := hcc 0 (.int .i64 x1) rfl
      have hc2 := hcc 1 (.int .i64 x2) rfl
      simp only [rgS, Nat.add_zero] at hc1 hc2
      have hki : (k : Int) < (n : Int) := by omega
      have ht : Hid ((l.take (k + 1)).all (okS sn) = okS sn (x1, x2)) := Lib.hid (by
        rw [List.take_add_one, hx, List.all_append, HY.out]; simp)
      have HOr := Lib.hid (HO.out.below hb3)
      clear hcc hx
      rcases hok : okS sn (x1, x2) with _ | _
      · have HOK := Lib.hid hok
        have hv : Hid (true = !okS sn (x1, x2)) := Lib.hid (by rw [hok]; rfl)
        clear hok
        go_wp2_with (go_at_call 66; refine (sodd_any x1 x2 Q B sn _ (HOr.out.below (by first | exact Below.refl _ _ | exact ba1 _ _ | exact ba2 _ _ _)) true hv.out).mono ?_; rintro e w' ⟨rfl, hb4⟩)
        go_ret
        refine ⟨⟨k, rfl, .inr ⟨?_, by omega⟩⟩, hb3.trans (hb4.mono hb3.size)⟩
        rw [← List.take_append_drop (k + 1) l, List.all_append, ht.out, HOK.out]; rfl
      · have HOK := Lib.hid hok
        have hv : Hid (false = !okS sn (x1, x2)) := Lib.hid (by rw [hok]; rfl)
        clear hok
        go_wp2_with (go_at_call 66; refine (sodd_any x1 x2 Q B sn _ (HOr.out.below (by first | exact Below.refl _ _ | exact ba1 _ _ | exact ba2 _ _ _)) false hv.out).mono ?_; rintro e w' ⟨rfl, hb4⟩)
        exact ⟨⟨k + 1, by omega, by go_num, by rw [ht.out]; exact HOK.out, hb3.trans (hb4.mono hb3.size)⟩, by simp [intOf]; omega⟩
    · have hall : l.all (okS sn) = true := by rw [← HY.out, List.take_of_length_le (by rw [HN.out]; omega)]
      have HA := Lib.hid hall
      clear hall
      go_wp2
      go_ret
      exact ⟨⟨-1, rfl, .inl ⟨HA.out, rfl⟩⟩, hb3⟩

theorem scontains_any (A : Option Addr) (n c : Nat) (l : List Rg) (Q B sn : Nat) (w : World) (ho : Odd w Q B sn) (hb : Ls rgS w A l) (hn : l.length = n) (h47 : n ≤ 140737488355328) (v : Bool) (hv : v = !l.all (okS sn)) :
    Calls Try.prog 67 #[.slice A n c, soddF Q] w fun e w' => e = .returned (.bool v) ∧ Below w.heap.size w w' := by
  have HB := Lib.hid hb; have HN := Lib.hid hn; have HO := Lib.hid ho
  have HV := Lib.hid hv
  clear hb hn ho hv
  unfold soddF
  go_enter Try.func67, Try.ntmps67
  go_wp2_with (go_at_call 87; refine (sindex_any _ _ _ _ Q B sn _ HO.out HB.out HN.out h47).mono ?_; rintro e w1 ⟨⟨i, rfl, hi⟩, hb1⟩; have HI := Lib.hid hi; clear hi)
  go_ret
  refine ⟨?_, hb1⟩
  rw [HV.out]
  rcases HI.out with ⟨h1, rfl⟩ | ⟨h1, h2⟩
  · simp [h1]
  · simp [h1]; omega

end Go.Proofs.Ytehckiihipnimaa
