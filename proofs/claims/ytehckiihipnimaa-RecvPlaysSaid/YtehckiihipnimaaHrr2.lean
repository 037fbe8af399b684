/-
  The program's hearer: the closures of came and arrive, slices.IndexFunc and ContainsFunc with them; came.
-/
import Derived.Test.YtehckiihipnimaaHrr1
import Derived.Test.YtehckiihipnimaaClone
import Derived.Deep.RegionHeld3
import Derived.Deep.RegionLaw
import Derived.Deep.QuietTactic
import Derived.BigQuiet
namespace Go.Proofs.Ytehckiihipnimaa
open Go.RowKit
set_option linter.unusedVariables false
set_option linter.unusedSimpArgs false

/-- a number in a box -/
structure At (w : World) (Q : Nat) (p : Int) : Prop where
  c : w.cell? ⟨Q, 0, none⟩ = some (.int .i64 p)
  l : Q < w.heap.size
theorem At.below {w w' : World} {Q : Nat} {p : Int} (h : At w Q p) (hb : Below w.heap.size w w') : At w' Q p := ⟨(hb.cell (p := ⟨Q, 0, none⟩) h.l).trans h.c, Nat.lt_of_lt_of_le h.l hb.size⟩
def laterB (p : Int) (r : Rg) : Bool := decide (p < r.2)

/-- is the place within the range? -/
theorem has_clos (x1 x2 : Int) (Q : Nat) (p : Int) (w : World) (h : At w Q p) (v : Bool) (hv : v = hasB p (x1, x2)) :
    Calls Try.prog 102 #[.agg #[.int .i64 x1, .int .i64 x2], .pointer (some ⟨Q, 0, none⟩)] w fun e w' => e = .returned (.bool v) ∧ Below w.heap.size w w' := by
  obtain ⟨c1, l1⟩ := h
  have hc : (p < x1 ∧ v = false) ∨ (x1 ≤ p ∧ p < x2 ∧ v = true) ∨ (x1 ≤ p ∧ x2 ≤ p ∧ v = false) := by
    rw [hv]; unfold hasB
    rcases Int.lt_or_le p x1 with a | a
    · left; exact ⟨a, by simp; omega⟩
    · right
      rcases Int.lt_or_le p x2 with b | b
      · left; exact ⟨a, b, by simp; omega⟩
      · right; exact ⟨a, b, by simp; omega⟩
  clear hv
  rcases hc with ⟨a, rfl⟩ | ⟨a, b, rfl⟩ | ⟨a, b, rfl⟩
  all_goals
    go_enter Try.func102, Try.ntmps102
    go_wp2
    go_ret
    first | exact ⟨rfl, ba1 _ _⟩ | exact ⟨by simp <;> omega, ba1 _ _⟩

def hasF (Q : Nat) : Value := .func (.func 102) #[] #[.pointer (some ⟨Q, 0, none⟩)]

theorem has_index (A : Option Addr) (n c : Nat) (l : List Rg) (Q : Nat) (p : Int) (w : World) (ho : At w Q p) (hb : Ls rgS w A l) (hn : l.length = n) (h47 : n ≤ 140737488355328) :
    Calls Try.prog 87 #[.slice A n c, hasF Q] w fun e w' => (∃ i : Int, e = .returned (.int .i64 i) ∧ (l.any (hasB p) = false ∧ i = -1 ∨ l.any (hasB p) = true ∧ 0 ≤ i)) ∧ Below w.heap.size w w' := by
  have HB := Lib.hid hb; have HN := Lib.hid hn; have HO := Lib.hid ho
  clear hb hn ho
  unfold hasF
  go_enter Try.func87, Try.ntmps87
  go_wp2
  go_loopw [8] (fun i wr => ∃ k : Nat, k ≤ n ∧ i = .int .i64 k ∧ (l.take k).any (hasB p) = false ∧ Below w.heap.size w wr) (fun i _ => n - (intOf i).toNat)
  case atStart => exact ⟨0, Nat.zero_le _, rfl, rfl, Below.refl _ _⟩
  case round =>
    obtain ⟨k, hk, rfl, hy, hb3⟩ := hrel
    have HY := Lib.hid hy
    clear hy
    by_cases hlt : k < n
    · obtain ⟨⟨x1, x2⟩, hx⟩ : ∃ x, l[k]? = some x := ⟨_, List.getElem?_eq_getElem (by rw [HN.out]; exact hlt)⟩
      obtain ⟨b, o, rfl, hbs, hcc⟩ := (HB.out.below hb3).at k _ hx
      have hc1 := hcc 0 (.int .i64 x1) rfl
      have hc2 := hcc 1 (.int .i64 x2) rfl
      simp only [rgS, Nat.add_zero] at hc1 hc2
      have hki : (k : Int) < (n : Int) := by omega
      have ht : Hid ((l.take (k + 1)).any (hasB p) = hasB p (x1, x2)) := Lib.hid (by
        rw [List.take_add_one, hx, List.any_append, HY.out]; simp)
      have HOr := Lib.hid (HO.out.below hb3)
      clear hcc hx
      rcases hok : hasB p (x1, x2) with _ | _
      · have HOK := Lib.hid hok
        clear hok
        go_wp2_with (go_at_call 102; refine (has_clos x1 x2 Q p _ (HOr.out.below (by first | exact Below.refl _ _ | exact ba1 _ _ | exact ba2 _ _ _)) false HOK.out.symm).mono ?_; rintro e w' ⟨rfl, hb4⟩)
        exact ⟨⟨k + 1, by omega, by go_num, by rw [ht.out]; exact HOK.out, hb3.trans (hb4.mono hb3.size)⟩, by simp [intOf]; omega⟩
      · have HOK := Lib.hid hok
        clear hok
        go_wp2_with (go_at_call 102; refine (has_clos x1 x2 Q p _ (HOr.out.below (by first | exact Below.refl _ _ | exact ba1 _ _ | exact ba2 _ _ _)) true HOK.out.symm).mono ?_; rintro e w' ⟨rfl, hb4⟩)
        go_ret
        refine ⟨⟨k, rfl, .inr ⟨?_, by omega⟩⟩, hb3.trans (hb4.mono hb3.size)⟩
        rw [← List.take_append_drop (k + 1) l, List.any_append, ht.out, HOK.out]; rfl
    · have hall : l.any (hasB p) = false := by rw [← HY.out, List.take_of_length_le (by rw [HN.out]; omega)]
      have HA := Lib.hid hall
      clear hall
      go_wp2
      go_ret
      exact ⟨⟨-1, rfl, .inl ⟨HA.out, rfl⟩⟩, hb3⟩

theorem has_contains (A : Option Addr) (n c : Nat) (l : List Rg) (Q : Nat) (p : Int) (w : World) (ho : At w Q p) (hb : Ls rgS w A l) (hn : l.length = n) (h47 : n ≤ 140737488355328) (v : Bool) (hv : v = l.any (hasB p)) :
    Calls Try.prog 67 #[.slice A n c, hasF Q] w fun e w' => e = .returned (.bool v) ∧ Below w.heap.size w w' := by
  have HB := Lib.hid hb; have HN := Lib.hid hn; have HO := Lib.hid ho
  have HV := Lib.hid hv
  clear hb hn ho hv
  unfold hasF
  go_enter Try.func67, Try.ntmps67
  go_wp2_with (go_at_call 87; refine (has_index _ _ _ _ Q p _ HO.out HB.out HN.out h47).mono ?_; rintro e w1 ⟨⟨i, rfl, hi⟩, hb1⟩; have HI := Lib.hid hi; clear hi)
  go_ret
  refine ⟨?_, hb1⟩
  rw [HV.out]
  rcases HI.out with ⟨h1, rfl⟩ | ⟨h1, h2⟩
  · simp [h1]
  · simp [h1]; omega

/-- does the range go beyond? -/
theorem later_clos (x1 x2 : Int) (Q : Nat) (p : Int) (w : World) (h : At w Q p) (v : Bool) (hv : v = laterB p (x1, x2)) :
    Calls Try.prog 73 #[.agg #[.int .i64 x1, .int .i64 x2], .pointer (some ⟨Q, 0, none⟩)] w fun e w' => e = .returned (.bool v) ∧ Below w.heap.size w w' := by
  obtain ⟨c1, l1⟩ := h
  have hc : (p < x2 ∧ v = true) ∨ (x2 ≤ p ∧ v = false) := by
    rw [hv]; unfold laterB
    rcases Int.lt_or_le p x2 with a | a
    · left; exact ⟨a, by simp; omega⟩
    · right; exact ⟨a, by simp; omega⟩
  clear hv
  rcases hc with ⟨a, rfl⟩ | ⟨a, rfl⟩
  all_goals
    go_enter Try.func73, Try.ntmps73
    go_wp2
    go_ret
    first | exact ⟨rfl, ba1 _ _⟩ | exact ⟨by simp <;> omega, ba1 _ _⟩

def laterF (Q : Nat) : Value := .func (.func 73) #[] #[.pointer (some ⟨Q, 0, none⟩)]

theorem later_index (A : Option Addr) (n c : Nat) (l : List Rg) (Q : Nat) (p : Int) (w : World) (ho : At w Q p) (hb : Ls rgS w A l) (hn : l.length = n) (h47 : n ≤ 140737488355328) :
    Calls Try.prog 87 #[.slice A n c, laterF Q] w fun e w' => (∃ i : Int, e = .returned (.int .i64 i) ∧ (l.any (laterB p) = false ∧ i = -1 ∨ l.any (laterB p) = true ∧ 0 ≤ i)) ∧ Below w.heap.size w w' := by
  have HB := Lib.hid hb; have HN := Lib.hid hn; have HO := Lib.hid ho
  clear hb hn ho
  unfold laterF
  go_enter Try.func87, Try.ntmps87
  go_wp2
  go_loopw [8] (fun i wr => ∃ k : Nat, k ≤ n ∧ i = .int .i64 k ∧ (l.take k).any (laterB p) = false ∧ Below w.heap.size w wr) (fun i _ => n - (intOf i).toNat)
  case atStart => exact ⟨0, Nat.zero_le _, rfl, rfl, Below.refl _ _⟩
  case round =>
    obtain ⟨k, hk, rfl, hy, hb3⟩ := hrel
    have HY := Lib.hid hy
    clear hy
    by_cases hlt : k < n
    · obtain ⟨⟨x1, x2⟩, hx⟩ : ∃ x, l[k]? = some x := ⟨_, List.getElem?_eq_getElem (by rw [HN.out]; exact hlt)⟩
      obtain ⟨b, o, rfl, hbs, hcc⟩ := (HB.out.below hb3).at k _ hx
      have hc1 := hcc 0 (.int .i64 x1) rfl
      have hc2 := hcc 1 (.int .i64 x2) rfl
      simp only [rgS, Nat.add_zero] at hc1 hc2
      have hki : (k : Int) < (n : Int) := by omega
      have ht : Hid ((l.take (k + 1)).any (laterB p) = laterB p (x1, x2)) := Lib.hid (by
        rw [List.take_add_one, hx, List.any_append, HY.out]; simp)
      have HOr := Lib.hid (HO.out.below hb3)
      clear hcc hx
      rcases hok : laterB p (x1, x2) with _ | _
      · have HOK := Lib.hid hok
        clear hok
        go_wp2_with (go_at_call 73; refine (later_clos x1 x2 Q p _ (HOr.out.below (by first | exact Below.refl _ _ | exact ba1 _ _ | exact ba2 _ _ _)) false HOK.out.symm).mono ?_; rintro e w' ⟨rfl, hb4⟩)
        exact ⟨⟨k + 1, by omega, by go_num, by rw [ht.out]; exact HOK.out, hb3.trans (hb4.mono hb3.size)⟩, by simp [intOf]; omega⟩
      · have HOK := Lib.hid hok
        clear hok
        go_wp2_with (go_at_call 73; refine (later_clos x1 x2 Q p _ (HOr.out.below (by first | exact Below.refl _ _ | exact ba1 _ _ | exact ba2 _ _ _)) true HOK.out.symm).mono ?_; rintro e w' ⟨rfl, hb4⟩)
        go_ret
        refine ⟨⟨k, rfl, .inr ⟨?_, by omega⟩⟩, hb3.trans (hb4.mono hb3.size)⟩
        rw [← List.take_append_drop (k + 1) l, List.any_append, ht.out, HOK.out]; rfl
    · have hall : l.any (laterB p) = false := by rw [← HY.out, List.take_of_length_le (by rw [HN.out]; omega)]
      have HA := Lib.hid hall
      clear hall
      go_wp2
      go_ret
      exact ⟨⟨-1, rfl, .inl ⟨HA.out, rfl⟩⟩, hb3⟩

theorem later_contains (A : Option Addr) (n c : Nat) (l : List Rg) (Q : Nat) (p : Int) (w : World) (ho : At w Q p) (hb : Ls rgS w A l) (hn : l.length = n) (h47 : n ≤ 140737488355328) (v : Bool) (hv : v = l.any (laterB p)) :
    Calls Try.prog 67 #[.slice A n c, laterF Q] w fun e w' => e = .returned (.bool v) ∧ Below w.heap.size w w' := by
  have HB := Lib.hid hb; have HN := Lib.hid hn; have HO := Lib.hid ho
  have HV := Lib.hid hv
  clear hb hn ho hv
  unfold laterF
  go_enter Try.func67, Try.ntmps67
  go_wp2_with (go_at_call 87; refine (later_index _ _ _ _ Q p _ HO.out HB.out HN.out h47).mono ?_; rintro e w1 ⟨⟨i, rfl, hi⟩, hb1⟩; have HI := Lib.hid hi; clear hi)
  go_ret
  refine ⟨?_, hb1⟩
  rw [HV.out]
  rcases HI.out with ⟨h1, rfl⟩ | ⟨h1, h2⟩
  · simp [h1]
  · simp [h1]; omega

set_option maxHeartbeats 4000000 in
theorem came_any (E : Env) (o : Nat) (ho : o = E.o) (w : World) (T : Nat → Prop) (B : Nat) (s : Hr) (h : HM E w T B s) (hbl : s.bt.length ≤ 16) (p : Int) (v : Bool) (hv : v = cameB s.dn s.bt p) :
    Calls Try.prog 89 #[.pointer (some ⟨B, o, none⟩), .int .i64 p] w fun e w' => e = .returned (.bool v) ∧ Below w.heap.size w w' := by
  obtain ⟨D, dc, Y, yc, ⟨c0, c1, c2, c3, c4, c5, c6⟩, hf, hD, hY, hk⟩ := h.cells
  have hB := h.lt
  have HY := Lib.hid hY
  obtain ⟨n, hn⟩ : ∃ n, n = s.bt.length := ⟨_, rfl⟩
  rw [← hn] at c3 hbl
  rw [← ho] at c2 c3
  have HN := Lib.hid hn
  have hBn : ¬ w.heap.size = B := by omega
  have d2 := (ba1 w (.cells #[.int .i64 p] 3)).cell (p := ⟨B, o + 2, none⟩) hB |>.trans c2
  have d3 := (ba1 w (.cells #[.int .i64 p] 3)).cell (p := ⟨B, o + 3, none⟩) hB |>.trans c3
  have HV := Lib.hid hv
  have HO := Lib.hid ho
  clear ho c0 c1 c4 c5 c6 hf hD hY hk h hn hv
  by_cases hlt : p < s.dn
  · have e0 : decide (p < s.dn) = true := by simp; omega
    obtain rfl : v = true := by rw [HV.out]; unfold cameB; rw [e0]; rfl
    go_enter Try.func89, Try.ntmps89
    go_wp2_with fail
    go_quiet (fail)
    go_wp2
    go_ret
    exact ⟨rfl, below_drewN (ba1 _ _) _⟩
  · have e0 : decide (p < s.dn) = false := by simp; omega
    have HV2 : Hid (v = s.bt.any (hasB p)) := Lib.hid (by rw [HV.out]; unfold cameB; rw [e0]; rfl)
    have HAT : Hid (At (w.alloc (.cells #[.int .i64 p] 3)) w.heap.size p) := Lib.hid ⟨(bx_new w 3 #[.int .i64 p]).cell 0 _ rfl, (bx_new w 3 #[.int .i64 p]).lt⟩
    have HC : Hid (∀ wk, Below (w.alloc (.cells #[.int .i64 p] 3)).heap.size (w.alloc (.cells #[.int .i64 p] 3)) wk → Calls Try.prog 67 #[.slice Y n yc, .func (.func 102) #[] #[.pointer (some ⟨w.heap.size, 0, none⟩)]] wk fun e w' => e = .returned (.bool v) ∧ Below wk.heap.size wk w') := Lib.hid (fun wk hk =>
      has_contains Y n yc s.bt w.heap.size p wk (HAT.out.below hk) ((HY.out.below (ba1 _ _)).below hk) HN.out.symm (by omega) v HV2.out)
    go_enter Try.func89, Try.ntmps89
    go_wp2_with fail
    have d0 := (bx_new w 3 #[.int .i64 p]).cell 0 _ rfl
    have b0 := cell_drew1 d0
    have b2 := cell_drew1 d2
    have b3 := cell_drew1 d3
    go_region_held3 (fun w' => w'.cell? ⟨w.heap.size, 0, none⟩ = some (.int .i64 p) ∧ w'.cell? ⟨B, o + 2, none⟩ = some (.int .i64 s.dn) ∧ w'.cell? ⟨B, o + 3, none⟩ = some (.slice Y n yc)) (first | (with_reducible exact ⟨m0, m1, m2⟩) | (with_reducible exact ⟨b0, b2, b3⟩) | go_keep) (first
      | (go_at_call 67; (refine (HC.out _ (Below.refl _ _).drew).mono ?_); rintro e w5 ⟨rfl, hb5⟩; have HB5 := Lib.hid hb5; have m0 := (hb5.cell (p := ⟨w.heap.size, 0, none⟩) (bx_new w 3 #[.int .i64 p]).lt).trans b0; have m1 := (hb5.cell (p := ⟨B, o + 2, none⟩) (Nat.lt_trans hB (bx_new w 3 #[.int .i64 p]).lt)).trans b2; have m2 := (hb5.cell (p := ⟨B, o + 3, none⟩) (Nat.lt_trans hB (bx_new w 3 #[.int .i64 p]).lt)).trans b3; clear hb5))
    all_goals
      go_wp2
      go_ret
      exact ⟨rfl, bthen (ba1 _ _).drew HB5.out⟩

end Go.Proofs.Ytehckiihipnimaa
