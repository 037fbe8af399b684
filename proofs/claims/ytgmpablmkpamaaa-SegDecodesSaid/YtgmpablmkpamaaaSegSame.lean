/-
  Contracts of the statements' own comparisons: the same bytes, the same ranges, the same segment.
-/
import Derived.Test.YtgmpablmkpamaaaSeg5
namespace Go.Proofs.Ytgmpablmkpamaaa
open Go.RowKit
set_option linter.unusedVariables false
set_option linter.unusedSimpArgs false

theorem bytes_law (A : Option Addr) (n c : Nat) (B : Option Addr) (d : Nat) (l : List Int) (w : World) (ha : Bs w A l) (hb : Bs w B l) (hn : l.length = n) (h47 : n ≤ 140737488355328) :
    Calls Try.prog 11 #[.slice A n c, .slice B n d] w fun e w' => e = .returned (.bool true) ∧ Below w.heap.size w w' := by
  have HA := Lib.hid ha
  have HB := Lib.hid hb
  have HN := Lib.hid hn
  clear ha hb hn
  go_enter Try.func11, Try.ntmps11
  go_wp2
  go_loopw [5] (fun i wr => ∃ k : Nat, k ≤ n ∧ i = .int .i64 k ∧ Below w.heap.size w wr) (fun i _ => n - (intOf i).toNat)
  case atStart => exact ⟨0, Nat.zero_le _, rfl, Below.refl _ _⟩
  case round =>
    obtain ⟨k, hk, rfl, hb1⟩ := hrel
    by_cases hlt : k < n
    · obtain ⟨b, o, x, rfl, hc1, x0, x1, hx⟩ := (HA.out.below hb1).at k (by rw [HN.out]; exact hlt)
      obtain ⟨b', o', y, rfl, hc2, _, _, hy⟩ := (HB.out.below hb1).at k (by rw [HN.out]; exact hlt)
      obtain rfl : x = y := hx.trans hy.symm
      clear hx hy
      go_wp2
      go_quiet (fail)
      go_wp2
      go_roundw
      case rel => exact ⟨k + 1, by omega, by go_num, below_drewN hb1 _⟩
      case measure => simp [intOf]; omega
    · go_wp2
      go_ret
      exact ⟨rfl, hb1⟩

theorem bytes_keep (A : Option Addr) (n c : Nat) (B : Option Addr) (d : Nat) (l : List Int) (w : World) (ha : Bs w A l) (hb : Bs w B l) (hn : l.length = n) (h47 : n ≤ 140737488355328) :
    Calls Try.prog 18 #[.slice A n c, .slice B n d] w fun e w' => e = .returned (.bool true) ∧ Below w.heap.size w w' := by
  have HA := Lib.hid ha
  have HB := Lib.hid hb
  have HN := Lib.hid hn
  clear ha hb hn
  go_enter Try.func18, Try.ntmps18
  go_wp2
  go_loopw [5] (fun i wr => ∃ k : Nat, k ≤ n ∧ i = .int .i64 k ∧ Below w.heap.size w wr) (fun i _ => n - (intOf i).toNat)
  case atStart => exact ⟨0, Nat.zero_le _, rfl, Below.refl _ _⟩
  case round =>
    obtain ⟨k, hk, rfl, hb1⟩ := hrel
    by_cases hlt : k < n
    · obtain ⟨b, o, x, rfl, hc1, x0, x1, hx⟩ := (HA.out.below hb1).at k (by rw [HN.out]; exact hlt)
      obtain ⟨b', o', y, rfl, hc2, _, _, hy⟩ := (HB.out.below hb1).at k (by rw [HN.out]; exact hlt)
      obtain rfl : x = y := hx.trans hy.symm
      clear hx hy
      go_wp2
      go_quiet (fail)
      go_wp2
      go_roundw
      case rel => exact ⟨k + 1, by omega, by go_num, below_drewN hb1 _⟩
      case measure => simp [intOf]; omega
    · go_wp2
      go_ret
      exact ⟨rfl, hb1⟩

theorem bytes_top (A : Option Addr) (n c : Nat) (B : Option Addr) (d : Nat) (l : List Int) (w : World) (ha : Bs w A l) (hb : Bs w B l) (hn : l.length = n) (h47 : n ≤ 140737488355328) :
    Calls Try.prog 21 #[.slice A n c, .slice B n d] w fun e w' => e = .returned (.bool true) ∧ Below w.heap.size w w' := by
  have HA := Lib.hid ha
  have HB := Lib.hid hb
  have HN := Lib.hid hn
  clear ha hb hn
  go_enter Try.func21, Try.ntmps21
  go_wp2
  go_loopw [5] (fun i wr => ∃ k : Nat, k ≤ n ∧ i = .int .i64 k ∧ Below w.heap.size w wr) (fun i _ => n - (intOf i).toNat)
  case atStart => exact ⟨0, Nat.zero_le _, rfl, Below.refl _ _⟩
  case round =>
    obtain ⟨k, hk, rfl, hb1⟩ := hrel
    by_cases hlt : k < n
    · obtain ⟨b, o, x, rfl, hc1, x0, x1, hx⟩ := (HA.out.below hb1).at k (by rw [HN.out]; exact hlt)
      obtain ⟨b', o', y, rfl, hc2, _, _, hy⟩ := (HB.out.below hb1).at k (by rw [HN.out]; exact hlt)
      obtain rfl : x = y := hx.trans hy.symm
      clear hx hy
      go_wp2
      go_quiet (fail)
      go_wp2
      go_roundw
      case rel => exact ⟨k + 1, by omega, by go_num, below_drewN hb1 _⟩
      case measure => simp [intOf]; omega
    · go_wp2
      go_ret
      exact ⟨rfl, hb1⟩

theorem ranges_law (A : Option Addr) (n c : Nat) (B : Option Addr) (d : Nat) (l : List Rg) (w : World) (ha : Rs w A l) (hb : Rs w B l) (hn : l.length = n) (h47 : n ≤ 140737488355328) :
    Calls Try.prog 33 #[.slice A n c, .slice B n d] w fun e w' => e = .returned (.bool true) ∧ Below w.heap.size w w' := by
  have HA := Lib.hid ha
  have HB := Lib.hid hb
  have HN := Lib.hid hn
  clear ha hb hn
  go_enter Try.func33, Try.ntmps33
  go_wp2
  go_loopw [5] (fun i wr => ∃ k : Nat, k ≤ n ∧ i = .int .i64 k ∧ Below w.heap.size w wr) (fun i _ => n - (intOf i).toNat)
  case atStart => exact ⟨0, Nat.zero_le _, rfl, Below.refl _ _⟩
  case round =>
    obtain ⟨k, hk, rfl, hb1⟩ := hrel
    by_cases hlt : k < n
    · obtain ⟨⟨x1, x2⟩, hx, _⟩ := drop_at l k (by rw [HN.out]; exact hlt)
      obtain ⟨b, o, rfl, hbs, hc1, hc2⟩ := (HA.out.below hb1).at k _ hx
      obtain ⟨b', o', rfl, hbs', hc3, hc4⟩ := (HB.out.below hb1).at k _ hx
      clear hx
      simp only at hc1 hc2 hc3 hc4
      go_wp2
      go_quiet (fail)
      go_wp2
      go_roundw
      case rel => exact ⟨k + 1, by omega, by go_num, below_drewN hb1 _⟩
      case measure => simp [intOf]; omega
    · go_wp2
      go_ret
      exact ⟨rfl, hb1⟩

theorem ranges_keep (A : Option Addr) (n c : Nat) (B : Option Addr) (d : Nat) (l : List Rg) (w : World) (ha : Rs w A l) (hb : Rs w B l) (hn : l.length = n) (h47 : n ≤ 140737488355328) :
    Calls Try.prog 35 #[.slice A n c, .slice B n d] w fun e w' => e = .returned (.bool true) ∧ Below w.heap.size w w' := by
  have HA := Lib.hid ha
  have HB := Lib.hid hb
  have HN := Lib.hid hn
  clear ha hb hn
  go_enter Try.func35, Try.ntmps35
  go_wp2
  go_loopw [5] (fun i wr => ∃ k : Nat, k ≤ n ∧ i = .int .i64 k ∧ Below w.heap.size w wr) (fun i _ => n - (intOf i).toNat)
  case atStart => exact ⟨0, Nat.zero_le _, rfl, Below.refl _ _⟩
  case round =>
    obtain ⟨k, hk, rfl, hb1⟩ := hrel
    by_cases hlt : k < n
    · obtain ⟨⟨x1, x2⟩, hx, _⟩ := drop_at l k (by rw [HN.out]; exact hlt)
      obtain ⟨b, o, rfl, hbs, hc1, hc2⟩ := (HA.out.below hb1).at k _ hx
      obtain ⟨b', o', rfl, hbs', hc3, hc4⟩ := (HB.out.below hb1).at k _ hx
      clear hx
      simp only at hc1 hc2 hc3 hc4
      go_wp2
      go_quiet (fail)
      go_wp2
      go_roundw
      case rel => exact ⟨k + 1, by omega, by go_num, below_drewN hb1 _⟩
      case measure => simp [intOf]; omega
    · go_wp2
      go_ret
      exact ⟨rfl, hb1⟩

theorem seg_law (s : Sg) (A : Option Addr) (n c : Nat) (D : Option Addr) (m d : Nat) (A' : Option Addr) (c' : Nat) (D' : Option Addr) (d' : Nat) (w : World) (ha : SegIs w s A n D m) (hb : SegIs w s A' n D' m) (h47 : n ≤ 140737488355328) (h48 : m ≤ 140737488355328) :
    Calls Try.prog 14 #[segV s A n c D m d, segV s A' n c' D' m d'] w fun e w' => e = .returned (.bool true) ∧ Below w.heap.size w w' := by
  obtain ⟨seq, ack, win, f0, f1, f2, f3, l, zs⟩ := s
  have HA := Lib.hid ha
  have HB := Lib.hid hb
  clear ha hb
  unfold segV
  simp only at *
  go_enter Try.func14, Try.ntmps14
  go_wp2_with (first
    | (go_at_call 33; refine (ranges_law A n c A' c' l _ (HA.out.1.below (by first | exact ba1 _ _ | exact ba2 _ _ _)) (HB.out.1.below (by first | exact ba1 _ _ | exact ba2 _ _ _)) HA.out.2.1 h47).mono ?_; rintro e w1 ⟨rfl, hb1⟩; have q1 := hb1.cell (p := ⟨w.heap.size, 8, none⟩) (by simp <;> omega); have q2 := hb1.cell (p := ⟨w.heap.size + 1, 8, none⟩) (by simp <;> omega); simp at q1 q2; have H1 := Lib.hid (bthen (ba2 _ _ _) hb1); clear hb1)
    | (go_at_call 11; refine (bytes_law D m d D' d' zs _ (HA.out.2.2.1.below H1.out) (HB.out.2.2.1.below H1.out) HA.out.2.2.2 h48).mono ?_; rintro e w2 ⟨rfl, hb2⟩; have H2 := Lib.hid (bthen H1.out hb2); clear hb2))
  go_ret
  exact ⟨rfl, H2.out⟩

theorem seg_keep (s : Sg) (A : Option Addr) (n c : Nat) (D : Option Addr) (m d : Nat) (A' : Option Addr) (c' : Nat) (D' : Option Addr) (d' : Nat) (w : World) (ha : SegIs w s A n D m) (hb : SegIs w s A' n D' m) (h47 : n ≤ 140737488355328) (h48 : m ≤ 140737488355328) :
    Calls Try.prog 16 #[segV s A n c D m d, segV s A' n c' D' m d'] w fun e w' => e = .returned (.bool true) ∧ Below w.heap.size w w' := by
  obtain ⟨seq, ack, win, f0, f1, f2, f3, l, zs⟩ := s
  have HA := Lib.hid ha
  have HB := Lib.hid hb
  clear ha hb
  unfold segV
  simp only at *
  go_enter Try.func16, Try.ntmps16
  go_wp2_with (first
    | (go_at_call 35; refine (ranges_keep A n c A' c' l _ (HA.out.1.below (by first | exact ba1 _ _ | exact ba2 _ _ _)) (HB.out.1.below (by first | exact ba1 _ _ | exact ba2 _ _ _)) HA.out.2.1 h47).mono ?_; rintro e w1 ⟨rfl, hb1⟩; have q1 := hb1.cell (p := ⟨w.heap.size, 8, none⟩) (by simp <;> omega); have q2 := hb1.cell (p := ⟨w.heap.size + 1, 8, none⟩) (by simp <;> omega); simp at q1 q2; have H1 := Lib.hid (bthen (ba2 _ _ _) hb1); clear hb1)
    | (go_at_call 18; refine (bytes_keep D m d D' d' zs _ (HA.out.2.2.1.below H1.out) (HB.out.2.2.1.below H1.out) HA.out.2.2.2 h48).mono ?_; rintro e w2 ⟨rfl, hb2⟩; have H2 := Lib.hid (bthen H1.out hb2); clear hb2))
  go_ret
  exact ⟨rfl, H2.out⟩

end Go.Proofs.Ytgmpablmkpamaaa
