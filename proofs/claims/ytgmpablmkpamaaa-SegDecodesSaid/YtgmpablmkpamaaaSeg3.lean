/-
  Contracts of package seg's inner functions: check; numbers laid behind bytes.
-/
import Derived.Test.YtgmpablmkpamaaaSeg2
namespace Go.Proofs.Ytgmpablmkpamaaa
open Go.RowKit
set_option linter.unusedVariables false
set_option linter.unusedSimpArgs false

def chkV (seq ack win : Int) (f0 f1 f2 f3 : Bool) (A : Option Addr) (n c : Nat) (D : Option Addr) (m d : Nat) : Value :=
  .agg #[.int .i64 seq, .int .i64 ack, .int .i64 win, .bool f0, .bool f1, .bool f2, .bool f3, .slice A n c, .slice D m d]

theorem check_serial (seq ack win : Int) (f0 f1 f2 f3 : Bool) (A : Option Addr) (n c : Nat) (D : Option Addr) (m d : Nat) (w : World) (h : sm seq = false ∨ sm ack = false) :
    Calls Try.prog 22 #[chkV seq ack win f0 f1 f2 f3 A n c D m d] w fun e w' => e = .returned (.int .i64 2) ∧ Below w.heap.size w w' := by
  have H := Lib.hid h
  clear h
  unfold chkV
  go_enter Try.func22, Try.ntmps22
  go_wp2_with (go_at_call 39; refine (ser_no _ _ _ _ (by first | rfl | simp) H.out).mono ?_; rintro e w' ⟨rfl, rfl⟩)
  go_ret
  exact ⟨rfl, by first | exact ba1 _ _ | exact ba2 _ _ _⟩

theorem check_win (seq ack win : Int) (f0 f1 f2 f3 : Bool) (A : Option Addr) (n c : Nat) (D : Option Addr) (m d : Nat) (w : World) (h : sm seq = true ∧ sm ack = true) (hw : win < 0 ∨ 65535 < win) :
    Calls Try.prog 22 #[chkV seq ack win f0 f1 f2 f3 A n c D m d] w fun e w' => e = .returned (.int .i64 2) ∧ Below w.heap.size w w' := by
  have H := Lib.hid h
  clear h
  unfold chkV
  have hw' : win < 0 ∨ (0 ≤ win ∧ 65535 < win) := by omega
  clear hw
  rcases hw' with hw | ⟨hw0, hw⟩
  all_goals
    go_enter Try.func22, Try.ntmps22
    go_wp2_with (go_at_call 39; refine (ser_ok _ _ _ _ (by first | rfl | simp) H.out).mono ?_; rintro e w' ⟨rfl, rfl⟩)
    go_ret
    exact ⟨rfl, by first | exact ba1 _ _ | exact ba2 _ _ _⟩

theorem check_size (seq ack win : Int) (f0 f1 f2 f3 : Bool) (A : Option Addr) (n c : Nat) (D : Option Addr) (m d : Nat) (w : World) (h : sm seq = true ∧ sm ack = true) (hw0 : 0 ≤ win) (hw : win ≤ 65535) (hs : 3 < n ∨ 64 < m) :
    Calls Try.prog 22 #[chkV seq ack win f0 f1 f2 f3 A n c D m d] w fun e w' => e = .returned (.int .i64 1) ∧ Below w.heap.size w w' := by
  have H := Lib.hid h
  clear h
  unfold chkV
  have hs' : 3 < n ∨ (n ≤ 3 ∧ 64 < m) := by omega
  clear hs
  rcases hs' with hs | ⟨hs0, hs⟩
  all_goals
    go_enter Try.func22, Try.ntmps22
    go_wp2_with (go_at_call 39; refine (ser_ok _ _ _ _ (by first | rfl | simp) H.out).mono ?_; rintro e w' ⟨rfl, rfl⟩)
    go_ret
    exact ⟨rfl, by first | exact ba1 _ _ | exact ba2 _ _ _⟩

theorem check_sack (seq ack win : Int) (f0 f1 f2 f3 : Bool) (A : Option Addr) (n c : Nat) (D : Option Addr) (m d : Nat) (l : List Rg) (w : World) (h : sm seq = true ∧ sm ack = true) (hw0 : 0 ≤ win) (hw : win ≤ 65535) (hs : n ≤ 3) (hs2 : m ≤ 64)
    (hb : Rs w A l) (hn : l.length = n) (ho : l.all okR = false) :
    Calls Try.prog 22 #[chkV seq ack win f0 f1 f2 f3 A n c D m d] w fun e w' => e = .returned (.int .i64 2) ∧ Below w.heap.size w w' := by
  have H := Lib.hid h; have HB := Lib.hid hb; have HN := Lib.hid hn; have HO := Lib.hid ho
  clear h hb hn ho
  unfold chkV
  go_enter Try.func22, Try.ntmps22
  go_wp2_with (first
      | (go_at_call 39; refine (ser_ok _ _ _ _ (by first | rfl | simp) H.out).mono ?_; rintro e w' ⟨rfl, rfl⟩)
      | (go_at_call 40; refine (contains_any A n c l _ (HB.out.below (ba2 _ _ _)) HN.out (by omega)).mono ?_; rw [HO.out]; rintro e w1 ⟨rfl, hb1⟩))
  go_ret
  exact ⟨rfl, bthen (ba2 _ _ _) hb1⟩

set_option maxHeartbeats 4000000 in
theorem check_form (seq ack win : Int) (f0 f1 f2 f3 : Bool) (A : Option Addr) (n c : Nat) (D : Option Addr) (m d : Nat) (l : List Rg) (w : World) (h : sm seq = true ∧ sm ack = true) (hw0 : 0 ≤ win) (hw : win ≤ 65535) (hs : n ≤ 3) (hs2 : m ≤ 64)
    (hb : Rs w A l) (hn : l.length = n) (ho : l.all okR = true) (hf3 : f3 = false) (hx : ack ≠ 0 ∨ win ≠ 0 ∨ 0 < n) :
    Calls Try.prog 22 #[chkV seq ack win f0 f1 f2 f3 A n c D m d] w fun e w' => e = .returned (.int .i64 4) ∧ Below w.heap.size w w' := by
  have H := Lib.hid h; have HB := Lib.hid hb; have HN := Lib.hid hn; have HO := Lib.hid ho
  clear h hb hn ho
  unfold chkV
  subst hf3
  have hx' : (ack ≠ 0) ∨ (ack = 0 ∧ win ≠ 0) ∨ (ack = 0 ∧ win = 0 ∧ 0 < n) := by omega
  clear hx
  rcases hx' with hx | ⟨rfl, hy⟩ | ⟨rfl, rfl, hz⟩
  all_goals
    go_enter Try.func22, Try.ntmps22
    go_wp2_with (first
      | (go_at_call 39; refine (ser_ok _ _ _ _ (by first | rfl | simp) H.out).mono ?_; rintro e w' ⟨rfl, rfl⟩)
      | (go_at_call 40; refine (contains_any A n c l _ (HB.out.below (ba2 _ _ _)) HN.out (by omega)).mono ?_; rw [HO.out]; rintro e w1 ⟨rfl, hb1⟩; have k6 := hb1.cell (p := ⟨w.heap.size, 6, none⟩) (by simp <;> omega); simp at k6; have k1 := hb1.cell (p := ⟨w.heap.size, 1, none⟩) (by simp <;> omega); simp at k1; have k2 := hb1.cell (p := ⟨w.heap.size, 2, none⟩) (by simp <;> omega); simp at k2; have k7 := hb1.cell (p := ⟨w.heap.size, 7, none⟩) (by simp <;> omega); simp at k7))
    go_ret
    exact ⟨rfl, bthen (ba2 _ _ _) hb1⟩

set_option maxHeartbeats 4000000 in
theorem check_ok (seq ack win : Int) (f0 f1 f2 f3 : Bool) (A : Option Addr) (n c : Nat) (D : Option Addr) (m d : Nat) (l : List Rg) (w : World) (h : sm seq = true ∧ sm ack = true) (hw0 : 0 ≤ win) (hw : win ≤ 65535) (hs : n ≤ 3) (hs2 : m ≤ 64)
    (hb : Rs w A l) (hn : l.length = n) (ho : l.all okR = true) (hf3 : f3 = true ∨ ack = 0 ∧ win = 0 ∧ n = 0) :
    Calls Try.prog 22 #[chkV seq ack win f0 f1 f2 f3 A n c D m d] w fun e w' => e = .returned (.int .i64 0) ∧ Below w.heap.size w w' := by
  have H := Lib.hid h; have HB := Lib.hid hb; have HN := Lib.hid hn; have HO := Lib.hid ho
  clear h hb hn ho
  unfold chkV
  have hf' : f3 = true ∨ (f3 = false ∧ ack = 0 ∧ win = 0 ∧ n = 0) := by cases f3 <;> simp_all
  clear hf3
  rcases hf' with rfl | ⟨rfl, rfl, rfl, rfl⟩
  all_goals
    go_enter Try.func22, Try.ntmps22
    go_wp2_with (first
      | (go_at_call 39; refine (ser_ok _ _ _ _ (by first | rfl | simp) H.out).mono ?_; rintro e w' ⟨rfl, rfl⟩)
      | (go_at_call 40; refine (contains_any A _ c l _ (HB.out.below (ba2 _ _ _)) HN.out (by omega)).mono ?_; rw [HO.out]; rintro e w1 ⟨rfl, hb1⟩; have k6 := hb1.cell (p := ⟨w.heap.size, 6, none⟩) (by simp <;> omega); simp at k6; have k1 := hb1.cell (p := ⟨w.heap.size, 1, none⟩) (by simp <;> omega); simp at k1; have k2 := hb1.cell (p := ⟨w.heap.size, 2, none⟩) (by simp <;> omega); simp at k2; have k7 := hb1.cell (p := ⟨w.heap.size, 7, none⟩) (by simp <;> omega); simp at k7))
    go_ret
    exact ⟨rfl, bthen (ba2 _ _ _) hb1⟩

/-- the same for a segment as a whole -/
theorem check_any (s : Sg) (A : Option Addr) (n c : Nat) (D : Option Addr) (m d : Nat) (w : World) (hb : Rs w A s.sacks) (hn : s.sacks.length = n) (hm : s.data.length = m) :
    Calls Try.prog 22 #[segV s A n c D m d] w fun e w' => e = .returned (.int .i64 (fault s)) ∧ Below w.heap.size w w' := by
  obtain ⟨seq, ack, win, f0, f1, f2, f3, l, zs⟩ := s
  simp only at hb hn hm
  change Calls _ _ #[chkV seq ack win f0 f1 f2 f3 A n c D m d] w _
  unfold fault
  simp only [hn, hm]
  by_cases h1 : sm seq = true ∧ sm ack = true
  · by_cases h2 : sm win = true
    · have e1 : ¬ (sm seq && sm ack && sm win) = false := by simp [h1.1, h1.2, h2]
      rw [if_neg e1]
      rw [sm_t] at h2
      by_cases h3 : 3 < n ∨ 64 < m
      · rw [if_pos h3]
        exact check_size _ _ _ _ _ _ _ _ _ _ _ _ _ _ h1 h2.1 h2.2 h3
      · rw [if_neg h3]
        by_cases h4 : l.all okR = false
        · rw [if_pos h4]
          exact check_sack _ _ _ _ _ _ _ _ _ _ _ _ _ l _ h1 h2.1 h2.2 (by omega) (by omega) hb hn h4
        · rw [if_neg h4]
          have h4' : l.all okR = true := by simpa using h4
          have hl : l ≠ [] ↔ 0 < n := by rw [← hn]; exact List.length_pos_iff.symm
          by_cases h5 : f3 = false ∧ (ack ≠ 0 ∨ win ≠ 0 ∨ l ≠ [])
          · rw [if_pos h5]
            exact check_form _ _ _ _ _ _ _ _ _ _ _ _ _ l _ h1 h2.1 h2.2 (by omega) (by omega) hb hn h4' h5.1 (by rw [← hl]; exact h5.2)
          · rw [if_neg h5]
            refine check_ok _ _ _ _ _ _ _ _ _ _ _ _ _ l _ h1 h2.1 h2.2 (by omega) (by omega) hb hn h4' ?_
            cases f3
            · right
              rw [hl] at h5
              simp only [true_and] at h5
              omega
            · left; rfl
    · have h2' : sm win = false := by simpa using h2
      have e1 : (sm seq && sm ack && sm win) = false := by simp [h2']
      rw [if_pos e1]
      exact check_win _ _ _ _ _ _ _ _ _ _ _ _ _ _ h1 (sm_f.1 h2')
  · have h1' : sm seq = false ∨ sm ack = false := by
      cases g : sm seq
      · exact .inl rfl
      · cases g2 : sm ack
        · exact .inr rfl
        · exact absurd ⟨g, g2⟩ h1
    have e1 : (sm seq && sm ack && sm win) = false := by rcases h1' with g | g <;> simp [g]
    rw [if_pos e1]
    exact check_serial _ _ _ _ _ _ _ _ _ _ _ _ _ _ h1'

end Go.Proofs.Ytgmpablmkpamaaa
