/-
  Contract of packthreadref.segFault: in the words of seg.check.
-/
import Derived.Test.YtgmpablmkpamaaaSeg3
namespace Go.Proofs.Ytgmpablmkpamaaa
open Go.RowKit
set_option linter.unusedVariables false
set_option linter.unusedSimpArgs false

theorem may_t (n : Int) (w : World) (h : sm n = true) :
    Calls Try.prog 42 #[.int .i64 n] w fun e w' => e = .returned (.bool true) ∧ w = w' := by
  rw [sm_t] at h
  obtain ⟨h0, h1⟩ := h
  have z : decide (n ≤ 65535) = true := by simp; omega
  go_enter Try.func42, Try.ntmps42
  go_wp2
  go_ret
  exact ⟨rfl, rfl⟩
theorem may_f (n : Int) (w : World) (h : sm n = false) :
    Calls Try.prog 42 #[.int .i64 n] w fun e w' => e = .returned (.bool false) ∧ w = w' := by
  rw [sm_f] at h
  rcases h with h | h
  · go_enter Try.func42, Try.ntmps42
    go_wp2
    go_ret
    exact ⟨rfl, rfl⟩
  · have z : decide (n ≤ 65535) = false := by simp; omega
    go_enter Try.func42, Try.ntmps42
    go_wp2
    go_ret
    exact ⟨rfl, rfl⟩

theorem rf_serial (seq ack win : Int) (f0 f1 f2 f3 : Bool) (A : Option Addr) (n c : Nat) (D : Option Addr) (m d : Nat) (w : World) (h : sm seq = false ∨ sm ack = false) :
    Calls Try.prog 26 #[chkV seq ack win f0 f1 f2 f3 A n c D m d] w fun e w' => e = .returned (.int .i64 2) ∧ Below w.heap.size w w' := by
  have h' : sm seq = false ∨ (sm seq = true ∧ sm ack = false) := by cases g : sm seq <;> simp_all
  clear h
  unfold chkV
  rcases h' with h | ⟨g, h⟩
  · have H := Lib.hid h
    clear h
    go_enter Try.func26, Try.ntmps26
    go_wp2_with (go_at_call 42; refine (may_f _ _ H.out).mono ?_; rintro e w' ⟨rfl, rfl⟩)
    go_ret
    exact ⟨rfl, ba1 _ _⟩
  · have H := Lib.hid h; have G := Lib.hid g
    clear h g
    go_enter Try.func26, Try.ntmps26
    go_wp2_with (first
      | (go_at_call 42; (with_reducible refine (may_t seq _ G.out).mono ?_); rintro e w' ⟨rfl, rfl⟩)
      | (go_at_call 42; (with_reducible refine (may_f ack _ H.out).mono ?_); rintro e w' ⟨rfl, rfl⟩))
    go_ret
    exact ⟨rfl, ba1 _ _⟩

theorem rf_win (seq ack win : Int) (f0 f1 f2 f3 : Bool) (A : Option Addr) (n c : Nat) (D : Option Addr) (m d : Nat) (w : World) (h : sm seq = true ∧ sm ack = true) (hw : win < 0 ∨ 65535 < win) :
    Calls Try.prog 26 #[chkV seq ack win f0 f1 f2 f3 A n c D m d] w fun e w' => e = .returned (.int .i64 2) ∧ Below w.heap.size w w' := by
  have G := Lib.hid h.1; have H := Lib.hid h.2
  clear h
  unfold chkV
  have hw' : win < 0 ∨ (0 ≤ win ∧ 65535 < win) := by omega
  clear hw
  rcases hw' with hw | ⟨hw0, hw⟩
  all_goals
    go_enter Try.func26, Try.ntmps26
    go_wp2_with (first
      | (go_at_call 42; (with_reducible refine (may_t seq _ G.out).mono ?_); rintro e w' ⟨rfl, rfl⟩)
      | (go_at_call 42; (with_reducible refine (may_t ack _ H.out).mono ?_); rintro e w' ⟨rfl, rfl⟩))
    go_ret
    exact ⟨rfl, ba1 _ _⟩

theorem rf_size (seq ack win : Int) (f0 f1 f2 f3 : Bool) (A : Option Addr) (n c : Nat) (D : Option Addr) (m d : Nat) (w : World) (h : sm seq = true ∧ sm ack = true) (hw0 : 0 ≤ win) (hw : win ≤ 65535) (hs : 3 < n ∨ 64 < m) :
    Calls Try.prog 26 #[chkV seq ack win f0 f1 f2 f3 A n c D m d] w fun e w' => e = .returned (.int .i64 1) ∧ Below w.heap.size w w' := by
  have G := Lib.hid h.1; have H := Lib.hid h.2
  clear h
  unfold chkV
  have hs' : 3 < n ∨ (n ≤ 3 ∧ 64 < m) := by omega
  clear hs
  rcases hs' with hs | ⟨hs0, hs⟩
  all_goals
    go_enter Try.func26, Try.ntmps26
    go_wp2_with (first
      | (go_at_call 42; (with_reducible refine (may_t seq _ G.out).mono ?_); rintro e w' ⟨rfl, rfl⟩)
      | (go_at_call 42; (with_reducible refine (may_t ack _ H.out).mono ?_); rintro e w' ⟨rfl, rfl⟩))
    go_ret
    exact ⟨rfl, ba1 _ _⟩

set_option maxHeartbeats 8000000 in
theorem rf_rest (seq ack win : Int) (f0 f1 f2 f3 : Bool) (A : Option Addr) (n c : Nat) (D : Option Addr) (m d : Nat) (l : List Rg) (r : Int) (w : World) (h : sm seq = true ∧ sm ack = true) (hw0 : 0 ≤ win) (hw : win ≤ 65535) (hs : n ≤ 3) (hs2 : m ≤ 64)
    (hb : Rs w A l) (hn : l.length = n) (hr : r = if l.all okR = false then 2 else if f3 = false ∧ (ack ≠ 0 ∨ win ≠ 0 ∨ 0 < n) then 4 else 0) :
    Calls Try.prog 26 #[chkV seq ack win f0 f1 f2 f3 A n c D m d] w fun e w' => e = .returned (.int .i64 r) ∧ Below w.heap.size w w' := by
  have G := Lib.hid h.1; have H := Lib.hid h.2; have HB := Lib.hid hb; have HN := Lib.hid hn; have HR := Lib.hid hr
  clear h hb hn hr
  unfold chkV
  go_enter Try.func26, Try.ntmps26
  go_wp2_with (first
    | (go_at_call 42; (with_reducible refine (may_t seq _ G.out).mono ?_); rintro e w' ⟨rfl, rfl⟩)
    | (go_at_call 42; (with_reducible refine (may_t ack _ H.out).mono ?_); rintro e w' ⟨rfl, rfl⟩))
  obtain ⟨wa, hwa⟩ : ∃ wa, wa = w.alloc (.cells #[.int .i64 seq, .int .i64 ack, .int .i64 win, .bool f0, .bool f1, .bool f2, .bool f3, .slice A n c, .slice D m d] 25) := ⟨_, rfl⟩
  have hba : Below w.heap.size w wa := by subst hwa; exact ba1 _ _
  have hza : wa.heap.size = w.heap.size + 1 := by subst hwa; simp
  have k1 : wa.cell? ⟨w.heap.size, 1, none⟩ = some (.int .i64 ack) := by subst hwa; simp
  have k2 : wa.cell? ⟨w.heap.size, 2, none⟩ = some (.int .i64 win) := by subst hwa; simp
  have k6 : wa.cell? ⟨w.heap.size, 6, none⟩ = some (.bool f3) := by subst hwa; simp
  have k7 : wa.cell? ⟨w.heap.size, 7, none⟩ = some (.slice A n c) := by subst hwa; simp
  rw [← hwa]
  have HBA := Lib.hid hba
  clear hwa hba
  go_loopw [38] (fun i wr => ∃ k : Nat, k ≤ n ∧ i = .int .i64 k ∧ (l.take k).all okR = true ∧ Below (w.heap.size + 1) wa wr) (fun i _ => n - (intOf i).toNat)
  case atStart => exact ⟨0, Nat.zero_le _, rfl, rfl, Below.refl _ _⟩
  case round =>
    obtain ⟨k, hk, rfl, hy, hb3⟩ := hrel
    have HY := Lib.hid hy
    have hz3 := hb3.size
    have HB3 : Hid (Below w.heap.size w wr) := Lib.hid (bthen' HBA.out (by omega) hb3)
    have e1 := (hb3.cell (p := ⟨w.heap.size, 1, none⟩) (by simp)).trans k1
    have e2 := (hb3.cell (p := ⟨w.heap.size, 2, none⟩) (by simp)).trans k2
    have e6 := (hb3.cell (p := ⟨w.heap.size, 6, none⟩) (by simp)).trans k6
    have e7 := (hb3.cell (p := ⟨w.heap.size, 7, none⟩) (by simp)).trans k7
    have hlw : w.heap.size < wr.heap.size := by omega
    clear hy
    by_cases hlt : k < n
    · obtain ⟨⟨x1, x2⟩, hx, hd⟩ := drop_at l k (by rw [HN.out]; exact hlt)
      obtain ⟨b, o, rfl, hbs, hc1, hc2⟩ := (HB.out.below HB3.out).at k _ hx
      have ht : Hid ((l.take (k + 1)).all okR = okR (x1, x2)) := Lib.hid (by
        rw [List.take_add_one, hx, List.all_append, HY.out]; simp)
      clear hd hx
      simp only at hc1 hc2
      by_cases h1 : sm x1 = true
      · by_cases h2 : sm x2 = true
        · have hok : Hid (okR (x1, x2) = true) := Lib.hid (by simp [okR, h1, h2])
          have G1 := Lib.hid h1; have G2 := Lib.hid h2
          clear h1 h2
          go_wp2_with (first
            | (go_at_call 42; (with_reducible refine (may_t x1 _ G1.out).mono ?_); rintro e w' ⟨rfl, rfl⟩)
            | (go_at_call 42; (with_reducible refine (may_t x2 _ G2.out).mono ?_); rintro e w' ⟨rfl, rfl⟩))
          go_roundw
          case rel => exact ⟨k + 1, by omega, by go_num, by rw [ht.out]; exact hok.out, hb3.alloc (by omega) _⟩
          case measure => simp [intOf]; omega
        · have hok : Hid (okR (x1, x2) = false) := Lib.hid (by simp [okR, h1, h2])
          have G1 := Lib.hid h1; have G2 := Lib.hid (Bool.eq_false_iff.2 h2)
          clear h1 h2
          go_wp2_with (first
            | (go_at_call 42; (with_reducible refine (may_t x1 _ G1.out).mono ?_); rintro e w' ⟨rfl, rfl⟩)
            | (go_at_call 42; (with_reducible refine (may_f x2 _ G2.out).mono ?_); rintro e w' ⟨rfl, rfl⟩))
          go_ret
          have hr : r = 2 := by
            rw [HR.out, if_pos]
            rw [← List.take_append_drop (k + 1) l, List.all_append, ht.out, hok.out]; rfl
          exact ⟨by rw [hr]; rfl, HB3.out.alloc HB3.out.size _⟩
      · have hok : Hid (okR (x1, x2) = false) := Lib.hid (by simp [okR, h1])
        have G1 := Lib.hid (Bool.eq_false_iff.2 h1)
        clear h1
        go_wp2_with (go_at_call 42; (with_reducible refine (may_f x1 _ G1.out).mono ?_); rintro e w' ⟨rfl, rfl⟩)
        go_ret
        have hr : r = 2 := by
          rw [HR.out, if_pos]
          rw [← List.take_append_drop (k + 1) l, List.all_append, ht.out, hok.out]; rfl
        exact ⟨by rw [hr]; rfl, HB3.out.alloc HB3.out.size _⟩
    · have hall : l.all okR = true := by rw [← HY.out, List.take_of_length_le (by rw [HN.out]; omega)]
      have HA := Lib.hid hall
      have hf : f3 = true ∨ (f3 = false ∧ ack ≠ 0) ∨ (f3 = false ∧ ack = 0 ∧ win ≠ 0) ∨ (f3 = false ∧ ack = 0 ∧ win = 0 ∧ 0 < n) ∨ (f3 = false ∧ ack = 0 ∧ win = 0 ∧ n = 0) := by
        cases f3 <;> simp <;> omega
      clear hall
      rcases hf with rfl | ⟨rfl, hx⟩ | ⟨rfl, rfl, hx⟩ | ⟨rfl, rfl, rfl, hx⟩ | ⟨rfl, rfl, rfl, rfl⟩
      all_goals
        go_wp2
        go_ret
        refine ⟨?_, HB3.out⟩
        rw [HR.out, HA.out]
        simp
        try assumption
        try omega

/-- the same for a segment as a whole -/
theorem rf_any (s : Sg) (A : Option Addr) (n c : Nat) (D : Option Addr) (m d : Nat) (w : World) (hb : Rs w A s.sacks) (hn : s.sacks.length = n) (hm : s.data.length = m) :
    Calls Try.prog 26 #[segV s A n c D m d] w fun e w' => e = .returned (.int .i64 (fault s)) ∧ Below w.heap.size w w' := by
  obtain ⟨seq, ack, win, f0, f1, f2, f3, l, zs⟩ := s
  simp only at hb hn hm
  change Calls _ _ #[chkV seq ack win f0 f1 f2 f3 A n c D m d] w _
  unfold fault
  simp only [hn, hm]
  by_cases h1 : sm seq = true ∧ sm ack = true
  · by_cases h2 : sm win = true
    · have e1 : ¬ (sm seq && sm ack && sm win) = false := by simp [h1.1, h1.2, h2]
      rw [if_neg e1]
      rw [sm_t] at h2
      by_cases h3 : 3 < n ∨ 64 < m
      · rw [if_pos h3]
        exact rf_size _ _ _ _ _ _ _ _ _ _ _ _ _ _ h1 h2.1 h2.2 h3
      · rw [if_neg h3]
        have hl : l ≠ [] ↔ 0 < n := by rw [← hn]; exact List.length_pos_iff.symm
        refine rf_rest _ _ _ _ _ _ _ _ _ _ _ _ _ l _ _ h1 h2.1 h2.2 (by omega) (by omega) hb hn ?_
        simp only [hl]
    · have h2' : sm win = false := by simpa using h2
      have e1 : (sm seq && sm ack && sm win) = false := by simp [h2']
      rw [if_pos e1]
      exact rf_win _ _ _ _ _ _ _ _ _ _ _ _ _ _ h1 (sm_f.1 h2')
  · have h1' : sm seq = false ∨ sm ack = false := by
      cases g : sm seq
      · exact .inl rfl
      · cases g2 : sm ack
        · exact .inr rfl
        · exact absurd ⟨g, g2⟩ h1
    have e1 : (sm seq && sm ack && sm win) = false := by rcases h1' with g | g <;> simp [g]
    rw [if_pos e1]
    exact rf_serial _ _ _ _ _ _ _ _ _ _ _ _ _ _ h1'

end Go.Proofs.Ytgmpablmkpamaaa
