/-
  The program's sender: hear (what is refused ahead of the ranges).
-/
import Derived.Test.YtehckiihipnimaaSndr4
import Derived.Test.YtehckiihipnimaaOutlet3
namespace Go.Proofs.Ytehckiihipnimaa
open Go.RowKit
set_option linter.unusedVariables false
set_option linter.unusedSimpArgs false

set_option maxRecDepth 100000 in
set_option maxHeartbeats 2000000 in
theorem hear_range (w : World) (T : Nat → Prop) (B : Nat) (dt : List Int) (cl : Bool) (sn ag : Nat) (dn : Int) (bt : List Rg) (ed : Int) (h : SM w T B dt cl sn ag dn bt ed) (kd ack win : Int) (A : Option Addr) (n c : Nat) (S : Option Addr) (m e : Nat)
    (hr : ack < 0 ∨ (sn : Int) < ack ∨ win < 0 ∨ 65535 < win) :
    Calls Try.prog 48 #[.pointer (some ⟨B, 0, none⟩), .agg #[.int .i64 kd, .slice A n c, .int .i64 ack, .int .i64 win, .slice S m e]] w fun e w' => e = .returned (.int .i64 2) ∧ Below w.heap.size w w' := by
  obtain ⟨D, dc, Y, yc, ⟨c0, c1, c2, c3, c4, c5, c6⟩, -, -, -⟩ := h.cells
  have hB := h.lt
  have hBn : ¬ w.heap.size = B := by omega
  have hBn1 : ¬ w.heap.size + 1 = B := by omega
  clear c0 c1 c3 c4 c5 c6 h
  have hc : ack < 0 ∨ (0 ≤ ack ∧ (sn : Int) < ack) ∨ (0 ≤ ack ∧ ack ≤ sn ∧ win < 0) ∨ (0 ≤ ack ∧ ack ≤ sn ∧ 0 ≤ win ∧ 65535 < win) := by omega
  clear hr
  rcases hc with k0 | ⟨k0, k1⟩ | ⟨k0, k1, k2⟩ | ⟨k0, k1, k2, k3⟩
  · have e0 : decide (ack < 0) = true := by simp; omega
    go_enter Try.func48, Try.ntmps48
    go_wp2_with fail
    go_quiet (fail)
    go_wp2
    go_ret
    exact ⟨rfl, below_drewN (ba2 _ _ _) _⟩
  · have e0 : decide (ack < 0) = false := by simp; omega
    have e1 : decide ((sn : Int) < ack) = true := by simp; omega
    go_enter Try.func48, Try.ntmps48
    go_wp2_with fail
    go_quiet (fail)
    go_wp2
    go_ret
    exact ⟨rfl, below_drewN (ba2 _ _ _) _⟩
  · have e0 : decide (ack < 0) = false := by simp; omega
    have e1 : decide ((sn : Int) < ack) = false := by simp; omega
    have e2 : decide (win < 0) = true := by simp; omega
    go_enter Try.func48, Try.ntmps48
    go_wp2_with fail
    go_quiet (fail)
    go_wp2
    go_ret
    exact ⟨rfl, below_drewN (ba2 _ _ _) _⟩
  · have e0 : decide (ack < 0) = false := by simp; omega
    have e1 : decide ((sn : Int) < ack) = false := by simp; omega
    have e2 : decide (win < 0) = false := by simp; omega
    have e3 : decide (65535 < win) = true := by simp; omega
    go_enter Try.func48, Try.ntmps48
    go_wp2_with fail
    go_quiet (fail)
    go_wp2
    go_ret
    exact ⟨rfl, below_drewN (ba2 _ _ _) _⟩

set_option maxRecDepth 100000 in
set_option maxHeartbeats 4000000 in
theorem hear_odd (w : World) (T : Nat → Prop) (B : Nat) (dt : List Int) (cl : Bool) (sn ag : Nat) (dn : Int) (bt : List Rg) (ed : Int) (h : SM w T B dt cl sn ag dn bt ed) (kd ack win : Int) (A : Option Addr) (n c : Nat) (S : Option Addr) (m e : Nat) (sk : List Rg) (hS : Ls rgS w S sk) (hm : sk.length = m) (hmm : m ≤ 140737488351232)
    (hr : ¬ (ack < 0 ∨ (sn : Int) < ack ∨ win < 0 ∨ 65535 < win)) (cc : Int) (hcc : (3 < m ∧ cc = 1) ∨ (¬ 3 < m ∧ sk.all (okS sn) = false ∧ cc = 2)) :
    Calls Try.prog 48 #[.pointer (some ⟨B, 0, none⟩), .agg #[.int .i64 kd, .slice A n c, .int .i64 ack, .int .i64 win, .slice S m e]] w fun e w' => e = .returned (.int .i64 cc) ∧ Below w.heap.size w w' := by
  obtain ⟨D, dc, Y, yc, ⟨c0, c1, c2, c3, c4, c5, c6⟩, -, -, -⟩ := h.cells
  have hB := h.lt
  have hBn : ¬ w.heap.size = B := by omega
  have hBn1 : ¬ w.heap.size + 1 = B := by omega
  have C2 := Lib.hid c2
  have HS := Lib.hid hS
  have HM := Lib.hid hm
  clear c0 c1 c3 c4 c5 c6 h hS hm
  have e0 : decide (ack < 0) = false := by simp; omega
  have e1 : decide ((sn : Int) < ack) = false := by simp; omega
  have e2 : decide (win < 0) = false := by simp; omega
  have e3 : decide (65535 < win) = false := by simp; omega
  clear hr
  rcases hcc with ⟨k0, rfl⟩ | ⟨k0, k1, rfl⟩
  · have hm3 : (3 : Int) < (m : Int) := by omega
    go_enter Try.func48, Try.ntmps48
    go_wp2_with fail
    go_quiet (fail)
    go_wp2
    go_ret
    exact ⟨rfl, below_drewN (ba2 _ _ _) _⟩
  · have hm3 : ¬ (3 : Int) < (m : Int) := by omega
    have hv : Hid (true = !sk.all (okS sn)) := Lib.hid (by rw [k1]; rfl)
    clear k1
    go_enter Try.func48, Try.ntmps48
    go_wp2_with fail
    go_quiet (fail)
    obtain ⟨w1, hw1⟩ : ∃ w1, w1 = World.drewN ((w.alloc (.cells #[.pointer (some ⟨B, 0, none⟩)] 105)).alloc (.cells #[.int .i64 kd, .slice A n c, .int .i64 ack, .int .i64 win, .slice S m e] 39)) nq := ⟨_, rfl⟩
    have HB1 : Hid (Below w.heap.size w w1) := Lib.hid (by rw [hw1]; exact below_drewN (ba2 _ _ _) _)
    have X2 : Bx 105 w1 w.heap.size #[.pointer (some ⟨B, 0, none⟩)] := by rw [hw1]; exact ((bx_new _ _ _).below (ba1 _ _)).below (below_drewN (Below.refl _ _) _)
    have X3 : Bx 39 w1 (w.heap.size + 1) #[.int .i64 kd, .slice A n c, .int .i64 ack, .int .i64 win, .slice S m e] := by
      rw [hw1]
      have := bx_new (w.alloc (.cells #[.pointer (some ⟨B, 0, none⟩)] 105)) 39 #[.int .i64 kd, .slice A n c, .int .i64 ack, .int .i64 win, .slice S m e]
      rw [World.size_alloc] at this
      exact this.below (below_drewN (Below.refl _ _) _)
    have HOD : Hid (Odd w1 w.heap.size B sn) := Lib.hid ⟨X2.cell 0 _ rfl, X2.lt, (HB1.out.cell (p := ⟨B, 2, none⟩) hB).trans C2.out, Nat.lt_of_lt_of_le hB HB1.out.size⟩
    rw [← hw1]
    clear hw1 c2
    have d4 := X3.cell 4 (.slice S m e) rfl
    clear X2 X3
    go_wp2_with (go_at_call 67; refine (scontains_any S m e sk w.heap.size B sn w1 HOD.out (HS.out.below HB1.out) HM.out (by omega) true hv.out).mono ?_; rintro e w6 ⟨rfl, hb6⟩; have HB6 := Lib.hid hb6; clear hb6)
    go_ret
    exact ⟨rfl, bthen HB1.out HB6.out⟩

end Go.Proofs.Ytehckiihipnimaa
