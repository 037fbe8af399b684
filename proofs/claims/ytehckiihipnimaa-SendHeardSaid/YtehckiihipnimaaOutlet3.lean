/-
  The document's Outlet: hears (what is refused).
-/
import Derived.Test.YtehckiihipnimaaOutlet2
namespace Go.Proofs.Ytehckiihipnimaa
open Go.RowKit
set_option linter.unusedVariables false
set_option linter.unusedSimpArgs false

/-- a deed as a value -/
def ddC (d : Dd) (A : Option Addr) (n c : Nat) (S : Option Addr) (m e : Nat) : Array Value := #[.int .i64 d.kind, .slice A n c, .int .i64 d.ack, .int .i64 d.win, .slice S m e]
/-- a deed's lists in memory -/
structure DdIs (w : World) (d : Dd) (A : Option Addr) (n : Nat) (S : Option Addr) (m : Nat) : Prop where
  data : Ls byS w A d.data
  dlen : d.data.length = n
  sacks : Ls rgS w S d.sacks
  slen : d.sacks.length = m
theorem DdIs.new {w w' : World} {d : Dd} {A : Option Addr} {n : Nat} {S : Option Addr} {m : Nat} (h : DdIs w d A n S m) (hb : Below w.heap.size w w') : DdIs w' d A n S m := ⟨h.data.below hb, h.dlen, h.sacks.below hb, h.slen⟩
theorem only_drewN {S : Nat → Prop} {w0 w : World} (h : Only S w0 w) : ∀ n, Only S w0 (w.drewN n)
  | 0 => h
  | n + 1 => by first | exact only_drewN h.drew n | exact (only_drewN h n).drew

def RetH (w : World) (T : Nat → Prop) (B : Nat) (r : Int × Sd) (e : Ending) (w' : World) : Prop :=
  e = .returned (.int .i64 r.1) ∧ Outl w' T B r.2 ∧ Only (fun k => k = B) w w'

theorem hears_range (w : World) (T : Nat → Prop) (B : Nat) (s : Sd) (d : Dd) (A : Option Addr) (n c : Nat) (S : Option Addr) (m e : Nat) (h : Outl w T B s)
    (hr : d.ack < 0 ∨ (s.sent : Int) < d.ack ∨ d.win < 0 ∨ 65535 < d.win) :
    Calls Try.prog 53 #[.pointer (some ⟨B, 0, none⟩), .agg (ddC d A n c S m e)] w (RetH w T B (2, s)) := by
  obtain ⟨D, cd, K, ck, ⟨c0, c1, c2, c3, c4, c5⟩, -, -, -⟩ := h.cells
  obtain ⟨ack, hack⟩ : ∃ a, a = d.ack := ⟨_, rfl⟩
  obtain ⟨win, hwin⟩ : ∃ a, a = d.win := ⟨_, rfl⟩
  obtain ⟨sn, hsn⟩ : ∃ a, a = s.sent := ⟨_, rfl⟩
  unfold ddC
  rw [← hack, ← hwin, ← hsn] at hr
  rw [← hack, ← hwin]
  rw [← hsn] at c3
  have hB := h.lt
  have hBn : ¬ w.heap.size = B := by omega
  have H := Lib.hid h
  have hc : ack < 0 ∨ (0 ≤ ack ∧ (sn : Int) < ack) ∨ (0 ≤ ack ∧ ack ≤ sn ∧ win < 0) ∨ (0 ≤ ack ∧ ack ≤ sn ∧ 0 ≤ win ∧ 65535 < win) := by omega
  clear hr h hack hwin hsn
  rcases hc with k0 | ⟨k0, k1⟩ | ⟨k0, k1, k2⟩ | ⟨k0, k1, k2, k3⟩
  · have e0 : decide (ack < 0) = true := by simp; omega
    go_enter Try.func53, Try.ntmps53
    go_wp2_with fail
    go_quiet (fail)
    go_wp2
    go_ret
    exact ⟨rfl, H.out.new (below_drewN (ba1 _ _) _), only_drewN (only_new (ba1 _ _)) _⟩
  · have e0 : decide (ack < 0) = false := by simp; omega
    have e1 : decide ((sn : Int) < ack) = true := by simp; omega
    go_enter Try.func53, Try.ntmps53
    go_wp2_with fail
    go_quiet (fail)
    go_wp2
    go_ret
    exact ⟨rfl, H.out.new (below_drewN (ba1 _ _) _), only_drewN (only_new (ba1 _ _)) _⟩
  · have e0 : decide (ack < 0) = false := by simp; omega
    have e1 : decide ((sn : Int) < ack) = false := by simp; omega
    have e2 : decide (win < 0) = true := by simp; omega
    go_enter Try.func53, Try.ntmps53
    go_wp2_with fail
    go_quiet (fail)
    go_wp2
    go_ret
    exact ⟨rfl, H.out.new (below_drewN (ba1 _ _) _), only_drewN (only_new (ba1 _ _)) _⟩
  · have e0 : decide (ack < 0) = false := by simp; omega
    have e1 : decide ((sn : Int) < ack) = false := by simp; omega
    have e2 : decide (win < 0) = false := by simp; omega
    have e3 : decide (65535 < win) = true := by simp; omega
    go_enter Try.func53, Try.ntmps53
    go_wp2_with fail
    go_quiet (fail)
    go_wp2
    go_ret
    exact ⟨rfl, H.out.new (below_drewN (ba1 _ _) _), only_drewN (only_new (ba1 _ _)) _⟩

theorem hears_size (w : World) (T : Nat → Prop) (B : Nat) (s : Sd) (d : Dd) (A : Option Addr) (n c : Nat) (S : Option Addr) (m e : Nat) (h : Outl w T B s)
    (hr : ¬ (d.ack < 0 ∨ (s.sent : Int) < d.ack ∨ d.win < 0 ∨ 65535 < d.win)) (hm : 3 < m) (hmm : m ≤ 140737488351232) :
    Calls Try.prog 53 #[.pointer (some ⟨B, 0, none⟩), .agg (ddC d A n c S m e)] w (RetH w T B (1, s)) := by
  obtain ⟨D, cd, K, ck, ⟨c0, c1, c2, c3, c4, c5⟩, -, -, -⟩ := h.cells
  obtain ⟨ack, hack⟩ : ∃ a, a = d.ack := ⟨_, rfl⟩
  obtain ⟨win, hwin⟩ : ∃ a, a = d.win := ⟨_, rfl⟩
  obtain ⟨sn, hsn⟩ : ∃ a, a = s.sent := ⟨_, rfl⟩
  unfold ddC
  rw [← hack, ← hwin, ← hsn] at hr
  rw [← hack, ← hwin]
  rw [← hsn] at c3
  have hB := h.lt
  have hBn : ¬ w.heap.size = B := by omega
  have H := Lib.hid h
  have e0 : decide (ack < 0) = false := by simp; omega
  have e1 : decide ((sn : Int) < ack) = false := by simp; omega
  have e2 : decide (win < 0) = false := by simp; omega
  have e3 : decide (65535 < win) = false := by simp; omega
  have hm3 : (3 : Int) < (m : Int) := by omega
  clear hr h hack hwin hsn
  go_enter Try.func53, Try.ntmps53
  go_wp2_with fail
  go_quiet (fail)
  go_wp2
  go_ret
  exact ⟨rfl, H.out.new (below_drewN (ba1 _ _) _), only_drewN (only_new (ba1 _ _)) _⟩

end Go.Proofs.Ytehckiihipnimaa
