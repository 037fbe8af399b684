/-
  The document's askFault.
-/
import Derived.Test.YtelfnlocgknpjaaMRefHas
import Derived.Test.YtelfnlocgknpjaaMFace
import Derived.Test.YtelfnlocgknpjaaMReply
namespace Go.Proofs.Ytelfnlocgknpjaa
open Go.RowKit
set_option linter.unusedVariables false
set_option linter.unusedSimpArgs false

theorem ffour_ok (v : Int) (w : World) (h : 0 ≤ v ∧ v ≤ 4294967295) :
    Calls Try.prog 48 #[.int .i64 v] w fun e w' => e = .returned (.bool true) ∧ w = w' := by
  have h1 : 0 ≤ v := h.1
  have h2 : v ≤ 4294967295 := h.2
  go_enter Try.func48, Try.ntmps48
  go_wp2_with fail
  go_ret
  exact ⟨rfl, rfl⟩
theorem ffour_no (v : Int) (w : World) (h : v < 0 ∨ 4294967295 < v) :
    Calls Try.prog 48 #[.int .i64 v] w fun e w' => e = .returned (.bool false) ∧ w = w' := by
  by_cases h0 : v < 0
  · have h1 : ¬ 0 ≤ v := by omega
    clear h
    go_enter Try.func48, Try.ntmps48
    go_wp2_with fail
    go_ret
    exact ⟨rfl, rfl⟩
  · have h1 : 0 ≤ v := by omega
    have h2 : ¬ v ≤ 4294967295 := by omega
    clear h
    go_enter Try.func48, Try.ntmps48
    go_wp2_with fail
    go_ret
    exact ⟨rfl, rfl⟩

theorem neq_empty (q : Byt) (ww : World) : (binOp .neq 9 (.string (tx q)) (.string { data := #[] })).run Try.prog ww = .ok (.bool (!q.isEmpty)) ww := by
  have h : (binOp .neq 9 (.string (tx q)) (.string (tx []))).run Try.prog ww = .ok (.bool (!q.isEmpty)) ww := by simp [go_sem, tx_toList]
  exact h
theorem eg_empty (q : Byt) (x y : Operand) (ww : World) : (eqGuard .neq 9 x y (.string (tx q)) (.string { data := #[] })).run Try.prog ww = .ok () ww := rfl
theorem has_at (l : Byt) (b : Int) (v : Bool) (w : World) (hl : l.length ≤ 16) (h : hasI l b = v) :
    Calls Try.prog 47 #[.string (tx l), .int .u8 b] w fun e w' => e = .returned (.bool v) ∧ w' = w := by
  rw [← h]
  exact has_any l b w hl
theorem chk_bad {L : List Int} (h : (2 : Int) ∈ L) : chkT L = 2 := by
  unfold chkT
  rw [if_pos (List.any_eq_true.2 ⟨2, h, by decide⟩)]
theorem chk_one {L : List Int} (h : (1 : Int) ∈ L) (h2 : ¬ (2 : Int) ∈ L) : chkT L = 1 := by
  unfold chkT
  rw [if_neg (by rw [List.any_eq_true]; rintro ⟨x, hx, e⟩; rw [beq_iff_eq] at e; exact h2 (e ▸ hx)), if_pos (List.any_eq_true.2 ⟨1, h, by decide⟩)]

end Go.Proofs.Ytelfnlocgknpjaa
