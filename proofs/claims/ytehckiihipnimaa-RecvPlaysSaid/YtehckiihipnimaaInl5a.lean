/-
  The document's Inlet: a look-up, as an equation; how many bytes a box has.
-/
import Derived.Test.YtehckiihipnimaaInl1
namespace Go.Proofs.Ytehckiihipnimaa
open Go.RowKit Go.Maps
set_option linter.unusedVariables false
set_option linter.unusedSimpArgs false

theorem MapIs.look {w : World} {b K : Nat} {M : Int → Option Int} (hown : MapIs w b K M) (z : Int) (hz : i64in z) :
    (Instr.lookup 119 (.map (some b)) (.int .i64 z) true).run Try.prog w = .ok (.tuple #[.int .u8 ((M z).getD 0), .bool (M z).isSome]) w := by
  obtain ⟨D, h1, h2⟩ := hown
  obtain ⟨v, ps, hrun, hv⟩ := h1.look_ok lawI Try.underlying119 (zeroU w) (zd := .lit (.int .u8 0)) (zp := []) (plainElem_int Try.underlying5 (by decide)) (keyOf_int_mk Try.underlying3 (wf_i hz))
  obtain ⟨c, rfl, hc, -⟩ := plainElem_int_inv Try.underlying5 hv
  have hc := congrArg Prod.fst hc
  simp only at hc
  have hcc : c = (M z).getD 0 := by
    rcases hM : M z with _ | c'
    · have hh := (h2 z hz).1
      rw [hM] at hh
      rw [atKey_of_not_has hh] at hc
      have h0 : (0 : Int) = c := by simpa using hc
      rw [← h0]
      rfl
    · rw [(h2 z hz).2 c' hM] at hc
      have h0 : c' = c := by simpa using hc
      rw [← h0]
      rfl
  rw [hrun, (h2 z hz).1, hcc]
/-- how long the bytes in a box of 'told' are -/
def lenAt (w : World) (q : Nat) : Nat := match w.cell? ⟨q, 4, none⟩ with
  | some (.slice _ n _) => n
  | _ => 0
theorem lenAt_eq {w : World} {q : Nat} {A : Option Addr} {n c : Nat} (h : w.cell? ⟨q, 4, none⟩ = some (.slice A n c)) : lenAt w q = n := by unfold lenAt; rw [h]

end Go.Proofs.Ytehckiihipnimaa
