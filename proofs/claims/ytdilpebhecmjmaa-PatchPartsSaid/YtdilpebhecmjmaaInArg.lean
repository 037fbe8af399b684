/-
  How a list of numbers that comes in is opened.
-/
import Derived.Test.YtdilpebhecmjmaaRowArg
import Derived.Test.YtdilpebhecmjmaaIns
namespace Go.Proofs.Ytdilpebhecmjmaa
open Go.Joins Go.ChangeShapes Go.WideShapes Go.ChangeAt Go.RowKit Go.Deep
set_option linter.unusedVariables false

theorem intSize8 : Try.prog.bytesOf 3 = 8 := by kernel_rfl
set_option maxRecDepth 100000 in
theorem open_ina {H : Type} {enc : TypeId × Value → H} {W : World} {base : Nat} {v : Value} {d : DataW H} {ps : List MemPlace}
    (hval : Value.okWide Try.prog W .any base 32 v) (h : DataW.Trod enc Try.prog W 0 (fun _ => true) true 32 v d ps) (hs : ∀ z ∈ d.weights Try.prog 32, z ≤ reachBytes) :
    ∃ A n c l, v = .slice A n c ∧ Ls inS W A l ∧ l.length = n ∧ n ≤ c ∧ c ≤ 17592186043904 ∧ ∀ z ∈ l, i64in z := by
  obtain ⟨A, n, c, rfl⟩ := okWide_slice Try.underlying32 hval
  obtain ⟨fuel, hf⟩ := h
  have hf' : DataW.trod enc Try.prog W 0 (fun _ => true) true fuel 32 [.slice A n c] = some (d, ps) := by simpa [Value.cells] using hf
  obtain ⟨A', n', c', l, h1, h2, h3, h4, h5, h6⟩ := open_nums (F := inS) (k := .i64) (fun _ => rfl) rfl Try.underlying32 Try.underlying3 (by kernel_rfl) hf' hs
  rw [intSize8] at h5
  simp only [reachBytes] at h5
  injection h1 with e1 e2 e3
  subst e1; subst e2; subst e3
  exact ⟨A, n, c, l, rfl, h2, h3, h4, by omega, fun z hz => by simpa [i64in, Lit.wf, IntKind.min, IntKind.max, IntKind.signed, IntKind.bits] using h6 z hz⟩

end Go.Proofs.Ytdilpebhecmjmaa
