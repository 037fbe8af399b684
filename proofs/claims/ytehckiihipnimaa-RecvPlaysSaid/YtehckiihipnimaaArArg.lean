/-
  How a list of arrivals that comes in is opened.
-/
import Derived.Test.YtehckiihipnimaaRowArg
import Derived.Test.YtehckiihipnimaaHears
import Derived.Test.YtehckiihipnimaaArrs
import Derived.Deep.Fields
namespace Go.Proofs.Ytehckiihipnimaa
open Go.Joins Go.ChangeShapes Go.WideShapes Go.ChangeAt Go.RowKit Go.Deep
set_option linter.unusedVariables false

theorem arrSize : Try.prog.bytesOf 61 = 56 := by kernel_rfl
def ArIn1 (W : World) (x : Av) : Prop := (Ls byS W x.A x.a.data ∧ x.a.data.length = x.n ∧ x.n ≤ 140737488355328 ∧ (∀ z ∈ x.a.data, 0 ≤ z ∧ z ≤ 255)) ∧ i64in x.a.at_ ∧ i64in x.a.count
theorem ar_each {H : Type} {enc : TypeId × Value → H} {W : World} {fs : Array Field} (hu : Try.prog.underlying 61 = some (.struct fs)) (n : Nat) (vs : List Value) (ys : List (DataW H × List MemPlace)) (hv : vs.length = 5) (hy : ys.length = 5)
    (hf : ∀ (j : Nat) f u, fs[j]? = some f → vs[j]? = some u → DataW.trod enc Try.prog W 0 (fun _ => true) true n f.type [u] = ys[j]?) (hw : ∀ z ∈ DataW.weightsEach Try.prog (fs.toList.map (·.type)) (ys.map (·.1)), z ≤ reachBytes) :
    ∃ y : Av, arS.cells y = vs ∧ ArIn1 W y := by
  have hu' := Try.underlying61
  rw [hu] at hu'
  injection hu' with hu'
  injection hu' with hu'
  subst hu'
  match vs, ys, hv, hy with
  | [v0, v1, v2, v3, v4], [y0, y1, y2, y3, y4], _, _ =>
    have w2 : ∀ z ∈ y2.1.weights Try.prog 27, z ≤ reachBytes := fun z hz => hw z (DataW.weights_mem_each (j := 2) rfl rfl z hz)
    obtain ⟨z0, e0, -, f0⟩ := DataW.trod_int Try.underlying3 (hf 0 _ _ rfl rfl)
    obtain ⟨z1, e1, -, f1⟩ := DataW.trod_int Try.underlying3 (hf 1 _ _ rfl rfl)
    obtain ⟨b3, e3, -⟩ := DataW.trod_bool Try.underlying4 (hf 3 _ _ rfl rfl)
    obtain ⟨z4, e4, -, f4⟩ := DataW.trod_int Try.underlying3 (hf 4 _ _ rfl rfl)
    obtain ⟨A2, n2, c2, l2, rfl, g1, g2, g3, g4, g5⟩ := open_by (hf 2 _ _ rfl rfl) w2
    simp at e0 e1 e3 e4
    subst e0; subst e1; subst e3; subst e4
    have h1 : i64in z1 := by simpa [i64in, Lit.wf, IntKind.min, IntKind.max, IntKind.signed, IntKind.bits] using f1
    have h4 : i64in z4 := by simpa [i64in, Lit.wf, IntKind.min, IntKind.max, IntKind.signed, IntKind.bits] using f4
    exact ⟨⟨⟨z0, z1, l2, b3, z4⟩, A2, n2, c2⟩, rfl, ⟨g1, g2, by simp only; omega, g5⟩, h1, h4⟩

set_option maxRecDepth 100000 in
theorem open_ars {H : Type} {enc : TypeId × Value → H} {W : World} {base : Nat} {v : Value} {d : DataW H} {ps : List MemPlace}
    (hval : Value.okWide Try.prog W .any base 47 v) (h : DataW.Trod enc Try.prog W 0 (fun _ => true) true 47 v d ps) (hs : ∀ z ∈ d.weights Try.prog 47, z ≤ reachBytes) :
    ∃ A n c l, v = .slice A n c ∧ Ls arS W A l ∧ l.length = n ∧ n ≤ c ∧ c ≤ 2513169434843 ∧ ∀ x ∈ l, ArIn1 W x := by
  obtain ⟨A, n, c, rfl⟩ := okWide_slice Try.underlying47 hval
  obtain ⟨fuel, hf⟩ := h
  have hf' : DataW.trod enc Try.prog W 0 (fun _ => true) true fuel 47 [.slice A n c] = some (d, ps) := by simpa [Value.cells] using hf
  obtain ⟨A', n', c', l, h1, h2, h3, h4, h5, h6⟩ := open_rows (F := arS) (Q := ArIn1 W) Try.underlying47 Try.underlying61 (by kernel_rfl) rfl (fun j f hj => hone_of (by kernel_rfl) j f hj) (ar_each Try.underlying61) hf' hs
  rw [arrSize] at h5
  simp only [reachBytes] at h5
  injection h1 with e1 e2 e3
  subst e1; subst e2; subst e3
  exact ⟨A, n, c, l, rfl, h2, h3, h4, by omega, h6⟩

end Go.Proofs.Ytehckiihipnimaa
