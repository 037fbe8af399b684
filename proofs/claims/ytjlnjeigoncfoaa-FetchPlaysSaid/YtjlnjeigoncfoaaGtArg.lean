/-
  How a list of Gots that comes in is opened.
-/
import Derived.Test.YtjlnjeigoncfoaaRowArg
import Derived.Test.YtjlnjeigoncfoaaFtMem
import Derived.Deep.Fields
namespace Go.Proofs.Ytjlnjeigoncfoaa
open Go.Joins Go.ChangeShapes Go.WideShapes Go.ChangeAt Go.RowKit Go.Deep
set_option linter.unusedVariables false

theorem gtrSize : Try.prog.bytesOf 42 = 40 := by kernel_rfl
def GtIn1 (W : World) (x : Gv) : Prop := Ls byS W x.A x.g.data ∧ x.g.data.length = x.n ∧ x.n ≤ 140737488355328 ∧ (∀ z ∈ x.g.data, 0 ≤ z ∧ z ≤ 255)
theorem gt_each {H : Type} {enc : TypeId × Value → H} {W : World} {fs : Array Field} (hu : Try.prog.underlying 42 = some (.struct fs)) (n : Nat) (vs : List Value) (ys : List (DataW H × List MemPlace)) (hv : vs.length = 3) (hy : ys.length = 3)
    (hf : ∀ (j : Nat) f u, fs[j]? = some f → vs[j]? = some u → DataW.trod enc Try.prog W 0 (fun _ => true) true n f.type [u] = ys[j]?) (hw : ∀ z ∈ DataW.weightsEach Try.prog (fs.toList.map (·.type)) (ys.map (·.1)), z ≤ reachBytes) :
    ∃ y : Gv, gtS.cells y = vs ∧ GtIn1 W y := by
  have hu' := Try.underlying42
  rw [hu] at hu'
  injection hu' with hu'
  injection hu' with hu'
  subst hu'
  match vs, ys, hv, hy with
  | [v0, v1, v2], [y0, y1, y2], _, _ =>
    have w2 : ∀ z ∈ y2.1.weights Try.prog 28, z ≤ reachBytes := fun z hz => hw z (DataW.weights_mem_each (j := 2) rfl rfl z hz)
    obtain ⟨z0, e0, -, f0⟩ := DataW.trod_int Try.underlying3 (hf 0 _ _ rfl rfl)
    obtain ⟨z1, e1, -, f1⟩ := DataW.trod_int Try.underlying3 (hf 1 _ _ rfl rfl)
    obtain ⟨A2, n2, c2, l2, rfl, g1, g2, g3, g4, g5⟩ := open_by (hf 2 _ _ rfl rfl) w2
    simp at e0 e1
    subst e0; subst e1
    exact ⟨⟨⟨z0, z1, l2⟩, A2, n2, c2⟩, rfl, g1, g2, by simp only; omega, g5⟩

set_option maxRecDepth 100000 in
theorem open_gts {H : Type} {enc : TypeId × Value → H} {W : World} {base : Nat} {v : Value} {d : DataW H} {ps : List MemPlace}
    (hval : Value.okWide Try.prog W .any base 22 v) (h : DataW.Trod enc Try.prog W 0 (fun _ => true) true 22 v d ps) (hs : ∀ z ∈ d.weights Try.prog 22, z ≤ reachBytes) :
    ∃ A n c l, v = .slice A n c ∧ Ls gtS W A l ∧ l.length = n ∧ n ≤ c ∧ c ≤ 3518437208881 ∧ ∀ x ∈ l, GtIn1 W x := by
  obtain ⟨A, n, c, rfl⟩ := okWide_slice Try.underlying22 hval
  obtain ⟨fuel, hf⟩ := h
  have hf' : DataW.trod enc Try.prog W 0 (fun _ => true) true fuel 22 [.slice A n c] = some (d, ps) := by simpa [Value.cells] using hf
  obtain ⟨A', n', c', l, h1, h2, h3, h4, h5, h6⟩ := open_rows (F := gtS) (Q := GtIn1 W) Try.underlying22 Try.underlying42 (by kernel_rfl) rfl (fun j f hj => hone_of (by kernel_rfl) j f hj) (gt_each Try.underlying42) hf' hs
  rw [gtrSize] at h5
  simp only [reachBytes] at h5
  injection h1 with e1 e2 e3
  subst e1; subst e2; subst e3
  exact ⟨A, n, c, l, rfl, h2, h3, h4, by omega, h6⟩

end Go.Proofs.Ytjlnjeigoncfoaa
