/-
  How a list of deeds that comes in is opened.
-/
import Derived.Test.YtehckiihipnimaaRowArg
import Derived.Test.YtehckiihipnimaaSents
import Derived.Deep.Fields
namespace Go.Proofs.Ytehckiihipnimaa
open Go.Joins Go.ChangeShapes Go.WideShapes Go.ChangeAt Go.RowKit Go.Deep
set_option linter.unusedVariables false

theorem byteSize1 : Try.prog.bytesOf 5 = 1 := by kernel_rfl
theorem rangeSize : Try.prog.bytesOf 44 = 16 := by kernel_rfl
theorem deedSize : Try.prog.bytesOf 39 = 72 := by kernel_rfl

/-- bytes of a struct's field -/
theorem open_by {H : Type} {enc : TypeId × Value → H} {W : World} {v : Value} {fuel : Nat} {x : DataW H × List MemPlace} (h : DataW.trod enc Try.prog W 0 (fun _ => true) true fuel 27 [v] = some x) (hw : ∀ z ∈ x.1.weights Try.prog 27, z ≤ reachBytes) :
    ∃ A n c l, v = .slice A n c ∧ Ls byS W A l ∧ l.length = n ∧ n ≤ c ∧ c ≤ 140737488351232 ∧ ∀ z ∈ l, 0 ≤ z ∧ z ≤ 255 := by
  obtain ⟨A, n, c, l, h1, h2, h3, h4, h5, h6⟩ := open_nums (F := byS) (k := .u8) (fun _ => rfl) rfl Try.underlying27 Try.underlying5 (by kernel_rfl) h hw
  rw [byteSize1] at h5
  simp only [reachBytes] at h5
  exact ⟨A, n, c, l, h1, h2, h3, h4, by omega, fun z hz => by simpa [Lit.wf, IntKind.min, IntKind.max, IntKind.signed, IntKind.bits] using h6 z hz⟩
/-- ranges of a struct's field -/
theorem open_rg2 {H : Type} {enc : TypeId × Value → H} {W : World} {v : Value} {fuel : Nat} {x : DataW H × List MemPlace} (h : DataW.trod enc Try.prog W 0 (fun _ => true) true fuel 37 [v] = some x) (hw : ∀ z ∈ x.1.weights Try.prog 37, z ≤ reachBytes) :
    ∃ A n c l, v = .slice A n c ∧ Ls rgS W A l ∧ l.length = n ∧ n ≤ c ∧ c ≤ 8796093021952 := by
  obtain ⟨A, n, c, l, h1, h2, h3, h4, h5, -⟩ := open_rows (F := rgS) (Q := fun _ => True) Try.underlying37 Try.underlying44 (by kernel_rfl) rfl (fun j f hj => hone_of (by kernel_rfl) j f hj) (fun n vs ys hv hy hf _ => by
    match vs, ys, hv, hy with
    | [v0, v1], [y0, y1], _, _ =>
      obtain ⟨z0, e0, _⟩ := DataW.trod_int Try.underlying3 (hf 0 _ _ rfl rfl)
      obtain ⟨z1, e1, _⟩ := DataW.trod_int Try.underlying3 (hf 1 _ _ rfl rfl)
      simp at e0 e1
      subst e0; subst e1
      exact ⟨(z0, z1), rfl, trivial⟩) h hw
  rw [rangeSize] at h5
  simp only [reachBytes] at h5
  exact ⟨A, n, c, l, h1, h2, h3, h4, by omega⟩

def DIn1 (W : World) (x : Dv) : Prop := Ls byS W x.A x.d.data ∧ x.d.data.length = x.n ∧ Ls rgS W x.S x.d.sacks ∧ x.d.sacks.length = x.m ∧ x.n ≤ 140737488355328 ∧ x.m ≤ 140737488351232
theorem de_each {H : Type} {enc : TypeId × Value → H} {W : World} {fs : Array Field} (hu : Try.prog.underlying 39 = some (.struct fs)) (n : Nat) (vs : List Value) (ys : List (DataW H × List MemPlace)) (hv : vs.length = 5) (hy : ys.length = 5)
    (hf : ∀ (j : Nat) f u, fs[j]? = some f → vs[j]? = some u → DataW.trod enc Try.prog W 0 (fun _ => true) true n f.type [u] = ys[j]?) (hw : ∀ z ∈ DataW.weightsEach Try.prog (fs.toList.map (·.type)) (ys.map (·.1)), z ≤ reachBytes) :
    ∃ y : Dv, deS.cells y = vs ∧ DIn1 W y := by
  have hu' := Try.underlying39
  rw [hu] at hu'
  injection hu' with hu'
  injection hu' with hu'
  subst hu'
  match vs, ys, hv, hy with
  | [v0, v1, v2, v3, v4], [y0, y1, y2, y3, y4], _, _ =>
    have w1 : ∀ z ∈ y1.1.weights Try.prog 27, z ≤ reachBytes := fun z hz => hw z (DataW.weights_mem_each (j := 1) rfl rfl z hz)
    have w4 : ∀ z ∈ y4.1.weights Try.prog 37, z ≤ reachBytes := fun z hz => hw z (DataW.weights_mem_each (j := 4) rfl rfl z hz)
    obtain ⟨z0, e0, _⟩ := DataW.trod_int Try.underlying3 (hf 0 _ _ rfl rfl)
    obtain ⟨z2, e2, _⟩ := DataW.trod_int Try.underlying3 (hf 2 _ _ rfl rfl)
    obtain ⟨z3, e3, _⟩ := DataW.trod_int Try.underlying3 (hf 3 _ _ rfl rfl)
    obtain ⟨A1, n1, c1, l1, rfl, g1, g2, g3, g4, -⟩ := open_by (hf 1 _ _ rfl rfl) w1
    obtain ⟨A4, n4, c4, l4, rfl, k1, k2, k3, k4⟩ := open_rg2 (hf 4 _ _ rfl rfl) w4
    simp at e0 e2 e3
    subst e0; subst e2; subst e3
    exact ⟨⟨⟨z0, l1, z2, z3, l4⟩, A1, n1, c1, A4, n4, c4⟩, rfl, g1, g2, k1, k2, by simp only; omega, by simp only; omega⟩

set_option maxRecDepth 100000 in
theorem open_des {H : Type} {enc : TypeId × Value → H} {W : World} {base : Nat} {v : Value} {d : DataW H} {ps : List MemPlace}
    (hval : Value.okWide Try.prog W .any base 22 v) (h : DataW.Trod enc Try.prog W 0 (fun _ => true) true 22 v d ps) (hs : ∀ z ∈ d.weights Try.prog 22, z ≤ reachBytes) :
    ∃ A n c l, v = .slice A n c ∧ Ls deS W A l ∧ l.length = n ∧ n ≤ c ∧ c ≤ 1954687338215 ∧ DIn W l := by
  obtain ⟨A, n, c, rfl⟩ := okWide_slice Try.underlying22 hval
  obtain ⟨fuel, hf⟩ := h
  have hf' : DataW.trod enc Try.prog W 0 (fun _ => true) true fuel 22 [.slice A n c] = some (d, ps) := by simpa [Value.cells] using hf
  obtain ⟨A', n', c', l, h1, h2, h3, h4, h5, h6⟩ := open_rows (F := deS) (Q := DIn1 W) Try.underlying22 Try.underlying39 (by kernel_rfl) rfl (fun j f hj => hone_of (by kernel_rfl) j f hj) (de_each Try.underlying39) hf' hs
  rw [deedSize] at h5
  simp only [reachBytes] at h5
  injection h1 with e1 e2 e3
  subst e1; subst e2; subst e3
  exact ⟨A, n, c, l, rfl, h2, h3, h4, by omega, h6⟩

end Go.Proofs.Ytehckiihipnimaa
