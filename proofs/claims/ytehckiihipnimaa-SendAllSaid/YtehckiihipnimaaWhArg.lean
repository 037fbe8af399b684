/-
  How a list of wishes that comes in is opened.
-/
import Derived.Test.YtehckiihipnimaaDeArg
import Derived.Test.YtehckiihipnimaaWish
namespace Go.Proofs.Ytehckiihipnimaa
open Go.Joins Go.ChangeShapes Go.WideShapes Go.ChangeAt Go.RowKit Go.Deep
set_option linter.unusedVariables false

theorem wishSize : Try.prog.bytesOf 93 = 48 := by kernel_rfl
theorem i64ok_of {a : Int} (h : (Lit.int .i64 a).wf = true) : i64ok a := by
  simpa [i64ok, Lit.wf, IntKind.min, IntKind.max, IntKind.signed, IntKind.bits] using h
theorem wh_each {H : Type} {enc : TypeId × Value → H} {W : World} {fs : Array Field} (hu : Try.prog.underlying 93 = some (.struct fs)) (n : Nat) (vs : List Value) (ys : List (DataW H × List MemPlace)) (hv : vs.length = 4) (hy : ys.length = 4)
    (hf : ∀ (j : Nat) f u, fs[j]? = some f → vs[j]? = some u → DataW.trod enc Try.prog W 0 (fun _ => true) true n f.type [u] = ys[j]?) (hw : ∀ z ∈ DataW.weightsEach Try.prog (fs.toList.map (·.type)) (ys.map (·.1)), z ≤ reachBytes) :
    ∃ y : Wv, whS.cells y = vs ∧ WIn1 W y := by
  have hu' := Try.underlying93
  rw [hu] at hu'
  injection hu' with hu'
  injection hu' with hu'
  subst hu'
  match vs, ys, hv, hy with
  | [v0, v1, v2, v3], [y0, y1, y2, y3], _, _ =>
    have w1 : ∀ z ∈ y1.1.weights Try.prog 27, z ≤ reachBytes := fun z hz => hw z (DataW.weights_mem_each (j := 1) rfl rfl z hz)
    obtain ⟨z0, e0, _, o0⟩ := DataW.trod_int Try.underlying3 (hf 0 _ _ rfl rfl)
    obtain ⟨z2, e2, _, o2⟩ := DataW.trod_int Try.underlying3 (hf 2 _ _ rfl rfl)
    obtain ⟨z3, e3, _, o3⟩ := DataW.trod_int Try.underlying3 (hf 3 _ _ rfl rfl)
    obtain ⟨A1, n1, c1, l1, rfl, g1, g2, g3, g4, -⟩ := open_by (hf 1 _ _ rfl rfl) w1
    simp at e0 e2 e3
    subst e0; subst e2; subst e3
    exact ⟨⟨z0, l1, z2, z3, A1, n1, c1⟩, rfl, g1, g2, g3, g4, i64ok_of o0, i64ok_of o2, i64ok_of o3⟩

set_option maxRecDepth 100000 in
theorem open_whs {H : Type} {enc : TypeId × Value → H} {W : World} {base : Nat} {v : Value} {d : DataW H} {ps : List MemPlace}
    (hval : Value.okWide Try.prog W .any base 32 v) (h : DataW.Trod enc Try.prog W 0 (fun _ => true) true 32 v d ps) (hs : ∀ z ∈ d.weights Try.prog 32, z ≤ reachBytes) :
    ∃ A n c l, v = .slice A n c ∧ Ls whS W A l ∧ l.length = n ∧ n ≤ c ∧ c ≤ 3518437208782 ∧ WIn W l := by
  obtain ⟨A, n, c, rfl⟩ := okWide_slice Try.underlying32 hval
  obtain ⟨fuel, hf⟩ := h
  have hf' : DataW.trod enc Try.prog W 0 (fun _ => true) true fuel 32 [.slice A n c] = some (d, ps) := by simpa [Value.cells] using hf
  obtain ⟨A', n', c', l, h1, h2, h3, h4, h5, h6⟩ := open_rows (F := whS) (Q := WIn1 W) Try.underlying32 Try.underlying93 (by kernel_rfl) rfl (fun j f hj => hone_of (by kernel_rfl) j f hj) (wh_each Try.underlying93) hf' hs
  rw [wishSize] at h5
  simp only [reachBytes] at h5
  injection h1 with e1 e2 e3
  subst e1; subst e2; subst e3
  exact ⟨A, n, c, l, rfl, h2, h3, h4, by omega, h6⟩

set_option maxRecDepth 100000 in
/-- bytes that come in -/
theorem open_bya {H : Type} {enc : TypeId × Value → H} {W : World} {base : Nat} {v : Value} {d : DataW H} {ps : List MemPlace}
    (hval : Value.okWide Try.prog W .any base 27 v) (h : DataW.Trod enc Try.prog W 0 (fun _ => true) true 27 v d ps) (hs : ∀ z ∈ d.weights Try.prog 27, z ≤ reachBytes) :
    ∃ A n c l, v = .slice A n c ∧ Ls byS W A l ∧ l.length = n ∧ n ≤ c ∧ c ≤ 140737488351232 ∧ ∀ z ∈ l, 0 ≤ z ∧ z ≤ 255 := by
  obtain ⟨A, n, c, rfl⟩ := okWide_slice Try.underlying27 hval
  obtain ⟨fuel, hf⟩ := h
  have hf' : DataW.trod enc Try.prog W 0 (fun _ => true) true fuel 27 [.slice A n c] = some (d, ps) := by simpa [Value.cells] using hf
  obtain ⟨A', n', c', l, h1, h2, h3, h4, h5, h6⟩ := open_by hf' hs
  injection h1 with e1 e2 e3
  subst e1; subst e2; subst e3
  exact ⟨A, n, c, l, rfl, h2, h3, h4, h5, h6⟩

end Go.Proofs.Ytehckiihipnimaa
