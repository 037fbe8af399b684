/-
  How a list of pieces that comes in is opened.
-/
import Derived.Test.YtdilpebhecmjmaaRowArg
import Derived.Test.YtdilpebhecmjmaaPc
import Derived.Deep.Fields
namespace Go.Proofs.Ytdilpebhecmjmaa
open Go.Joins Go.ChangeShapes Go.WideShapes Go.ChangeAt Go.RowKit Go.Deep
set_option linter.unusedVariables false

theorem pcrSize : Try.prog.bytesOf 39 = 48 := by kernel_rfl
def PcIn1 (W : World) (x : Pv) : Prop := Ls byS W x.A x.p.data ∧ x.p.data.length = x.n ∧ x.n ≤ 140737488351232 ∧ i64in x.p.from_ ∧ i64in x.p.len
theorem pc_each {H : Type} {enc : TypeId × Value → H} {W : World} {fs : Array Field} (hu : Try.prog.underlying 39 = some (.struct fs)) (n : Nat) (vs : List Value) (ys : List (DataW H × List MemPlace)) (hv : vs.length = 4) (hy : ys.length = 4)
    (hf : ∀ (j : Nat) f u, fs[j]? = some f → vs[j]? = some u → DataW.trod enc Try.prog W 0 (fun _ => true) true n f.type [u] = ys[j]?) (hw : ∀ z ∈ DataW.weightsEach Try.prog (fs.toList.map (·.type)) (ys.map (·.1)), z ≤ reachBytes) :
    ∃ y : Pv, pcS.cells y = vs ∧ PcIn1 W y := by
  have hu' := Try.underlying39
  rw [hu] at hu'
  injection hu' with hu'
  injection hu' with hu'
  subst hu'
  match vs, ys, hv, hy with
  | [v0, v1, v2, v3], [y0, y1, y2, y3], _, _ =>
    have w3 : ∀ z ∈ y3.1.weights Try.prog 22, z ≤ reachBytes := fun z hz => hw z (DataW.weights_mem_each (j := 3) rfl rfl z hz)
    obtain ⟨b0, e0, -⟩ := DataW.trod_bool Try.underlying4 (hf 0 _ _ rfl rfl)
    obtain ⟨z1, e1, -, f1⟩ := DataW.trod_int Try.underlying3 (hf 1 _ _ rfl rfl)
    obtain ⟨z2, e2, -, f2⟩ := DataW.trod_int Try.underlying3 (hf 2 _ _ rfl rfl)
    obtain ⟨A3, n3, c3, l3, rfl, g1, g2, g3, g4, g5⟩ := open_by (hf 3 _ _ rfl rfl) w3
    simp at e0 e1 e2
    subst e0; subst e1; subst e2
    have t1 : i64in z1 := by simpa [Lit.wf, IntKind.min, IntKind.max, IntKind.signed, IntKind.bits, i64in] using f1
    have t2 : i64in z2 := by simpa [Lit.wf, IntKind.min, IntKind.max, IntKind.signed, IntKind.bits, i64in] using f2
    exact ⟨⟨⟨b0, z1, z2, l3⟩, A3, n3, c3⟩, rfl, g1, g2, by simp only; omega, t1, t2⟩

set_option maxRecDepth 100000 in
theorem open_pcs {H : Type} {enc : TypeId × Value → H} {W : World} {base : Nat} {v : Value} {d : DataW H} {ps : List MemPlace}
    (hval : Value.okWide Try.prog W .any base 23 v) (h : DataW.Trod enc Try.prog W 0 (fun _ => true) true 23 v d ps) (hs : ∀ z ∈ d.weights Try.prog 23, z ≤ reachBytes) :
    ∃ A n c l, v = .slice A n c ∧ Ls pcS W A l ∧ l.length = n ∧ n ≤ c ∧ c ≤ 3518437208881 ∧ ∀ x ∈ l, PcIn1 W x := by
  obtain ⟨A, n, c, rfl⟩ := okWide_slice Try.underlying23 hval
  obtain ⟨fuel, hf⟩ := h
  have hf' : DataW.trod enc Try.prog W 0 (fun _ => true) true fuel 23 [.slice A n c] = some (d, ps) := by simpa [Value.cells] using hf
  obtain ⟨A', n', c', l, h1, h2, h3, h4, h5, h6⟩ := open_rows (F := pcS) (Q := PcIn1 W) Try.underlying23 Try.underlying39 (by kernel_rfl) rfl (fun j f hj => hone_of (by kernel_rfl) j f hj) (pc_each Try.underlying39) hf' hs
  rw [pcrSize] at h5
  simp only [reachBytes] at h5
  injection h1 with e1 e2 e3
  subst e1; subst e2; subst e3
  exact ⟨A, n, c, l, rfl, h2, h3, h4, by omega, h6⟩

end Go.Proofs.Ytdilpebhecmjmaa
