/-
  How a request that comes in is opened.
-/
import Derived.Test.YtelfnlocgknpjaaRowArg
import Derived.Test.YtelfnlocgknpjaaMFace
import Derived.Deep.Fields
namespace Go.Proofs.Ytelfnlocgknpjaa
open Go.Joins Go.ChangeShapes Go.WideShapes Go.ChangeAt Go.RowKit Go.Deep
set_option linter.unusedVariables false

/-- what is known of a request that came in -/
def RqIn (W : World) (x : Rqv) : Prop := x.In W ∧ x.m ≤ 140737488351232 ∧ Oct x.zs
def Rqv.L (x : Rqv) : List Value := [.int .i64 x.kd, .int .i64 x.mrk, .string (tx x.p), .string (tx x.q), .int .i64 x.how, .int .i64 x.han, .int .i64 x.a, .int .i64 x.c, .slice x.D x.m x.d]
theorem req_each {H : Type} {enc : TypeId × Value → H} {W : World} {fs : Array Field} (hu : Try.prog.underlying 24 = some (.struct fs)) (n : Nat) (vs : List Value) (ys : List (DataW H × List MemPlace)) (hv : vs.length = 9) (hy : ys.length = 9)
    (hf : ∀ (j : Nat) f u, fs[j]? = some f → vs[j]? = some u → DataW.trod enc Try.prog W 0 (fun _ => true) true n f.type [u] = ys[j]?) (hw : ∀ z ∈ DataW.weightsEach Try.prog (fs.toList.map (·.type)) (ys.map (·.1)), z ≤ reachBytes) :
    ∃ y : Rqv, y.L = vs ∧ RqIn W y := by
  have hu' := Try.underlying24
  rw [hu] at hu'
  injection hu' with hu'
  injection hu' with hu'
  subst hu'
  match vs, ys, hv, hy with
  | [v0, v1, v2, v3, v4, v5, v6, v7, v8], [y0, y1, y2, y3, y4, y5, y6, y7, y8], _, _ =>
    have w8 : ∀ z ∈ y8.1.weights Try.prog 22, z ≤ reachBytes := fun z hz => hw z (DataW.weights_mem_each (j := 8) rfl rfl z hz)
    obtain ⟨z0, e0, _⟩ := DataW.trod_int Try.underlying3 (hf 0 _ _ rfl rfl)
    obtain ⟨z1, e1, _⟩ := DataW.trod_int Try.underlying3 (hf 1 _ _ rfl rfl)
    obtain ⟨s2, e2, _⟩ := DataW.trod_string Try.underlying9 (hf 2 _ _ rfl rfl)
    obtain ⟨s3, e3, _⟩ := DataW.trod_string Try.underlying9 (hf 3 _ _ rfl rfl)
    obtain ⟨z4, e4, _⟩ := DataW.trod_int Try.underlying3 (hf 4 _ _ rfl rfl)
    obtain ⟨z5, e5, _⟩ := DataW.trod_int Try.underlying3 (hf 5 _ _ rfl rfl)
    obtain ⟨z6, e6, _⟩ := DataW.trod_int Try.underlying3 (hf 6 _ _ rfl rfl)
    obtain ⟨z7, e7, _⟩ := DataW.trod_int Try.underlying3 (hf 7 _ _ rfl rfl)
    obtain ⟨A8, n8, c8, l8, rfl, g1, g2, g3, g4, g5⟩ := open_by (hf 8 _ _ rfl rfl) w8
    simp at e0 e1 e2 e3 e4 e5 e6 e7
    subst e0; subst e1; subst e2; subst e3; subst e4; subst e5; subst e6; subst e7
    exact ⟨⟨z0, z1, s2.data.toList, s3.data.toList, z4, z5, z6, z7, A8, n8, c8, l8⟩, by unfold Rqv.L; simp only [← tx_of], ⟨g1, g2⟩, by simp only; omega, g5⟩
set_option maxRecDepth 100000 in
theorem open_req {H : Type} {enc : TypeId × Value → H} {W : World} {base : Nat} {v : Value} {d : DataW H} {ps : List MemPlace}
    (hval : Value.okWide Try.prog W .any base 24 v) (h : DataW.Trod enc Try.prog W 0 (fun _ => true) true 24 v d ps) (hs : ∀ z ∈ d.weights Try.prog 24, z ≤ reachBytes) :
    ∃ x : Rqv, v = .agg #[.int .i64 x.kd, .int .i64 x.mrk, .string (tx x.p), .string (tx x.q), .int .i64 x.how, .int .i64 x.han, .int .i64 x.a, .int .i64 x.c, .slice x.D x.m x.d] ∧ RqIn W x := by
  obtain ⟨cs, rfl, hsz⟩ := okWide_struct Try.underlying24 hval
  obtain ⟨l⟩ := cs
  obtain ⟨fuel, hf⟩ := h
  obtain ⟨xs, n, _, hx, _, hlen, hg⟩ := DataW.trod_struct Try.underlying24 hf
  have hc : Try.prog.cellsOf 24 = 9 := by kernel_rfl
  have hl : l.length = 9 := hsz.trans hc
  have hd : d = .agg (xs.map (·.1)) := congrArg Prod.fst hx
  obtain ⟨y, hy1, hy2⟩ := req_each (enc := enc) Try.underlying24 n l xs hl (by rw [hlen]; rfl) (fun j f u hj hu => by
    have g := hg j f hj
    obtain ⟨o1, o2⟩ := hone_of (P := Try.prog) (by kernel_rfl) j f hj
    rw [o1, o2] at g
    have hd : ((Value.agg ⟨l⟩).cells.toList.drop j).take 1 = [u] := by
      show (l.drop j).take 1 = [u]
      have hlt := (List.getElem?_eq_some_iff.1 hu).1
      rw [List.drop_eq_getElem_cons hlt, (List.getElem?_eq_some_iff.1 hu).2]
      rfl
    rw [hd] at g
    exact g) (fun z hz => hs z (by rw [hd]; simp only [DataW.weights, Try.underlying24]; exact hz))
  exact ⟨y, by rw [← hy1]; rfl, hy2⟩

end Go.Proofs.Ytelfnlocgknpjaa
