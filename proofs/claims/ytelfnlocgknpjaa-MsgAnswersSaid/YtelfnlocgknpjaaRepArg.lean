/-
  How a reply, and a request, that come in are opened.
-/
import Derived.Test.YtelfnlocgknpjaaRowArg
import Derived.Test.YtelfnlocgknpjaaMAnsMath
import Derived.SliceStrings
import Derived.Deep.Fields
namespace Go.Proofs.Ytelfnlocgknpjaa
open Go.Joins Go.ChangeShapes Go.WideShapes Go.ChangeAt Go.RowKit Go.Deep
set_option linter.unusedVariables false

theorem stSizeA : Try.prog.bytesOf 9 = 16 := by kernel_rfl
/-- texts of a struct's field -/
theorem open_st1 {H : Type} {enc : TypeId × Value → H} {W : World} {v : Value} {fuel : Nat} {x : DataW H × List MemPlace} (h : DataW.trod enc Try.prog W 0 (fun _ => true) true fuel 34 [v] = some x) (hw : ∀ z ∈ x.1.weights Try.prog 34, z ≤ reachBytes) :
    ∃ A n c l, v = .slice A n c ∧ Ls stS W A l ∧ l.length = n ∧ n ≤ c ∧ c ≤ 8796093021952 := by
  rcases open_strings Try.underlying34 Try.underlying9 (by kernel_rfl) h with ⟨hcs, _⟩ | ⟨a, n, c, ss, hcs, _, hl, hm, hz, hx, hcell, hsz⟩
  · simp at hcs
    subst hcs
    exact ⟨none, 0, 0, [], rfl, Ls.nil _ _, rfl, Nat.le_refl _, by omega⟩
  · simp at hcs
    subst hcs
    have hz' : ss.length = c := by simpa using hz
    rw [hx] at hw
    simp only [DataW.weights, Try.underlying34, List.mem_cons, strs, List.length_map, List.length_take, List.length_drop] at hw
    have hr := hw _ (.inl rfl)
    rw [stSizeA] at hr
    simp only [reachBytes] at hr
    have hr' : c ≤ 8796093021952 := by omega
    refine ⟨some a, n, c, (ss.take n).map (·.data.toList), rfl, ?_, by rw [List.length_map, List.length_take]; omega, hl, hr'⟩
    by_cases h0 : n = 0
    · rw [h0]; exact Ls.nil _ _
    · have h1 := hcell 0 (by omega)
      obtain ⟨b, o, spot⟩ := a
      have hspot : spot = none := by simpa [Addr.add] using World.cell?_spot h1
      subst hspot
      refine ls_of _ _ _ _ (fun _ => by simpa [Addr.add] using block_lt_of_cell h1) (fun i y hy j u hu => ?_)
      have hi : i < n := by
        rcases Nat.lt_or_ge i n with g | g
        · exact g
        · rw [List.getElem?_eq_none (by simp; omega)] at hy; cases hy
      have hj : j = 0 := by
        rcases j with _ | j
        · rfl
        · simp [stS] at hu
      subst hj
      have h2 := hcell i (by omega)
      rw [add_plain] at h2
      simp only [stS, Nat.mul_one, Nat.add_zero]
      rw [h2]
      rw [List.getElem?_map, List.getElem?_take, if_pos hi, List.getElem?_eq_getElem (by omega)] at hy
      simp only [Option.map_some, Option.some.injEq] at hy
      subst hy
      simp [stS] at hu
      rw [← hu]
      simp [tx, List.getD_eq_getElem?_getD, List.getElem?_eq_getElem (show i < ss.length by omega)]

/-- what is known of a reply that came in -/
def RpIn (W : World) (x : Rpv) : Prop := x.In W ∧ x.m ≤ 140737488351232 ∧ x.n ≤ 8796093021952 ∧ Oct x.zs
def Rpv.V (x : Rpv) : List Value := [.int .i64 x.mrk, .int .i64 x.code, .int .i64 x.han, .int .i64 x.kd, .int .i64 x.sz, .slice x.D x.m x.d, .slice x.N x.n x.c]
theorem rep_each {H : Type} {enc : TypeId × Value → H} {W : World} {fs : Array Field} (hu : Try.prog.underlying 36 = some (.struct fs)) (n : Nat) (vs : List Value) (ys : List (DataW H × List MemPlace)) (hv : vs.length = 7) (hy : ys.length = 7)
    (hf : ∀ (j : Nat) f u, fs[j]? = some f → vs[j]? = some u → DataW.trod enc Try.prog W 0 (fun _ => true) true n f.type [u] = ys[j]?) (hw : ∀ z ∈ DataW.weightsEach Try.prog (fs.toList.map (·.type)) (ys.map (·.1)), z ≤ reachBytes) :
    ∃ y : Rpv, y.V = vs ∧ RpIn W y := by
  have hu' := Try.underlying36
  rw [hu] at hu'
  injection hu' with hu'
  injection hu' with hu'
  subst hu'
  match vs, ys, hv, hy with
  | [v0, v1, v2, v3, v4, v5, v6], [y0, y1, y2, y3, y4, y5, y6], _, _ =>
    have w5 : ∀ z ∈ y5.1.weights Try.prog 22, z ≤ reachBytes := fun z hz => hw z (DataW.weights_mem_each (j := 5) rfl rfl z hz)
    have w6 : ∀ z ∈ y6.1.weights Try.prog 34, z ≤ reachBytes := fun z hz => hw z (DataW.weights_mem_each (j := 6) rfl rfl z hz)
    obtain ⟨z0, e0, _⟩ := DataW.trod_int Try.underlying3 (hf 0 _ _ rfl rfl)
    obtain ⟨z1, e1, _⟩ := DataW.trod_int Try.underlying25 (hf 1 _ _ rfl rfl)
    obtain ⟨z2, e2, _⟩ := DataW.trod_int Try.underlying3 (hf 2 _ _ rfl rfl)
    obtain ⟨z3, e3, _⟩ := DataW.trod_int Try.underlying3 (hf 3 _ _ rfl rfl)
    obtain ⟨z4, e4, _⟩ := DataW.trod_int Try.underlying3 (hf 4 _ _ rfl rfl)
    obtain ⟨A5, n5, c5, l5, rfl, g1, g2, g3, g4, g5⟩ := open_by (hf 5 _ _ rfl rfl) w5
    obtain ⟨A6, n6, c6, l6, rfl, k1, k2, k3, k4⟩ := open_st1 (hf 6 _ _ rfl rfl) w6
    simp at e0 e1 e2 e3 e4
    subst e0; subst e1; subst e2; subst e3; subst e4
    exact ⟨⟨z0, z1, z2, z3, z4, A5, n5, c5, l5, A6, n6, c6, l6⟩, rfl, ⟨⟨g1, g2⟩, k1, k2⟩, by simp only; omega, by simp only; omega, g5⟩
set_option maxRecDepth 100000 in
theorem open_rep {H : Type} {enc : TypeId × Value → H} {W : World} {base : Nat} {v : Value} {d : DataW H} {ps : List MemPlace}
    (hval : Value.okWide Try.prog W .any base 36 v) (h : DataW.Trod enc Try.prog W 0 (fun _ => true) true 36 v d ps) (hs : ∀ z ∈ d.weights Try.prog 36, z ≤ reachBytes) :
    ∃ x : Rpv, v = .agg #[.int .i64 x.mrk, .int .i64 x.code, .int .i64 x.han, .int .i64 x.kd, .int .i64 x.sz, .slice x.D x.m x.d, .slice x.N x.n x.c] ∧ RpIn W x := by
  obtain ⟨cs, rfl, hsz⟩ := okWide_struct Try.underlying36 hval
  obtain ⟨l⟩ := cs
  obtain ⟨fuel, hf⟩ := h
  obtain ⟨xs, n, _, hx, _, hlen, hg⟩ := DataW.trod_struct Try.underlying36 hf
  have hc : Try.prog.cellsOf 36 = 7 := by kernel_rfl
  have hl : l.length = 7 := hsz.trans hc
  have hd : d = .agg (xs.map (·.1)) := congrArg Prod.fst hx
  obtain ⟨y, hy1, hy2⟩ := rep_each (enc := enc) Try.underlying36 n l xs hl (by rw [hlen]; rfl) (fun j f u hj hu => by
    have g := hg j f hj
    obtain ⟨o1, o2⟩ := hone_of (P := Try.prog) (by kernel_rfl) j f hj
    rw [o1, o2] at g
    have hd : ((Value.agg ⟨l⟩).cells.toList.drop j).take 1 = [u] := by
      show (l.drop j).take 1 = [u]
      have hlt := (List.getElem?_eq_some_iff.1 hu).1
      rw [List.drop_eq_getElem_cons hlt, (List.getElem?_eq_some_iff.1 hu).2]
      rfl
    rw [hd] at g
    exact g) (fun z hz => hs z (by rw [hd]; simp only [DataW.weights, Try.underlying36]; exact hz))
  exact ⟨y, by rw [← hy1]; rfl, hy2⟩

end Go.Proofs.Ytelfnlocgknpjaa
