/-
  How a list of structs that comes in is opened, whatever the struct (its fields of one cell each: lists among them).
-/
import Derived.Test.YtdilpebhecmjmaaBy
import Derived.Test.YtdilpebhecmjmaaChecked
import Derived.WalkKit
import Derived.ProofKit
import Derived.OpenShut
import Derived.SizedLaws
import Derived.Below
import Derived.Deep.Slices
import Derived.Deep.SlicePairs
import Derived.Deep.Fields
import Derived.ChangeSame
import Derived.Lib.SmallJoins
namespace Go.Proofs.Ytdilpebhecmjmaa
open Go.Joins Go.ChangeShapes Go.WideShapes Go.ChangeAt Go.RowKit Go.Deep
set_option linter.unusedVariables false

theorem ownKnobs : ownKnob Try.prog.godebug = none := by kernel_rfl
theorem laidOut : laidOutB Try.prog = true := by kernel_rfl
theorem block_lt_of_cell {w : World} {a : Addr} {v : Value} (h : w.cell? a = some v) : a.block < w.heap.size := by
  rcases Nat.lt_or_ge a.block w.heap.size with hlt | hge
  · exact hlt
  · have e : w.heap[a.block]? = none := Array.getElem?_eq_none hge
    simp [World.cell?, e] at h

theorem weights_all {H : Type} {P : Program} {e : TypeId} : ∀ {l : List (DataW H)} {d : DataW H}, d ∈ l → ∀ x ∈ d.weights P e, x ∈ DataW.weightsAll P e l
  | y :: t, d, h, x, hx => by
    simp only [DataW.weightsAll, List.mem_append]
    rcases List.mem_cons.1 h with rfl | h
    · exact .inl hx
    · exact .inr (weights_all h x hx)

/-- a list's cells at every index -/
theorem open_rows {α : Type} {F : Shape α} {Q : α → Prop} {H : Type} {enc : TypeId × Value → H} {P : Program} {W : World} {t e : TypeId} {fs : Array Field} {v : Value} {fuel : Nat} {x : DataW H × List MemPlace}
    (ht : P.underlying t = some (.slice e)) (he : P.underlying e = some (.struct fs)) (ce : P.cellsOf e = F.size) (hfs : fs.size = F.size) (one : ∀ (j : Nat) f, fs[j]? = some f → f.offset = j ∧ P.cellsOf f.type = 1)
    (each : ∀ (n : Nat) (vs : List Value) (ys : List (DataW H × List MemPlace)), vs.length = F.size → ys.length = F.size → (∀ (j : Nat) f u, fs[j]? = some f → vs[j]? = some u → DataW.trod enc P W 0 (fun _ => true) true n f.type [u] = ys[j]?) →
      (∀ z ∈ DataW.weightsEach P (fs.toList.map (·.type)) (ys.map (·.1)), z ≤ reachBytes) → ∃ y : α, F.cells y = vs ∧ Q y)
    (h : DataW.trod enc P W 0 (fun _ => true) true fuel t [v] = some x) (hw : ∀ z ∈ x.1.weights P t, z ≤ reachBytes) :
    ∃ A n c l, v = .slice A n c ∧ Ls F W A l ∧ l.length = n ∧ n ≤ c ∧ c * P.bytesOf e ≤ reachBytes ∧ ∀ y ∈ l, Q y := by
  rcases open_slice ht h with ⟨hcs, _⟩ | ⟨a, len, cap, m, n, D, Pl, hcs, _, hl, hm, hmm, hx, hi⟩
  · simp at hcs
    subst hcs
    exact ⟨none, 0, 0, [], rfl, Ls.nil _ _, rfl, Nat.le_refl _, by simp [reachBytes], by simp⟩
  · simp at hcs
    subst hcs
    simp only [if_true] at hmm
    subst hmm
    rw [hx] at hw
    simp only [DataW.weights, ht, List.mem_cons, List.mem_append, List.length_map, List.length_range] at hw
    have hb := hw _ (.inl rfl)
    rw [show len + (m - len) = m by omega] at hb
    obtain ⟨b, o, spot⟩ := a
    have hcl : ∀ i, i < len → ∃ y : α, (∀ (j : Nat) (u : Value), (F.cells y)[j]? = some u → W.cell? (((⟨b, o, spot⟩ : Addr).add (i * F.size)).add j) = some u) ∧ Q y := by
      intro i hin
      obtain ⟨cs', h1, h2⟩ := hi i (by omega)
      rw [ce] at h1
      obtain ⟨_, hlen, hcell⟩ := World.cells?_some h1
      obtain ⟨xs, k, hk, hxy, _, hxl, hf⟩ := DataW.trod_struct he h2
      have hD : D i = .agg (xs.map (·.1)) := congrArg Prod.fst hxy
      obtain ⟨y, hy1, hy2⟩ := each k cs' xs hlen (by rw [hxl, hfs]) (fun j f u hj hu => by
        have g := hf j f hj
        obtain ⟨o1, o2⟩ := one j f hj
        rw [o1, o2] at g
        have hd : (cs'.drop j).take 1 = [u] := by
          have hlt := (List.getElem?_eq_some_iff.1 hu).1
          rw [List.drop_eq_getElem_cons hlt, (List.getElem?_eq_some_iff.1 hu).2]
          rfl
        rw [hd] at g
        exact g) (fun z hz => hw z (.inr (.inl (weights_all (d := D i) (List.mem_map.2 ⟨i, List.mem_range.2 hin, rfl⟩) z (by rw [hD]; simp only [DataW.weights, he]; exact hz)))))
      refine ⟨y, fun j u hu => ?_, hy2⟩
      rw [hy1] at hu
      rw [hcell j (by have := (List.getElem?_eq_some_iff.1 hu).1; omega)]
      exact hu
    obtain ⟨l, hll, hp⟩ := list_of len hcl
    refine ⟨_, len, m, l, rfl, ?_, hll, hl, hb, fun y hy => ?_⟩
    · by_cases h0 : len = 0
      · have : l = [] := List.eq_nil_of_length_eq_zero (by omega)
        subst this
        exact Ls.nil _ _
      · obtain ⟨x0, hx0⟩ : ∃ x, l[0]? = some x := ⟨l[0]'(by omega), List.getElem?_eq_getElem (by omega)⟩
        have hlt : 0 < (F.cells x0).length := by rw [F.len]; exact F.pos
        have h1 := (hp 0 x0 hx0).1 0 _ (List.getElem?_eq_getElem hlt)
        have hspot : spot = none := by simpa [Addr.add] using World.cell?_spot h1
        subst hspot
        refine ls_of l W b o (fun _ => by simpa [Addr.add] using block_lt_of_cell h1) fun i y hy j u hv => ?_
        have g := (hp i y hy).1 j u hv
        rw [add_add, add_plain] at g
        rw [Nat.add_assoc]
        exact g
    · obtain ⟨i, hi, hie⟩ := List.mem_iff_getElem.1 hy
      exact (hp i y (by rw [List.getElem?_eq_getElem hi, hie])).2

/-- .. of ints of one kind -/
theorem open_nums {F : Shape Int} {k : IntKind} (hF : ∀ z, F.cells z = [.int k z]) (hF1 : F.size = 1) {H : Type} {enc : TypeId × Value → H} {P : Program} {W : World} {t e : TypeId} {v : Value} {fuel : Nat} {x : DataW H × List MemPlace}
    (ht : P.underlying t = some (.slice e)) (he : P.underlying e = some (.int k)) (ce : P.cellsOf e = 1) (h : DataW.trod enc P W 0 (fun _ => true) true fuel t [v] = some x) (hw : ∀ z ∈ x.1.weights P t, z ≤ reachBytes) :
    ∃ A n c l, v = .slice A n c ∧ Ls F W A l ∧ l.length = n ∧ n ≤ c ∧ c * P.bytesOf e ≤ reachBytes ∧ ∀ z ∈ l, (Lit.int k z).wf = true := by
  rcases open_slice1 ht ce h with ⟨hcs, _⟩ | ⟨a, len, cap, m, n, V, D, Pl, hcs, _, hl, hm, hmm, hx, hi⟩
  · simp at hcs
    subst hcs
    exact ⟨none, 0, 0, [], rfl, Ls.nil _ _, rfl, Nat.le_refl _, by simp [reachBytes], by simp⟩
  · simp at hcs
    subst hcs
    simp only [if_true] at hmm
    subst hmm
    rw [hx] at hw
    simp only [DataW.weights, ht, List.mem_cons, List.mem_append, List.length_map, List.length_range] at hw
    have hb := hw _ (.inl rfl)
    rw [show len + (m - len) = m by omega] at hb
    obtain ⟨b, o, spot⟩ := a
    have hcl : ∀ i, i < len → ∃ z : Int, W.cell? ((⟨b, o, spot⟩ : Addr).add i) = some (.int k z) ∧ (Lit.int k z).wf = true := by
      intro i hin
      obtain ⟨h1, h2⟩ := hi i (by omega)
      obtain ⟨z, e1, _, e3⟩ := DataW.trod_int he h2
      simp at e1
      rw [e1] at h1
      exact ⟨z, h1, e3⟩
    obtain ⟨l, hll, hp⟩ := list_of len hcl
    refine ⟨_, len, m, l, rfl, ?_, hll, hl, hb, fun y hy => ?_⟩
    · by_cases h0 : len = 0
      · have : l = [] := List.eq_nil_of_length_eq_zero (by omega)
        subst this
        exact Ls.nil _ _
      · obtain ⟨x0, hx0⟩ : ∃ x, l[0]? = some x := ⟨l[0]'(by omega), List.getElem?_eq_getElem (by omega)⟩
        have h1 := (hp 0 x0 hx0).1
        have hspot : spot = none := by simpa [Addr.add] using World.cell?_spot h1
        subst hspot
        refine ls_of l W b o (fun _ => by simpa [Addr.add] using block_lt_of_cell h1) fun i y hy j u hv => ?_
        have g := (hp i y hy).1
        rw [add_plain] at g
        rw [hF y] at hv
        match j, hv with
        | 0, hv => simp at hv; subst hv; rw [hF1]; simpa using g
        | j + 1, hv => simp at hv
    · obtain ⟨i, hi, hie⟩ := List.mem_iff_getElem.1 hy
      exact (hp i y (by rw [List.getElem?_eq_getElem hi, hie])).2

theorem byteSize1 : Try.prog.bytesOf 5 = 1 := by kernel_rfl
/-- bytes of a struct's field -/
theorem open_by {H : Type} {enc : TypeId × Value → H} {W : World} {v : Value} {fuel : Nat} {x : DataW H × List MemPlace} (h : DataW.trod enc Try.prog W 0 (fun _ => true) true fuel 22 [v] = some x) (hw : ∀ z ∈ x.1.weights Try.prog 22, z ≤ reachBytes) :
    ∃ A n c l, v = .slice A n c ∧ Ls byS W A l ∧ l.length = n ∧ n ≤ c ∧ c ≤ 140737488351232 ∧ ∀ z ∈ l, 0 ≤ z ∧ z ≤ 255 := by
  obtain ⟨A, n, c, l, h1, h2, h3, h4, h5, h6⟩ := open_nums (F := byS) (k := .u8) (fun _ => rfl) rfl Try.underlying22 Try.underlying5 (by kernel_rfl) h hw
  rw [byteSize1] at h5
  simp only [reachBytes] at h5
  exact ⟨A, n, c, l, h1, h2, h3, h4, by omega, fun z hz => by simpa [Lit.wf, IntKind.min, IntKind.max, IntKind.signed, IntKind.bits] using h6 z hz⟩
set_option maxRecDepth 100000 in
/-- bytes that come in -/
theorem open_bya {H : Type} {enc : TypeId × Value → H} {W : World} {base : Nat} {v : Value} {d : DataW H} {ps : List MemPlace}
    (hval : Value.okWide Try.prog W .any base 22 v) (h : DataW.Trod enc Try.prog W 0 (fun _ => true) true 22 v d ps) (hs : ∀ z ∈ d.weights Try.prog 22, z ≤ reachBytes) :
    ∃ A n c l, v = .slice A n c ∧ Ls byS W A l ∧ l.length = n ∧ n ≤ c ∧ c ≤ 140737488351232 ∧ ∀ z ∈ l, 0 ≤ z ∧ z ≤ 255 := by
  obtain ⟨A, n, c, rfl⟩ := okWide_slice Try.underlying22 hval
  obtain ⟨fuel, hf⟩ := h
  have hf' : DataW.trod enc Try.prog W 0 (fun _ => true) true fuel 22 [.slice A n c] = some (d, ps) := by simpa [Value.cells] using hf
  obtain ⟨A', n', c', l, h1, h2, h3, h4, h5, h6⟩ := open_by hf' hs
  injection h1 with e1 e2 e3
  subst e1; subst e2; subst e3
  exact ⟨A, n, c, l, rfl, h2, h3, h4, h5, h6⟩

end Go.Proofs.Ytdilpebhecmjmaa
