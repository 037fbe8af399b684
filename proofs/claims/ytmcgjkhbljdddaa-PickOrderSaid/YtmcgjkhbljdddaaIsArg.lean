/-
  How a list of lists of numbers that comes in is opened.
-/
import Derived.Test.YtmcgjkhbljdddaaRowArg
import Derived.Test.YtmcgjkhbljdddaaInArg
import Derived.Test.YtmcgjkhbljdddaaInts
import Derived.Test.YtmcgjkhbljdddaaWhole
namespace Go.Proofs.Ytmcgjkhbljdddaa
open Go.Joins Go.ChangeShapes Go.WideShapes Go.ChangeAt Go.RowKit Go.Deep
set_option linter.unusedVariables false

/-- a list of numbers with its address -/
structure Iw where
  l : List Int
  A : Option Addr
  n : Nat
  c : Nat
def iwS : Shape Iw := { cells := fun x => [.slice x.A x.n x.c], size := 1, len := fun _ => rfl, pos := by decide, one := by intro x u hu; simp at hu; subst hu; rfl }
def IwIn1 (w : World) (x : Iw) : Prop := Is w x.A x.l ∧ x.l.length = x.n ∧ x.n ≤ x.c ∧ x.c ≤ 17592186043904
def IwIn (w : World) (l : List Iw) : Prop := ∀ x ∈ l, IwIn1 w x
theorem IwIn.below {w w' : World} {l : List Iw} (h : IwIn w l) (hb : Below w.heap.size w w') : IwIn w' l := fun x hx => by
  obtain ⟨h1, h2⟩ := h x hx
  exact ⟨h1.below hb, h2⟩
theorem is_of {w : World} {A : Option Addr} {l : List Int} (h : Ls inS w A l) (hb : ∀ z ∈ l, -9223372036854775808 ≤ z ∧ z ≤ 9223372036854775807) : Is w A l := by
  refine ⟨hb, ?_⟩
  have e : inS.flat l = l.map (Value.int .i64) := flat_map _ (fun _ => rfl) l
  rw [← e]; exact h
theorem listSizeI : Try.prog.bytesOf 32 = 24 := by kernel_rfl
set_option maxRecDepth 100000 in
/-- lists of numbers that come in -/
theorem open_iss {H : Type} {enc : TypeId × Value → H} {W : World} {base : Nat} {v : Value} {d : DataW H} {ps : List MemPlace}
    (hval : Value.okWide Try.prog W .any base 37 v) (h0 : DataW.Trod enc Try.prog W 0 (fun _ => true) true 37 v d ps) (hw : ∀ z ∈ d.weights Try.prog 37, z ≤ reachBytes) :
    ∃ A n c l, v = .slice A n c ∧ Ls iwS W A l ∧ l.length = n ∧ n ≤ c ∧ c ≤ 5864062014634 ∧ IwIn W l := by
  obtain ⟨A, n, c, rfl⟩ := okWide_slice Try.underlying37 hval
  obtain ⟨fuel, hf⟩ := h0
  have h : DataW.trod enc Try.prog W 0 (fun _ => true) true fuel 37 [.slice A n c] = some (d, ps) := by simpa [Value.cells] using hf
  have key : ∃ A' n' c' l, Value.slice A n c = .slice A' n' c' ∧ Ls iwS W A' l ∧ l.length = n' ∧ n' ≤ c' ∧ c' * Try.prog.bytesOf 32 ≤ reachBytes ∧ ∀ y ∈ l, IwIn1 W y := by
    rcases open_slice1 Try.underlying37 (by kernel_rfl) h with ⟨hcs, _⟩ | ⟨a, len, cap, m, n, V, D, Pl, hcs, _, hl, hm, hmm, hx, hi⟩
    · simp at hcs
      obtain ⟨rfl, rfl, rfl⟩ := hcs
      exact ⟨none, 0, 0, [], rfl, Ls.nil _ _, rfl, Nat.le_refl _, by simp [reachBytes], by simp⟩
    · simp only [if_true] at hmm
      subst hmm
      have hx1 : d = _ := congrArg Prod.fst hx
      subst hx1
      simp only [DataW.weights, Try.underlying37, List.mem_cons, List.mem_append, List.length_map, List.length_range] at hw
      have hb := hw _ (.inl rfl)
      rw [show len + (m - len) = m by omega] at hb
      obtain ⟨b, o, spot⟩ := a
      have hcl : ∀ i, i < len → ∃ y : Iw, W.cell? ((⟨b, o, spot⟩ : Addr).add i) = some (.slice y.A y.n y.c) ∧ IwIn1 W y := by
        intro i hin
        obtain ⟨h1, h2⟩ := hi i (by omega)
        obtain ⟨A, n, c, l, e1, e2, e3, e4, e5, e6⟩ := open_nums (F := inS) (k := .i64) (fun _ => rfl) rfl Try.underlying32 Try.underlying3 (by kernel_rfl) h2 (fun z hz => hw z (.inr (.inl (weights_all (d := D i) (List.mem_map.2 ⟨i, List.mem_range.2 hin, rfl⟩) z hz))))
        rw [e1] at h1
        rw [intSize8] at e5
        simp only [reachBytes] at e5
        exact ⟨⟨l, A, n, c⟩, h1, is_of e2 (fun z hz => by simpa [Lit.wf, IntKind.min, IntKind.max, IntKind.signed, IntKind.bits] using e6 z hz), e3, e4, by show c ≤ _; omega⟩
      obtain ⟨l, hll, hp⟩ := list_of len hcl
      refine ⟨_, len, m, l, by simpa using hcs, ?_, hll, hl, hb, fun y hy => ?_⟩
      · by_cases h0 : len = 0
        · have : l = [] := List.eq_nil_of_length_eq_zero (by omega)
          subst this
          exact Ls.nil _ _
        · obtain ⟨x0, hx0⟩ : ∃ x, l[0]? = some x := ⟨l[0]'(by omega), List.getElem?_eq_getElem (by omega)⟩
          have h1 := (hp 0 x0 hx0).1
          have hspot : spot = none := by simpa [Addr.add] using World.cell?_spot h1
          subst hspot
          refine ls_of l W b o (fun _ => by simpa [Addr.add] using block_lt_of_cell h1) fun i y hy j u hv => ?_
          have g := (hp i y hy).1
          rw [add_plain] at g
          match j, hv with
          | 0, hv => simp [iwS] at hv; subst hv; simpa [iwS] using g
          | j + 1, hv => simp [iwS] at hv
      · obtain ⟨i, hi, hie⟩ := List.mem_iff_getElem.1 hy
        exact (hp i y (by rw [List.getElem?_eq_getElem hi, hie])).2
  obtain ⟨A', n', c', l, h1, h2, h3, h4, h5, h6⟩ := key
  rw [listSizeI] at h5
  simp only [reachBytes] at h5
  injection h1 with e1 e2 e3
  subst e1; subst e2; subst e3
  exact ⟨A, n, c, l, rfl, h2, h3, h4, by omega, h6⟩

end Go.Proofs.Ytmcgjkhbljdddaa
