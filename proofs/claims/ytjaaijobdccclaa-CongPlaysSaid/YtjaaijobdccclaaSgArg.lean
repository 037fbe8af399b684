/-
  How a list of signals that comes in is opened.
-/
import Derived.Test.YtjaaijobdccclaaCong3
import Derived.Test.YtjaaijobdccclaaIntArg
import Derived.WalkKit
import Derived.ProofKit
import Derived.OpenShut
import Derived.SizedLaws
import Derived.Below
import Derived.Deep.Slices
import Derived.Deep.SlicePairs
import Derived.Deep.Fields
import Derived.ChangeSame
import Derived.Lib.SmallJoins
namespace Go.Proofs.Ytjaaijobdccclaa
open Go.Joins Go.ChangeShapes Go.WideShapes Go.ChangeAt Go.RowKit Go.Deep
set_option linter.unusedVariables false

theorem sgSize : Try.prog.bytesOf 35 = 16 := by kernel_rfl

theorem open_sgs {H : Type} {enc : TypeId × Value → H} {W : World} {base : Nat} {v : Value} {d : DataW H} {ps : List MemPlace}
    (hval : Value.okWide Try.prog W .any base 22 v) (h : DataW.Trod enc Try.prog W 0 (fun _ => true) true 22 v d ps)
    (hs : ∀ elems spare, d = .slice elems spare → (elems.length + spare.length) * Try.prog.bytesOf 35 ≤ reachBytes) :
    ∃ A n c l, v = .slice A n c ∧ Ls sgS W A l ∧ l.length = n ∧ n ≤ c ∧ c ≤ 8796093021952 := by
  obtain ⟨A, n, c, rfl⟩ := okWide_slice Try.underlying22 hval
  refine ⟨A, n, c, ?_⟩
  obtain ⟨fuel, hf⟩ := h
  rcases open_slice_pairs Try.underlying22 Try.underlying35 (by kernel_rfl) rfl rfl (by kernel_rfl) (by kernel_rfl) hf with ⟨hcs, _⟩ | ⟨a, len, cap, m, k, V0, V1, D0, D1, P0, P1, hcs, _, hl, hm, hmm, hx, hi⟩
  · simp [Value.cells] at hcs
    obtain ⟨rfl, rfl, rfl⟩ := hcs
    exact ⟨[], rfl, Ls.nil _ _, rfl, Nat.le_refl _, by omega⟩
  · simp [Value.cells] at hcs
    obtain ⟨rfl, rfl, rfl⟩ := hcs
    simp only [if_true] at hmm
    subst hmm
    have hd := congrArg Prod.fst hx
    have hr := hs _ _ hd
    rw [sgSize] at hr
    simp only [List.length_map, List.length_range, reachBytes] at hr
    have hr' : m ≤ 8796093021952 := by omega
    obtain ⟨b, o, spot⟩ := a
    have hcl : ∀ i, i < n → ∃ x : Sig, W.cell? ((⟨b, o, spot⟩ : Addr).add (i * 2)) = some (.int .i64 x.1) ∧ W.cell? ((⟨b, o, spot⟩ : Addr).add (i * 2 + 1)) = some (.int .i64 x.2) := by
      intro i hin
      obtain ⟨c0, c1, t0, t1⟩ := hi i (by omega)
      obtain ⟨z0, e0, _⟩ := DataW.trod_int Try.underlying3 t0
      obtain ⟨z1, e1, _⟩ := DataW.trod_int Try.underlying3 t1
      simp at e0 e1
      rw [e0] at c0; rw [e1] at c1
      exact ⟨(z0, z1), c0, c1⟩
    obtain ⟨l, hll, hp⟩ := list_of n hcl
    refine ⟨l, rfl, ?_, hll, hl, hr'⟩
    by_cases h0 : n = 0
    · have : l = [] := List.eq_nil_of_length_eq_zero (by omega)
      subst this
      exact Ls.nil _ _
    · have hx0 : ∃ x, l[0]? = some x := ⟨l[0]'(by omega), List.getElem?_eq_getElem (by omega)⟩
      obtain ⟨x, hx0⟩ := hx0
      have h1 := (hp 0 x hx0).1
      have hspot : spot = none := by simpa [Addr.add] using World.cell?_spot h1
      subst hspot
      refine ls_of l W b o (fun _ => by simpa [Addr.add] using block_lt_of_cell h1) fun i y hy j v hv => ?_
      have g := hp i y hy
      rw [add_plain, add_plain] at g
      match j, hv with
      | 0, hv => simp [sgS] at hv; subst hv; exact g.1
      | 1, hv => simp [sgS] at hv; subst hv; simpa [Nat.add_assoc, sgS] using g.2
      | j + 2, hv => simp [sgS] at hv

end Go.Proofs.Ytjaaijobdccclaa
