/-
  How texts and lists of texts that come in are opened.
-/
import Derived.Test.YtmcgjkhbljdddaaText
import Derived.SliceStrings
import Derived.WalkKit
import Derived.ProofKit
import Derived.OpenShut
import Derived.SizedLaws
import Derived.Below
import Derived.Deep.Slices
import Derived.Deep.Fields
import Derived.ChangeSame
import Derived.Lib.SmallJoins
namespace Go.Proofs.Ytmcgjkhbljdddaa
open Go.Joins Go.ChangeShapes Go.WideShapes Go.ChangeAt Go.RowKit Go.Deep
set_option linter.unusedVariables false

theorem ownKnobs : ownKnob Try.prog.godebug = none := by kernel_rfl
theorem laidOut : laidOutB Try.prog = true := by kernel_rfl
theorem blk_lt {w : World} {a : Addr} {v : Value} (h : w.cell? a = some v) : a.block < w.heap.size := by
  rcases Nat.lt_or_ge a.block w.heap.size with hlt | hge
  · exact hlt
  · have e : w.heap[a.block]? = none := Array.getElem?_eq_none hge
    simp [World.cell?, e] at h
theorem stSize : Try.prog.bytesOf 9 = 16 := by kernel_rfl

theorem open_sts {H : Type} {enc : TypeId × Value → H} {W : World} {base : Nat} {v : Value} {d : DataW H} {ps : List MemPlace}
    (hval : Value.okWide Try.prog W .any base 27 v) (h : DataW.Trod enc Try.prog W 0 (fun _ => true) true 27 v d ps)
    (hs : ∀ elems spare, d = .slice elems spare → (elems.length + spare.length) * Try.prog.bytesOf 9 ≤ reachBytes) :
    ∃ A n c zs, v = .slice A n c ∧ Ls stS W A zs ∧ zs.length = n ∧ n ≤ c ∧ c ≤ 8796093021952 := by
  obtain ⟨A, n, c, rfl⟩ := okWide_slice Try.underlying27 hval
  refine ⟨A, n, c, ?_⟩
  obtain ⟨fuel, hf⟩ := h
  rcases open_strings Try.underlying27 Try.underlying9 (by kernel_rfl) hf with ⟨hcs, _⟩ | ⟨x, l, c', ss, hcs, _, hl, hm, hz, hx, hcell, hsz⟩
  · simp [Value.cells] at hcs
    obtain ⟨rfl, rfl, rfl⟩ := hcs
    exact ⟨[], rfl, Ls.nil _ _, rfl, Nat.le_refl _, by omega⟩
  · simp [Value.cells] at hcs
    obtain ⟨rfl, rfl, rfl⟩ := hcs
    have hz' : ss.length = c := by simpa using hz
    have hd : d = .slice (strs (ss.take n)) (strs (ss.drop n)) := congrArg Prod.fst hx
    have hr := hs _ _ hd
    rw [stSize] at hr
    simp only [strs, List.length_map, List.length_take, List.length_drop, reachBytes] at hr
    have hr' : c ≤ 8796093021952 := by omega
    refine ⟨(ss.take n).map (·.data.toList), rfl, ?_, by rw [List.length_map, List.length_take]; omega, hl, hr'⟩
    by_cases h0 : n = 0
    · rw [h0]; exact Ls.nil _ _
    · have h1 := hcell 0 (by omega)
      obtain ⟨b, o, spot⟩ := x
      have hspot : spot = none := by simpa [Addr.add] using World.cell?_spot h1
      subst hspot
      refine ls_of _ _ _ _ (fun _ => by simpa [Addr.add] using blk_lt h1) (fun i y hy j u hu => ?_)
      have hi : i < n := by
        rcases Nat.lt_or_ge i n with g | g
        · exact g
        · rw [List.getElem?_eq_none (by simp; omega)] at hy; cases hy
      have hj : j = 0 := by
        rcases j with _ | j
        · rfl
        · simp [stS] at hu
      subst hj
      simp only [stS, List.getElem?_cons_zero, Option.some.injEq] at hu
      subst hu
      have h2 := hcell i (by omega)
      rw [add_plain] at h2
      have e : y = (ss.getD i ByteArray.empty).data.toList := by
        rw [List.getElem?_map, List.getElem?_take, if_pos hi, List.getElem?_eq_getElem (by omega)] at hy
        rw [List.getD_eq_getElem?_getD, List.getElem?_eq_getElem (by omega)]
        simpa using hy.symm
      rw [e, ← tx_of]
      simpa [stS] using h2

end Go.Proofs.Ytmcgjkhbljdddaa
