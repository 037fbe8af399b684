/-
  How a list of ranges, a range, and a list of numbers that come in are opened.
-/
import Derived.Test.YtgmpablmkpamaaaRg
import Derived.WalkKit
import Derived.ProofKit
import Derived.OpenShut
import Derived.SizedLaws
import Derived.Below
import Derived.Deep.Slices
import Derived.Deep.SlicePairs
import Derived.Deep.Fields
import Derived.ChangeSame
import Derived.Lib.SmallJoins
namespace Go.Proofs.Ytgmpablmkpamaaa
open Go.Joins Go.ChangeShapes Go.WideShapes Go.ChangeAt Go.RowKit Go.Deep
set_option linter.unusedVariables false

theorem ownKnobs : ownKnob Try.prog.godebug = none := by kernel_rfl
theorem laidOut : laidOutB Try.prog = true := by kernel_rfl
theorem rgSize : Try.prog.bytesOf 50 = 16 := by kernel_rfl

theorem block_lt_of_cell {w : World} {a : Addr} {v : Value} (h : w.cell? a = some v) : a.block < w.heap.size := by
  rcases Nat.lt_or_ge a.block w.heap.size with hlt | hge
  · exact hlt
  · have e : w.heap[a.block]? = none := Array.getElem?_eq_none hge
    simp [World.cell?, e] at h

theorem pairs_of {p : Nat → Int → Int → Prop} : ∀ n, (∀ i, i < n → ∃ a b, p i a b) → ∃ l : List Rg, l.length = n ∧ ∀ i x, l[i]? = some x → p i x.1 x.2
  | 0, _ => ⟨[], rfl, by simp⟩
  | n + 1, h => by
    obtain ⟨l, hl, hp⟩ := pairs_of n fun i hi => h i (by omega)
    obtain ⟨a, b, hab⟩ := h n (by omega)
    refine ⟨l ++ [(a, b)], by simp [hl], fun i x hx => ?_⟩
    rw [List.getElem?_append] at hx
    split at hx
    · exact hp i x hx
    · rename_i hi
      have hi2 : i - l.length = 0 := by
        rcases Nat.eq_zero_or_pos (i - l.length) with h0 | h0
        · exact h0
        · rw [List.getElem?_eq_none (by simp; omega)] at hx; cases hx
      rw [hi2] at hx
      simp at hx
      subst hx
      rw [show i = n by omega]
      exact hab

theorem rcells_of (l : List Rg) (w : World) (b o : Nat) (h : ∀ i x, l[i]? = some x → w.cell? ⟨b, o + i * 2, none⟩ = some (.int .i64 x.1) ∧ w.cell? ⟨b, o + i * 2 + 1, none⟩ = some (.int .i64 x.2)) :
    ∀ j u, (rcells l)[j]? = some u → w.cell? ⟨b, o + j, none⟩ = some u := by
  intro j u hu
  have hj : j < l.length * 2 := by
    rcases Nat.lt_or_ge j (l.length * 2) with g | g
    · exact g
    · rw [List.getElem?_eq_none (by rw [rcells_len]; exact g)] at hu; cases hu
  obtain ⟨x, hx⟩ : ∃ x, l[j / 2]? = some x := ⟨l[j / 2], List.getElem?_eq_getElem (by omega)⟩
  obtain ⟨g1, g2⟩ := rcells_get l (j / 2) x hx
  obtain ⟨k1, k2⟩ := h (j / 2) x hx
  rcases Nat.mod_two_eq_zero_or_one j with m | m
  · have e : j = j / 2 * 2 := by omega
    rw [← e] at g1 k1
    rw [hu] at g1
    rw [k1, g1]
  · have e : j = j / 2 * 2 + 1 := by omega
    rw [← e] at g2
    rw [Nat.add_assoc, ← e] at k2
    rw [hu] at g2
    rw [k2, g2]

theorem open_rgs {H : Type} {enc : TypeId × Value → H} {W : World} {base : Nat} {v : Value} {d : DataW H} {ps : List MemPlace}
    (hval : Value.okWide Try.prog W .any base 22 v) (h : DataW.Trod enc Try.prog W 0 (fun _ => true) true 22 v d ps)
    (hs : ∀ elems spare, d = .slice elems spare → (elems.length + spare.length) * Try.prog.bytesOf 50 ≤ reachBytes) :
    ∃ A n c l, v = .slice A n c ∧ Rs W A l ∧ l.length = n ∧ n ≤ c ∧ c ≤ 8796093021952 := by
  obtain ⟨A, n, c, rfl⟩ := okWide_slice Try.underlying22 hval
  refine ⟨A, n, c, ?_⟩
  obtain ⟨fuel, hf⟩ := h
  rcases open_slice_pairs Try.underlying22 Try.underlying50 (by kernel_rfl) rfl rfl (by kernel_rfl) (by kernel_rfl) hf with ⟨hcs, _⟩ | ⟨a, len, cap, m, k, V0, V1, D0, D1, P0, P1, hcs, _, hl, hm, hmm, hx, hi⟩
  · simp [Value.cells] at hcs
    obtain ⟨rfl, rfl, rfl⟩ := hcs
    exact ⟨[], rfl, Rs.nil _ _, rfl, Nat.le_refl _, by omega⟩
  · simp [Value.cells] at hcs
    obtain ⟨rfl, rfl, rfl⟩ := hcs
    simp only [if_true] at hmm
    subst hmm
    have hd := congrArg Prod.fst hx
    have hr := hs _ _ hd
    rw [rgSize] at hr
    simp only [List.length_map, List.length_range, reachBytes] at hr
    have hr' : m ≤ 8796093021952 := by omega
    obtain ⟨b, o, spot⟩ := a
    have hcl : ∀ i, i < n → ∃ x y : Int, W.cell? ((⟨b, o, spot⟩ : Addr).add (i * 2)) = some (.int .i64 x) ∧ W.cell? ((⟨b, o, spot⟩ : Addr).add (i * 2 + 1)) = some (.int .i64 y) := by
      intro i hin
      obtain ⟨c0, c1, t0, t1⟩ := hi i (by omega)
      obtain ⟨z0, e0, _⟩ := DataW.trod_int Try.underlying3 t0
      obtain ⟨z1, e1, _⟩ := DataW.trod_int Try.underlying3 t1
      simp at e0 e1
      rw [e0] at c0; rw [e1] at c1
      exact ⟨z0, z1, c0, c1⟩
    obtain ⟨l, hll, hp⟩ := pairs_of n hcl
    refine ⟨l, rfl, ?_, hll, hl, hr'⟩
    by_cases h0 : n = 0
    · have : l = [] := List.eq_nil_of_length_eq_zero (by omega)
      subst this
      exact Rs.nil _ _
    · have hx0 : ∃ x, l[0]? = some x := ⟨l[0]'(by omega), List.getElem?_eq_getElem (by omega)⟩
      obtain ⟨x, hx0⟩ := hx0
      have h1 := (hp 0 x hx0).1
      have hspot : spot = none := by simpa [Addr.add] using World.cell?_spot h1
      subst hspot
      refine .inr ⟨b, o, rfl, by simpa [Addr.add] using block_lt_of_cell h1, rcells_of l W b o fun i y hy => ?_⟩
      have := hp i y hy
      rw [add_plain, add_plain] at this
      rw [Nat.add_assoc]
      exact this

theorem open_rg {H : Type} {enc : TypeId × Value → H} {W : World} {base : Nat} {v : Value} {d : DataW H} {ps : List MemPlace}
    (hval : Value.okWide Try.prog W .any base 50 v) (h : DataW.Trod enc Try.prog W 0 (fun _ => true) true 50 v d ps) : ∃ x : Rg, v = rv x := by
  obtain ⟨v0, v1, y0, y1, n, rfl, _, _, t0, t1⟩ := open_agg2 Try.underlying50 (by kernel_rfl) (by kernel_rfl) hval h
  obtain ⟨z0, e0, _⟩ := DataW.trod_int Try.underlying3 t0
  obtain ⟨z1, e1, _⟩ := DataW.trod_int Try.underlying3 t1
  simp at e0 e1
  subst e0; subst e1
  exact ⟨(z0, z1), rfl⟩

theorem intSize : Try.prog.bytesOf 3 = 8 := by kernel_rfl

theorem open_is {H : Type} {enc : TypeId × Value → H} {W : World} {base : Nat} {v : Value} {d : DataW H} {ps : List MemPlace}
    (hval : Value.okWide Try.prog W .any base 35 v) (h : DataW.Trod enc Try.prog W 0 (fun _ => true) true 35 v d ps)
    (hs : ∀ elems spare, d = .slice elems spare → (elems.length + spare.length) * Try.prog.bytesOf 3 ≤ reachBytes) :
    ∃ A n c zs, v = .slice A n c ∧ Is W A zs ∧ zs.length = n ∧ n ≤ c ∧ c ≤ 17592186043904 := by
  obtain ⟨A, n, c, rfl⟩ := okWide_slice Try.underlying35 hval
  refine ⟨A, n, c, ?_⟩
  obtain ⟨fuel, hf⟩ := h
  rcases open_ints Try.underlying35 Try.underlying3 (by kernel_rfl) hf with ⟨hcs, _⟩ | ⟨x, l, c', zs, hcs, _, hl, hm, hz, hx, hcell, hwz⟩
  · simp [Value.cells] at hcs
    obtain ⟨rfl, rfl, rfl⟩ := hcs
    exact ⟨[], rfl, Is.nil _ _, rfl, Nat.le_refl _, by omega⟩
  · simp [Value.cells] at hcs
    obtain ⟨rfl, rfl, rfl⟩ := hcs
    have hz' : zs.length = c := by simpa using hz
    have hd : d = .slice (lits .i64 (zs.take n)) (lits .i64 (zs.drop n)) := congrArg Prod.fst hx
    have hr := hs _ _ hd
    rw [intSize] at hr
    simp only [lits, List.length_map, List.length_take, List.length_drop, reachBytes] at hr
    have hr' : c ≤ 17592186043904 := by omega
    have hwb : ∀ z ∈ zs, -9223372036854775808 ≤ z ∧ z ≤ 9223372036854775807 := by
      intro z hz
      have := hwz z hz
      simpa [Lit.wf, IntKind.min, IntKind.max, IntKind.signed, IntKind.bits] using this
    refine ⟨zs.take n, rfl, ⟨fun z hz => hwb z (List.mem_of_mem_take hz), ?_⟩, by rw [List.length_take]; omega, hl, hr'⟩
    by_cases h0 : n = 0
    · exact .inl (by rw [h0]; rfl)
    · have h1 := hcell 0 (by omega)
      obtain ⟨b, o, spot⟩ := x
      have hspot : spot = none := by simpa [Addr.add] using World.cell?_spot h1
      subst hspot
      refine .inr ⟨b, o, rfl, by simpa [Addr.add] using block_lt_of_cell h1, fun j u hu => ?_⟩
      have hj' : j < n := by
        rcases Nat.lt_or_ge j n with g | g
        · exact g
        · rw [List.getElem?_eq_none (by simp; omega)] at hu; cases hu
      have h2 := hcell j (by omega)
      rw [add_plain] at h2
      have hj2 : j < zs.length := by omega
      rw [h2, ← hu]
      simp [hj', hj2]

end Go.Proofs.Ytgmpablmkpamaaa
