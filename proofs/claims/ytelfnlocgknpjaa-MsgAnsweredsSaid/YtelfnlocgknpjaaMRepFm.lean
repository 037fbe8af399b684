/-
  A reply in a box, and names in a row: their places as parts.
-/
import Derived.Test.YtelfnlocgknpjaaMAnswer
namespace Go.Proofs.Ytelfnlocgknpjaa
open Go.RowKit
set_option linter.unusedVariables false
set_option linter.unusedSimpArgs false

def rp7 (B C K : Nat) : List Pt := rpParts B C ++ [.num (at_ K 0) 1]
/-- a reply in a box, its code and the count of its names beside it -/
def RpI (B C K : Nat) (w : World) (σ : Nat → PV) : Prop :=
  ∃ (mrk code han kd sz cn : Int) (D : Option Addr) (m d : Nat) (zs : List Int),
    Bx 36 w B #[.int .i64 mrk, .int .i64 0, .int .i64 han, .int .i64 kd, .int .i64 sz, .slice D m d, .slice none 0 0] ∧ Bx 3 w C #[.int .i64 code] ∧ Bx 3 w K #[.int .i64 cn] ∧
    (Ls byS w D zs ∧ zs.length = m ∧ (zs = [] ∨ Clear (fun k => k = B ∨ k = C ∨ k = K) D)) ∧
    σ 0 = .n mrk ∧ σ 1 = .n code ∧ σ 2 = .n han ∧ σ 3 = .n kd ∧ σ 4 = .n sz ∧ σ 5 = .d D m d zs ∧ σ 6 = .n cn
theorem rp7_at {B C K i : Nat} {p : Pt} (h : (rp7 B C K)[i]? = some p) : (i = 0 ∧ p = .num (at_ B 0) 4) ∨ (i = 1 ∧ p = .num (at_ C 0) 1) ∨ (i = 2 ∧ p = .num (at_ B 2) 4) ∨ (i = 3 ∧ p = .num (at_ B 3) 1) ∨ (i = 4 ∧ p = .num (at_ B 4) 4) ∨ (i = 5 ∧ p = .dat (at_ B 5)) ∨ (i = 6 ∧ p = .num (at_ K 0) 1) := by
  unfold rp7 rpParts at h
  rcases i with _ | _ | _ | _ | _ | _ | _ | i <;> simp at h <;> subst h <;> simp
theorem lsSet {T : Nat → Prop} {w : World} {D : Option Addr} {zs : List Int} {B : Nat} (h : Ls byS w D zs) (hc : zs = [] ∨ Clear T D) (hT : T B) (o : Nat) (u : Value) : Ls byS (w.setCell ⟨B, o, none⟩ u) D zs := by
  rcases hc with rfl | hc
  · exact Ls.nil _ _
  · exact h.only ((Only.refl T w).setCell (.inl hT) u) hc
theorem rp_fm (B C K : Nat) (h1 : B ≠ C) (h2 : B ≠ K) (h3 : C ≠ K) : Fm (fun k => k = B ∨ k = C ∨ k = K) (rp7 B C K) (RpI B C K) where
  mem := fun i p h => by
    rcases rp7_at h with ⟨-, rfl⟩ | ⟨-, rfl⟩ | ⟨-, rfl⟩ | ⟨-, rfl⟩ | ⟨-, rfl⟩ | ⟨-, rfl⟩ | ⟨-, rfl⟩
    · exact ⟨.inl rfl, rfl⟩
    · exact ⟨.inr (.inl rfl), rfl⟩
    · exact ⟨.inl rfl, rfl⟩
    · exact ⟨.inl rfl, rfl⟩
    · exact ⟨.inl rfl, rfl⟩
    · exact ⟨.inl rfl, rfl⟩
    · exact ⟨.inr (.inr rfl), rfl⟩
  get := fun w σ i p hI h => by
    obtain ⟨mrk, code, han, kd, sz, cn, D, m, d, zs, hb, hc, hk, hz, s0, s1, s2, s3, s4, s5, s6⟩ := hI
    rcases rp7_at h with ⟨rfl, rfl⟩ | ⟨rfl, rfl⟩ | ⟨rfl, rfl⟩ | ⟨rfl, rfl⟩ | ⟨rfl, rfl⟩ | ⟨rfl, rfl⟩ | ⟨rfl, rfl⟩
    · rw [s0]; exact ⟨hb.lt, hb.cell 0 _ rfl, hb.soft 0, trivial⟩
    · rw [s1]; exact ⟨hc.lt, hc.cell 0 _ rfl, hc.soft 0, trivial⟩
    · rw [s2]; exact ⟨hb.lt, hb.cell 2 _ rfl, hb.soft 2, trivial⟩
    · rw [s3]; exact ⟨hb.lt, hb.cell 3 _ rfl, hb.soft 3, trivial⟩
    · rw [s4]; exact ⟨hb.lt, hb.cell 4 _ rfl, hb.soft 4, trivial⟩
    · rw [s5]; exact ⟨hb.lt, hb.cell 5 _ rfl, hb.soft 5, trivial⟩
    · rw [s6]; exact ⟨hk.lt, hk.cell 0 _ rfl, hk.soft 0, trivial⟩
  put := fun w σ i p v hI h hf hv => by
    obtain ⟨mrk, code, han, kd, sz, cn, D, m, d, zs, hb, hc, hk, ⟨z1, z2, z3⟩, s0, s1, s2, s3, s4, s5, s6⟩ := hI
    have ne : ∀ (j : Nat), j ≠ i → upd σ i v j = σ j := fun j hj => if_neg hj
    have eq : upd σ i v i = v := upd_same _ _ _
    rcases rp7_at h with ⟨rfl, rfl⟩ | ⟨rfl, rfl⟩ | ⟨rfl, rfl⟩ | ⟨rfl, rfl⟩ | ⟨rfl, rfl⟩ | ⟨rfl, rfl⟩ | ⟨rfl, rfl⟩
    · rcases v with v | s | _ <;> try exact hf.elim
      exact ⟨v, code, han, kd, sz, cn, D, m, d, zs, hb.set 0 _, hc.other h1.symm _, hk.other h2.symm _, ⟨lsSet z1 z3 (.inl rfl) _ _, z2, z3⟩, eq, (ne 1 (by omega)).trans s1, (ne 2 (by omega)).trans s2, (ne 3 (by omega)).trans s3, (ne 4 (by omega)).trans s4, (ne 5 (by omega)).trans s5, (ne 6 (by omega)).trans s6⟩
    · rcases v with v | s | _ <;> try exact hf.elim
      exact ⟨mrk, v, han, kd, sz, cn, D, m, d, zs, hb.other h1 _, hc.set 0 _, hk.other h3.symm _, ⟨lsSet z1 z3 (.inr (.inl rfl)) _ _, z2, z3⟩, (ne 0 (by omega)).trans s0, eq, (ne 2 (by omega)).trans s2, (ne 3 (by omega)).trans s3, (ne 4 (by omega)).trans s4, (ne 5 (by omega)).trans s5, (ne 6 (by omega)).trans s6⟩
    · rcases v with v | s | _ <;> try exact hf.elim
      exact ⟨mrk, code, v, kd, sz, cn, D, m, d, zs, hb.set 2 _, hc.other h1.symm _, hk.other h2.symm _, ⟨lsSet z1 z3 (.inl rfl) _ _, z2, z3⟩, (ne 0 (by omega)).trans s0, (ne 1 (by omega)).trans s1, eq, (ne 3 (by omega)).trans s3, (ne 4 (by omega)).trans s4, (ne 5 (by omega)).trans s5, (ne 6 (by omega)).trans s6⟩
    · rcases v with v | s | _ <;> try exact hf.elim
      exact ⟨mrk, code, han, v, sz, cn, D, m, d, zs, hb.set 3 _, hc.other h1.symm _, hk.other h2.symm _, ⟨lsSet z1 z3 (.inl rfl) _ _, z2, z3⟩, (ne 0 (by omega)).trans s0, (ne 1 (by omega)).trans s1, (ne 2 (by omega)).trans s2, eq, (ne 4 (by omega)).trans s4, (ne 5 (by omega)).trans s5, (ne 6 (by omega)).trans s6⟩
    · rcases v with v | s | _ <;> try exact hf.elim
      exact ⟨mrk, code, han, kd, v, cn, D, m, d, zs, hb.set 4 _, hc.other h1.symm _, hk.other h2.symm _, ⟨lsSet z1 z3 (.inl rfl) _ _, z2, z3⟩, (ne 0 (by omega)).trans s0, (ne 1 (by omega)).trans s1, (ne 2 (by omega)).trans s2, (ne 3 (by omega)).trans s3, eq, (ne 5 (by omega)).trans s5, (ne 6 (by omega)).trans s6⟩
    · rcases v with v | s | ⟨D', m', d', zs'⟩ <;> try exact hf.elim
      obtain ⟨y1, y2, y3⟩ := hv
      exact ⟨mrk, code, han, kd, sz, cn, D', m', d', zs', hb.set 5 _, hc.other h1.symm _, hk.other h2.symm _, ⟨lsSet y1 y3 (.inl rfl) _ _, y2, y3⟩, (ne 0 (by omega)).trans s0, (ne 1 (by omega)).trans s1, (ne 2 (by omega)).trans s2, (ne 3 (by omega)).trans s3, (ne 4 (by omega)).trans s4, eq, (ne 6 (by omega)).trans s6⟩
    · rcases v with v | s | _ <;> try exact hf.elim
      exact ⟨mrk, code, han, kd, sz, v, D, m, d, zs, hb.other h2 _, hc.other h3 _, hk.set 0 _, ⟨lsSet z1 z3 (.inr (.inr rfl)) _ _, z2, z3⟩, (ne 0 (by omega)).trans s0, (ne 1 (by omega)).trans s1, (ne 2 (by omega)).trans s2, (ne 3 (by omega)).trans s3, (ne 4 (by omega)).trans s4, (ne 5 (by omega)).trans s5, eq⟩
  new := fun w w' σ hI hb => by
    obtain ⟨mrk, code, han, kd, sz, cn, D, m, d, zs, h4, h5, h6, ⟨z1, z2, z3⟩, hs⟩ := hI
    exact ⟨mrk, code, han, kd, sz, cn, D, m, d, zs, h4.below hb, h5.below hb, h6.below hb, ⟨z1.below hb, z2, z3⟩, hs⟩

/-- names in a row of their own -/
def NmI (Q n : Nat) (w : World) (σ : Nat → PV) : Prop :=
  ∃ f : Nat → Byt, Bx 9 w Q ((List.range n).map fun i => Value.string (tx (f i))).toArray ∧ ∀ i, i < n → σ i = .t (f i)
theorem nmP_at {Q n i : Nat} {p : Pt} (h : (nmP Q 0 n)[i]? = some p) : i < n ∧ p = .txt (at_ Q i) := by
  unfold nmP at h
  rw [List.getElem?_map] at h
  rcases Nat.lt_or_ge i n with g | g
  · rw [List.getElem?_range g] at h
    injection h with h
    exact ⟨g, by rw [← h]; show Pt.txt (at_ Q (0 + i)) = _; rw [Nat.zero_add]⟩
  · rw [List.getElem?_eq_none (by simpa using g)] at h
    cases h
theorem nm_fm (Q n : Nat) : Fm (fun k => k = Q) (nmP Q 0 n) (NmI Q n) where
  mem := fun i p h => by
    obtain ⟨-, rfl⟩ := nmP_at h
    exact ⟨rfl, rfl⟩
  get := fun w σ i p hI h => by
    obtain ⟨hi, rfl⟩ := nmP_at h
    obtain ⟨f, hb, hs⟩ := hI
    rw [hs i hi]
    exact ⟨hb.lt, hb.cell i _ (by simp [hi]; rfl), hb.soft i, trivial⟩
  put := fun w σ i p v hI h hf hv => by
    obtain ⟨hi, rfl⟩ := nmP_at h
    obtain ⟨f, hb, hs⟩ := hI
    rcases v with v | s | _ <;> try exact hf.elim
    refine ⟨fun j => if j = i then s else f j, ?_, fun j hj => ?_⟩
    · have := hb.set i (PV.cell (.t s))
      have e : (((List.range n).map fun i => Value.string (tx (f i))).toArray.modify i fun _ => PV.cell (.t s)) = ((List.range n).map fun j => Value.string (tx (if j = i then s else f j))).toArray := by
        apply Array.ext
        · simp
        · intro j h1 h2
          simp only [Array.size_modify, List.size_toArray, List.length_map, List.length_range] at h1
          rw [Array.getElem_modify]
          simp only [List.getElem_toArray, List.getElem_map, List.getElem_range]
          by_cases e : i = j
          · subst e; simp; rfl
          · rw [if_neg e, if_neg (fun h => e h.symm)]
      rw [e] at this
      exact this
    · show (if j = i then PV.t s else σ j) = PV.t (if j = i then s else f j)
      by_cases e : j = i
      · rw [if_pos e, if_pos e]
      · rw [if_neg e, if_neg e]; exact hs j hj
  new := fun w w' σ hI hb => by
    obtain ⟨f, h1, h2⟩ := hI
    exact ⟨f, h1.below hb, h2⟩
theorem nmI_ls {Q n : Nat} {w : World} {σ : Nat → PV} {ns : List Byt} (h : NmI Q n w σ) (hl : ns.length = n) (hs : ∀ i, i < n → σ i = .t (ns.getD i [])) : Ls stS w (some ⟨Q, 0, none⟩) ns := by
  obtain ⟨f, hb, hf⟩ := h
  refine .inr ⟨Q, 0, rfl, hb.lt, fun j u hu => ?_⟩
  have hfl : stS.flat ns = ns.map fun l => Value.string (tx l) := by
    clear hl hs hu
    induction ns with
    | nil => rfl
    | cons x r ih => exact congrArg (Value.string (tx x) :: ·) ih
  rw [hfl] at hu
  rw [List.getElem?_map] at hu
  have hj : j < ns.length := by
    rcases Nat.lt_or_ge j ns.length with g | g
    · exact g
    · rw [List.getElem?_eq_none g] at hu; cases hu
  rw [List.getElem?_eq_getElem hj] at hu
  injection hu with hu
  have h1 := hf j (by omega)
  rw [hs j (by omega), List.getD_eq_getElem?_getD, List.getElem?_eq_getElem hj] at h1
  injection h1 with h1
  rw [Nat.zero_add]
  refine hb.cell j u ?_
  rw [← hu]
  simp only [List.getElem?_toArray, List.getElem?_map]
  rw [List.getElem?_range (by omega)]
  show some (Value.string (tx (f j))) = _
  rw [← h1]; rfl

end Go.Proofs.Ytelfnlocgknpjaa
