/-
  The program's hearer in memory: what it holds, wherever it lies within its block; stores into it.
-/
import Derived.Test.YtehckiihipnimaaRecvMath
import Derived.Test.YtehckiihipnimaaOutletPut
import Derived.Test.YtehckiihipnimaaShapes
import Derived.Test.YtehckiihipnimaaRg
import Derived.Laws.OwnMore
namespace Go.Proofs.Ytehckiihipnimaa
open Go.RowKit
set_option linter.unusedVariables false
set_option linter.unusedSimpArgs false

/-- where a struct lies within its block: what stands ahead of it, and behind -/
structure Env where
  t : TypeId
  pre : List Value
  suf : List Value
  o : Nat
  ho : pre.length = o
def Bxs (E : Env) (w : World) (B : Nat) (cs : Array Value) : Prop := Bx E.t w B (E.pre ++ (cs.toList ++ E.suf)).toArray
section
variable {E : Env} {w w' : World} {B : Nat} {cs : Array Value}
theorem Bxs.lt (h : Bxs E w B cs) : B < w.heap.size := Bx.lt h
theorem Bxs.cell (h : Bxs E w B cs) (j : Nat) (v : Value) (hv : cs[j]? = some v) : w.cell? ⟨B, E.o + j, none⟩ = some v := by
  refine Bx.cell h _ v ?_
  have hj : j < cs.size := (Array.getElem?_eq_some_iff.1 hv).1
  rw [List.getElem?_toArray, List.getElem?_append_right (by rw [E.ho]; omega), E.ho, Nat.add_sub_cancel_left, List.getElem?_append_left (by simpa using hj)]
  simpa using hv
theorem Bxs.soft (h : Bxs E w B cs) (j : Nat) : w.frozen? ⟨B, j, none⟩ = false := Bx.soft h j
theorem Bxs.only {S : Nat → Prop} (h : Bxs E w B cs) (ho : Only S w w') (hB : ¬ S B) : Bxs E w' B cs := Bx.only h ho hB
theorem Bxs.below (h : Bxs E w B cs) (hb : Below w.heap.size w w') : Bxs E w' B cs := Bx.below h hb
theorem Bxs.set (h : Bxs E w B cs) (j : Nat) (hj : j < cs.size) (u : Value) : Bxs E (w.setCell ⟨B, E.o + j, none⟩ u) B (cs.modify j fun _ => u) := by
  have := Bx.set h (E.o + j) u
  unfold Bxs
  have e : (E.pre ++ (cs.toList ++ E.suf)).toArray.modify (E.o + j) (fun _ => u) = (E.pre ++ ((cs.modify j fun _ => u).toList ++ E.suf)).toArray := by
    rw [← Array.toList_inj]
    simp only [Array.toList_modify]
    apply List.ext_getElem?
    intro i
    rw [List.getElem?_modify]
    have eL : ∀ m : List Value, (E.pre ++ m)[i]? = if i < E.o then E.pre[i]? else m[i - E.o]? := fun m => by rw [List.getElem?_append, E.ho]
    have eM : ∀ m : List Value, m.length = cs.size → (m ++ E.suf)[i - E.o]? = if i - E.o < cs.size then m[i - E.o]? else E.suf[i - E.o - cs.size]? := fun m hm => by rw [List.getElem?_append, hm]
    rw [eL, eL, eM _ (by simp), eM _ (by simp)]
    by_cases q : E.o + j = i
    · subst q
      have h1 : ¬ E.o + j < E.o := by omega
      have h2 : E.o + j - E.o = j := by omega
      simp [h1, h2, hj, List.getElem?_modify]
    · simp only [if_neg q]
      rw [show (fun a : Value => a) = id from rfl, Option.map_eq_map, Option.map_id]
      by_cases q1 : i < E.o
      · simp [q1]
      · by_cases q2 : i - E.o < cs.size
        · have q3 : ¬ j = i - E.o := by omega
          simp [q1, q2, List.getElem?_modify, q3]
        · simp [q1, q2]
  rw [e] at this
  exact this
end

theorem OwnL.cellB {w : World} {base g : Nat} {n c : Nat} {zs : List Int} (h : OwnL byS 5 w base (some ⟨g, 0, none⟩) n c zs) (j : Nat) (hj : j < n) : w.cell? ⟨g, j, none⟩ = some (.int .u8 (zs.getD j 0)) := by
  have hl : j < zs.length := by rw [h.1]; exact hj
  obtain ⟨b, o, hA, hlt, hc⟩ := h.ls.at j (zs[j]) (List.getElem?_eq_getElem hl)
  injection hA with hA
  injection hA with e1 e2
  subst e1; subst e2
  have := hc 0 (.int .u8 zs[j]) rfl
  simp only [byS, Nat.mul_one, Nat.zero_add, Nat.add_zero] at this
  rw [this, List.getD_eq_getElem?_getD, List.getElem?_eq_getElem hl]; rfl
theorem flat_by (l : List Int) : byS.flat l = l.map fun z => .int .u8 z := by
  induction l with
  | nil => rfl
  | cons x t ih => show byS.cells x ++ byS.flat t = _; rw [ih]; rfl
theorem OwnL.softB {w : World} {base g : Nat} {n c : Nat} {zs : List Int} (h : OwnL byS 5 w base (some ⟨g, 0, none⟩) n c zs) (j : Nat) : w.frozen? ⟨g, j, none⟩ = false := h.2.frozenAt j
theorem OwnL.putB {w : World} {base g : Nat} {n c : Nat} {zs : List Int} (h : OwnL byS 5 w base (some ⟨g, 0, none⟩) n c zs) (j : Nat) (v : Int) :
    OwnL byS 5 (w.setCell ⟨g, j, none⟩ (.int .u8 v)) base (some ⟨g, 0, none⟩) n c (zs.set j v) := by
  obtain ⟨h1, h2⟩ := h.2.stored j (.int .u8 v)
  refine ⟨by rw [List.length_set]; exact h.1, ?_⟩
  rw [flat_by, List.map_set, ← flat_by]; exact h1

def hrC (s : Hr) (D : Option Addr) (dc : Nat) (Y : Option Addr) (yc : Nat) : Array Value :=
  #[.int .i64 s.room, .slice D s.data.length dc, .int .i64 s.dn, .slice Y s.bt.length yc, .int .i64 s.taken, .bool s.ended, .int .i64 s.stop]
/-- who hears lies at block B, where E says; its rows lie in none of T -/
def HM (E : Env) (w : World) (T : Nat → Prop) (B : Nat) (s : Hr) : Prop :=
  ∃ D dc Y yc, Bxs E w B (hrC s D dc Y yc) ∧ OwnL byS 5 w (B + 1) D s.data.length dc s.data ∧ Ls rgS w Y s.bt ∧
    Clear (fun j => j = B ∨ T j ∨ w.heap.size ≤ j ∨ (Value.slice D s.data.length dc).ownBlock = some j) Y ∧ (∀ k, (Value.slice D s.data.length dc).ownBlock = some k → ¬ T k) ∧ ¬ T B

section
variable {E : Env} {w w' : World} {T T' S : Nat → Prop} {B : Nat} {s s' : Hr}
theorem HM.lt (h : HM E w T B s) : B < w.heap.size := by obtain ⟨D, dc, Y, yc, h1, _⟩ := h; exact h1.lt
theorem HM.notT (h : HM E w T B s) : ¬ T B := by obtain ⟨D, dc, Y, yc, -, -, -, -, -, h6⟩ := h; exact h6
theorem HM.only (h : HM E w T B s) (ho : Only S w w') (hS : ∀ k, S k → T k ∨ w.heap.size ≤ k) (hT : ∀ k, T' k → T k ∨ w.heap.size ≤ k) : HM E w' T' B s := by
  obtain ⟨D, dc, Y, yc, h1, h2, h3, h4, h5, h6⟩ := h
  have hlt := h1.lt
  have hS' : ∀ k, S k → ¬ k = B ∧ ¬ (Value.slice D s.data.length dc).ownBlock = some k := fun k hk => by
    rcases hS k hk with g | g
    · exact ⟨fun e => h6 (e ▸ g), fun e => h5 k e g⟩
    · exact ⟨fun e => by omega, fun e => by have := (h2.lt k e).2; omega⟩
  refine ⟨D, dc, Y, yc, h1.only ho (fun g => (hS' B g).1 rfl), h2.only ho (fun k hk g => (hS' k g).2 hk), h3.only ho (fun a ha g => h4 a ha ?_), fun a ha g => h4 a ha ?_, fun k hk g => ?_, fun g => ?_⟩
  · rcases hS _ g with g | g
    · exact .inr (.inl g)
    · exact .inr (.inr (.inl g))
  · have := ho.size
    rcases g with g | g | g | g
    · exact .inl g
    · rcases hT _ g with g | g
      · exact .inr (.inl g)
      · exact .inr (.inr (.inl g))
    · exact .inr (.inr (.inl (by omega)))
    · exact .inr (.inr (.inr g))
  · rcases hT k g with g | g
    · exact h5 k hk g
    · have := (h2.lt k hk).2; omega
  · rcases hT B g with g | g
    · exact h6 g
    · omega
theorem HM.new (h : HM E w T B s) (ho : Below w.heap.size w w') : HM E w' T B s := h.only (S := fun _ => False) (only_new ho) (fun _ h => h.elim) (fun _ h => .inl h)
theorem HM.less (h : HM E w T B s) (hT : ∀ k, T' k → T k) : HM E w T' B s := h.only (S := fun _ => False) (Only.refl _ _) (fun _ h => h.elim) (fun k hk => .inl (hT k hk))
theorem HM.cells (h : HM E w T B s) : ∃ D dc Y yc,
    (w.cell? ⟨B, E.o, none⟩ = some (.int .i64 s.room) ∧ w.cell? ⟨B, E.o + 1, none⟩ = some (.slice D s.data.length dc) ∧ w.cell? ⟨B, E.o + 2, none⟩ = some (.int .i64 s.dn) ∧ w.cell? ⟨B, E.o + 3, none⟩ = some (.slice Y s.bt.length yc) ∧ w.cell? ⟨B, E.o + 4, none⟩ = some (.int .i64 s.taken) ∧ w.cell? ⟨B, E.o + 5, none⟩ = some (.bool s.ended) ∧ w.cell? ⟨B, E.o + 6, none⟩ = some (.int .i64 s.stop)) ∧
    (∀ j, w.frozen? ⟨B, j, none⟩ = false) ∧ OwnL byS 5 w (B + 1) D s.data.length dc s.data ∧ Ls rgS w Y s.bt ∧ (∀ k, (Value.slice D s.data.length dc).ownBlock = some k → B < k ∧ k < w.heap.size ∧ ¬ T k) := by
  obtain ⟨D, dc, Y, yc, h1, h2, h3, -, h5, -⟩ := h
  exact ⟨D, dc, Y, yc, ⟨h1.cell 0 _ rfl, h1.cell 1 _ rfl, h1.cell 2 _ rfl, h1.cell 3 _ rfl, h1.cell 4 _ rfl, h1.cell 5 _ rfl, h1.cell 6 _ rfl⟩, fun j => h1.soft j, h2, h3, fun k hk => ⟨(h2.lt k hk).1, (h2.lt k hk).2, h5 k hk⟩⟩
/-- a store of what is no row -/
theorem HM.set (h : HM E w T B s) (j : Nat) (hj : j < 7) (u : Value) (hd : s'.data = s.data) (hb : s'.bt = s.bt) (hC : ∀ D dc Y yc, (hrC s D dc Y yc).modify j (fun _ => u) = hrC s' D dc Y yc) : HM E (w.setCell ⟨B, E.o + j, none⟩ u) T B s' := by
  obtain ⟨D, dc, Y, yc, h1, h2, h3, h4, h5, h6⟩ := h
  unfold HM
  rw [hd, hb]
  refine ⟨D, dc, Y, yc, ?_, h2.only (only_set w B _ u) (fun k hk e => by have := (h2.lt k hk).1; omega), h3.only (only_set w B _ u) (h4.mono fun k hk => .inl hk), h4.mono fun k hk => ?_, h5, h6⟩
  · rw [← hC]; exact h1.set j hj u
  · rw [size_set] at hk; exact hk
/-- its own row has turned: another row, or other bytes -/
theorem HM.setData (h : HM E w T B s) (hd : s'.room = s.room ∧ s'.dn = s.dn ∧ s'.bt = s.bt ∧ s'.taken = s.taken ∧ s'.ended = s.ended ∧ s'.stop = s.stop) (D : Option Addr) (dc : Nat) (h0 : w.cell? ⟨B, E.o + 1, none⟩ = some (.slice D s.data.length dc)) (D' : Option Addr) (dc' : Nat)
    (hon : Only (fun k => (Value.slice D s.data.length dc).ownBlock = some k) w w') (ho : OwnL byS 5 w' (B + 1) D' s'.data.length dc' s'.data)
    (hs : ∀ k, (Value.slice D' s'.data.length dc').ownBlock = some k → (Value.slice D s.data.length dc).ownBlock = some k ∨ w.heap.size ≤ k) (hT : ∀ k, T k → k < w.heap.size) :
    HM E (w'.setCell ⟨B, E.o + 1, none⟩ (.slice D' s'.data.length dc')) T B s' ∧ Only (fun k => k = B ∨ (Value.slice D s.data.length dc).ownBlock = some k) w (w'.setCell ⟨B, E.o + 1, none⟩ (.slice D' s'.data.length dc')) := by
  obtain ⟨g1, g2, g3, g4, g5, g6⟩ := hd
  obtain ⟨D0, dc0, Y, yc, h1, h2, h3, h4, h5, h6⟩ := h
  have e := h1.cell 1 _ rfl
  rw [h0] at e
  injection e with e
  injection e with e1 _ e3
  subst e1; subst e3
  have hc : Clear (fun j => j = B ∨ T j ∨ w'.heap.size ≤ j ∨ (Value.slice D' s'.data.length dc').ownBlock = some j) Y := fun a ha g => h4 a ha (by
    have := hon.size
    rcases g with g | g | g | g
    · exact .inl g
    · exact .inr (.inl g)
    · exact .inr (.inr (.inl (by omega)))
    · rcases hs _ g with q | q
      · exact .inr (.inr (.inr q))
      · exact .inr (.inr (.inl q)))
  have hx := h1.only hon (fun g => by have := (h2.lt B g).1; omega)
  refine ⟨⟨D', dc', Y, yc, ?_, ho.only (only_set w' B _ _) (fun k hk e => by have := (ho.lt k hk).1; omega), ?_, hc.mono fun k hk => ?_, fun k hk g => ?_, h6⟩, (hon.mono fun k hk => .inr hk).trans (only_set w' B _ _) (fun k hk => .inl (.inl hk))⟩
  · have := hx.set 1 (by show 1 < 7; omega) (.slice D' s'.data.length dc')
    have ec : (hrC s D dc Y yc).modify 1 (fun _ => .slice D' s'.data.length dc') = hrC s' D' dc' Y yc := by
      show (#[.int .i64 s.room, .slice D' s'.data.length dc', .int .i64 s.dn, .slice Y s.bt.length yc, .int .i64 s.taken, .bool s.ended, .int .i64 s.stop] : Array Value) = _
      unfold hrC
      rw [g1, g2, g3, g4, g5, g6]
    rw [ec] at this
    exact this
  · rw [g3]
    exact (h3.only hon (fun a ha g => h4 a ha (.inr (.inr (.inr g))))).only (only_set w' B _ _) (hc.mono fun k hk => .inl hk)
  · rw [size_set] at hk; exact hk
  · rcases hs k hk with q | q
    · exact h5 k q g
    · have := hT k g; omega
/-- a byte of its own row -/
theorem HM.putByte (h : HM E w T B s) (hd : s'.room = s.room ∧ s'.dn = s.dn ∧ s'.bt = s.bt ∧ s'.taken = s.taken ∧ s'.ended = s.ended ∧ s'.stop = s.stop) (g dc : Nat) (h0 : w.cell? ⟨B, E.o + 1, none⟩ = some (.slice (some ⟨g, 0, none⟩) s.data.length dc)) (p : Nat) (v : Int) (hv : s'.data = s.data.set p v) :
    HM E (w.setCell ⟨g, p, none⟩ (.int .u8 v)) T B s' := by
  obtain ⟨g1, g2, g3, g4, g5, g6⟩ := hd
  obtain ⟨D0, dc0, Y, yc, h1, h2, h3, h4, h5, h6⟩ := h
  have e := h1.cell 1 _ rfl
  rw [h0] at e
  injection e with e
  injection e with e1 _ e3
  subst e1; subst e3
  have hl : s'.data.length = s.data.length := by rw [hv, List.length_set]
  have hgb : B < g := (h2.lt g rfl).1
  refine ⟨some ⟨g, 0, none⟩, dc, Y, yc, ?_, by rw [hl, hv]; exact h2.putB p v, ?_, ?_, by rw [hl]; exact h5, h6⟩
  · have := h1.only (only_set w g p (.int .u8 v)) (by omega)
    have ec : hrC s (some ⟨g, 0, none⟩) dc Y yc = hrC s' (some ⟨g, 0, none⟩) dc Y yc := by unfold hrC; rw [g1, g2, g3, g4, g5, g6, hl]
    rw [ec] at this
    exact this
  · rw [g3]
    exact h3.only (only_set w g p (.int .u8 v)) (h4.mono fun k hk => .inr (.inr (.inr (by subst hk; rfl))))
  · rw [hl]
    exact h4.mono fun k hk => (by rw [size_set] at hk; exact hk)
/-- other ranges -/
theorem HM.setBeyond (h : HM E w T B s) (hd : s'.room = s.room ∧ s'.data = s.data ∧ s'.dn = s.dn ∧ s'.taken = s.taken ∧ s'.ended = s.ended ∧ s'.stop = s.stop) (Y' : Option Addr) (n yc' : Nat) (hn : s'.bt.length = n) (hl : Ls rgS w Y' s'.bt) (lo : Nat) (hcl : ∀ a, Y' = some a → lo ≤ a.block ∧ a.block < w.heap.size) (hlo : B < lo) (hTlo : ∀ k, T k → k < lo)
    (hD : ∀ (D : Option Addr) (dc : Nat), w.cell? ⟨B, E.o + 1, none⟩ = some (.slice D s.data.length dc) → ∀ k, (Value.slice D s.data.length dc).ownBlock = some k → k < lo) : HM E (w.setCell ⟨B, E.o + 3, none⟩ (.slice Y' n yc')) T B s' := by
  subst hn
  obtain ⟨g1, g2, g3, g4, g5, g6⟩ := hd
  obtain ⟨D, dc, Y, yc, h1, h2, h3, h4, h5, h6⟩ := h
  have hDk := hD D dc (h1.cell 1 _ rfl)
  have hc : Clear (fun j => j = B ∨ T j ∨ w.heap.size ≤ j ∨ (Value.slice D s.data.length dc).ownBlock = some j) Y' := fun a ha g => by
    obtain ⟨q1, q2⟩ := hcl a ha
    rcases g with g | g | g | g
    · omega
    · have := hTlo _ g; omega
    · omega
    · have := hDk _ g; omega
  unfold HM
  rw [g2]
  refine ⟨D, dc, Y', yc', ?_, h2.only (only_set w B _ _) (fun k hk e => by have := (h2.lt k hk).1; omega), hl.only (only_set w B _ _) (hc.mono fun k hk => .inl hk), hc.mono fun k hk => ?_, h5, h6⟩
  · have := h1.set 3 (by show 3 < 7; omega) (.slice Y' s'.bt.length yc')
    have ec : (hrC s D dc Y yc).modify 3 (fun _ => .slice Y' s'.bt.length yc') = hrC s' D dc Y' yc' := by
      show (#[.int .i64 s.room, .slice D s.data.length dc, .int .i64 s.dn, .slice Y' s'.bt.length yc', .int .i64 s.taken, .bool s.ended, .int .i64 s.stop] : Array Value) = _
      unfold hrC
      rw [g1, g2, g3, g4, g5, g6]
    rw [ec] at this
    exact this
  · rw [size_set] at hk; exact hk
end

end Go.Proofs.Ytehckiihipnimaa
