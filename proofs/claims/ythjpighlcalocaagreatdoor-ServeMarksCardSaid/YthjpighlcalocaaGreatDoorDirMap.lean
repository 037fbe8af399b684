/-
  A directory's names: a map of nodes by texts.
-/
import Derived.Test.YthjpighlcalocaaGreatDoorRetN
import Derived.Test.YthjpighlcalocaaGreatDoorOnly
import Derived.Maps.OwnSet
import Derived.Maps.RangeWalk
import Derived.StringKeys
namespace Go.Proofs.YthjpighlcalocaaGreatDoor
open Go.RowKit Go.Maps
set_option linter.unusedVariables false
set_option linter.unusedSimpArgs false

theorem lawS : Keyed Tryz.prog 9 := string_keyed Tryz.underlying9
theorem zeroND (w : World) : (zeroValue 109).run Tryz.prog w = .ok .nilIface w := by kernel_rfl
theorem keyT {nm : Byt} (h : nm.length ≤ maxLen) : keyOf Tryz.prog 9 (.string (tx nm)) = some (.string nm) := by
  have := WideMaps.keyOf_string_mk (P := Tryz.prog) (k := 9) Tryz.underlying9 (s := tx nm) (by rw [tx_size]; exact h)
  simpa [tx] using this
theorem key_s (nm : Byt) : WideAt.IsKeyLit (.string nm) := by first | exact trivial | simp [WideAt.IsKeyLit]
theorem ne_s {x z : Byt} (h : x ≠ z) : Lit.string x ≠ .string z := fun e => h (by injection e)

/-- a node behind an interface: its type, its block -/
def mkV : Option (Nat × Nat) → Value
  | none => .nilIface
  | some (t, b) => .iface t (.pointer (some ⟨b, 0, none⟩))
def nodeElem (v : Value) : Option (DataW Unit × List MemPlace) :=
  match v with
  | .iface t (.pointer (some ⟨b, 0, none⟩)) => some (.agg [.lit (.int .i64 (t : Nat)), .lit (.int .i64 (b : Nat))], [])
  | .nilIface => some (.agg [], [])
  | _ => none
def datV : Option (Nat × Nat) → DataW Unit
  | none => .agg []
  | some (t, b) => .agg [.lit (.int .i64 (t : Nat)), .lit (.int .i64 (b : Nat))]
theorem nodeElem_mk (c : Option (Nat × Nat)) : nodeElem (mkV c) = some (datV c, []) := by rcases c with _ | ⟨t, b⟩ <;> rfl
theorem nodeElem_inv {v : Value} {y : DataW Unit × List MemPlace} (h : nodeElem v = some y) : ∃ c, v = mkV c ∧ y = (datV c, []) := by
  unfold nodeElem at h
  split at h
  · injection h with h; exact ⟨some (_, _), rfl, h.symm⟩
  · injection h with h; exact ⟨none, rfl, h.symm⟩
  · cases h
theorem datV_inj {c d : Option (Nat × Nat)} (h : datV c = datV d) : c = d := by
  rcases c with _ | ⟨t, b⟩ <;> rcases d with _ | ⟨t', b'⟩
  · rfl
  · simp [datV] at h
  · simp [datV] at h
  · simp only [datV, DataW.agg.injEq, List.cons.injEq, DataW.lit.injEq, Lit.int.injEq, true_and, and_true, Int.natCast_inj] at h
    rw [h.1, h.2]

/-- what a directory's map says of names -/
def SaysD (D : DataW Unit) (M : Byt → Option (Nat × Nat)) : Prop := ∀ x, Maps.has D (.string x) = (M x).isSome ∧ ∀ c, M x = some c → D.atKey (.string x) (.agg []) = datV (some c)
/-- block b is a map of nodes by at most K names -/
def DirIs (w : World) (b K : Nat) (M : Byt → Option (Nat × Nat)) : Prop := ∃ D : DataW Unit, w.ownsMap Tryz.prog 9 nodeElem b K D ∧ SaysD D M
def updD (M : Byt → Option (Nat × Nat)) (z : Byt) (v : Option (Nat × Nat)) : Byt → Option (Nat × Nat) := fun x => if x = z then v else M x

section
variable {w w' : World} {b K : Nat} {M M' : Byt → Option (Nat × Nat)}
theorem DirIs.heap (h : DirIs w b K M) (e : w'.heap[b]? = w.heap[b]?) : DirIs w' b K M := by
  obtain ⟨D, ⟨es, clock, hb, r⟩, hs⟩ := h
  exact ⟨D, ⟨es, clock, e.trans hb, r⟩, hs⟩
theorem DirIs.lt (h : DirIs w b K M) : b < w.heap.size := by obtain ⟨D, h1, -⟩ := h; exact h1.lt
theorem DirIs.only {S : Nat → Prop} (h : DirIs w b K M) (ho : Only S w w') (hS : ¬ S b) : DirIs w' b K M := h.heap (ho.block b h.lt hS)
theorem DirIs.below (h : DirIs w b K M) (hb : Below w.heap.size w w') : DirIs w' b K M := h.heap (hb.block b h.lt)
theorem DirIs.mono (h : DirIs w b K M) {K' : Nat} (hK : K ≤ K') : DirIs w b K' M := by obtain ⟨D, h1, h2⟩ := h; exact ⟨D, h1.mono hK, h2⟩
theorem DirIs.congr (h : DirIs w b K M) (e : ∀ x, M' x = M x) : DirIs w b K M' := by
  obtain ⟨D, h1, h2⟩ := h
  exact ⟨D, h1, fun x => by rw [e x]; exact h2 x⟩
theorem dirIs_made (w : World) : DirIs (w.alloc (.map #[] 0)) w.heap.size 0 (fun _ => none) := ⟨.map [], World.ownsMap_made _ _ _ _, fun x => ⟨rfl, fun c h => by cases h⟩⟩
theorem turned_only {w w' : World} {b : Nat} (h : w.mapTurned w' b) : Only (fun k => k = b) w w' :=
  ⟨h.grown.os, h.grown.tape, h.grown.output, h.grown.size, fun k hk hne => h.grown.block k hk (fun e => hne (by injection e))⟩
theorem turned_size {w w' : World} {b : Nat} (h : w.mapTurned w' b) : w'.heap.size = w.heap.size := by
  obtain ⟨es, clock, es', clock', hb, rfl⟩ := h
  simp [ChangeMaps.setBlock]

theorem SaysD.put {D : DataW Unit} (h : SaysD D M) (hD : IsMap D) (z : Byt) (c : Nat × Nat) : SaysD (D.put (.string z) (datV (some c))) (updD M z (some c)) := fun x => by
  unfold updD
  by_cases e : x = z
  · subst e
    rw [if_pos rfl]
    exact ⟨by rw [has_put_same hD (key_s x)]; rfl, fun c' hc => by injection hc with hc; subst hc; exact atKey_put_same hD (key_s x) _ _⟩
  · rw [if_neg e]
    refine ⟨by rw [has_put_other (ne_s e)]; exact (h x).1, fun c' hc => ?_⟩
    rw [atKey_put_other (ne_s e)]
    exact (h x).2 c' hc
theorem SaysD.del {D : DataW Unit} (h : SaysD D M) (z : Byt) : SaysD (D.del (.string z)) (updD M z none) := fun x => by
  unfold updD
  by_cases e : x = z
  · subst e
    rw [if_pos rfl]
    exact ⟨by rw [has_del_same]; rfl, fun c' hc => by cases hc⟩
  · rw [if_neg e]
    refine ⟨by rw [has_del_other (ne_s e)]; exact (h x).1, fun c' hc => ?_⟩
    rw [atKey_del_other (ne_s e)]
    exact (h x).2 c' hc
/-- what a look-up answers -/
theorem DirIs.look (h : DirIs w b K M) {nm : Byt} (hn : nm.length ≤ maxLen) :
    (Instr.lookup 105 (.map (some b)) (.string (tx nm)) true).run Tryz.prog w = .ok (.tuple #[mkV (M nm), .bool (M nm).isSome]) w := by
  obtain ⟨D, h1, h2⟩ := h
  obtain ⟨v, ps, hrun, hv⟩ := h1.look_ok lawS Tryz.underlying105 (zeroND w) (nodeElem_mk none) (keyT hn)
  obtain ⟨c, rfl, hc⟩ := nodeElem_inv hv
  rw [hrun, (h2 nm).1]
  have hc1 : D.atKey (.string nm) (.agg []) = datV c := congrArg Prod.fst hc
  rcases hM : M nm with _ | c'
  · have : Maps.has D (.string nm) = false := by rw [(h2 nm).1, hM]; rfl
    rw [atKey_of_not_has this] at hc1
    rw [← datV_inj (c := none) (d := c) hc1]
  · rw [(h2 nm).2 c' hM] at hc1
    rw [← datV_inj hc1]
theorem DirIs.store (h : DirIs w b K M) (hk : K < maxLen) {nm : Byt} (hn : nm.length ≤ maxLen) (t c : Nat) :
    ∃ w', (Instr.mapUpdate 105 (.map (some b)) (.string (tx nm)) (.iface t (.pointer (some ⟨c, 0, none⟩)))).run Tryz.prog w = .ok () w' ∧ DirIs w' b (K + 1) (updD M nm (some (t, c))) ∧ Only (fun k => k = b) w w' ∧ w'.heap.size = w.heap.size := by
  obtain ⟨D, h2, h3⟩ := h
  obtain ⟨w', hrun, r1, r2⟩ := h2.store lawS Tryz.underlying105 hk (keyT hn) (nodeElem_mk (some (t, c)))
  exact ⟨w', hrun, ⟨_, r1, h3.put h2.isMap nm (t, c)⟩, turned_only r2, turned_size r2⟩
theorem DirIs.drop (h : DirIs w b K M) {nm : Byt} (hn : nm.length ≤ maxLen) (ty : TypeId) :
    ∃ w', (Builtin.delete_ #[105, 9] ty #[.map (some b), .string (tx nm)]).run Tryz.prog w = .ok (.tuple #[]) w' ∧ DirIs w' b K (updD M nm none) ∧ Only (fun k => k = b) w w' ∧ w'.heap.size = w.heap.size := by
  obtain ⟨D, h2, h3⟩ := h
  obtain ⟨w', hrun, r1, r2⟩ := h2.drop lawS Tryz.underlying105 (keyT hn) ty
  exact ⟨w', hrun, ⟨_, r1, h3.del nm⟩, turned_only r2, turned_size r2⟩
end

section
variable (w : World) {ops : Array Oper} {rest : List Oper} {o : Oper} {a : Act} {Q : Exit → Act → World → Prop}
/-- 'v, ok := m[k]' -/
theorem wpList_lookD (hg : o.guard = none) (m x : Operand) (hop : o.op = Op.lookup 105 m x true) (b K : Nat) (M : Byt → Option (Nat × Nat)) (hm : a.eval m = .map (some b)) (hown : DirIs w b K M) (nm : Byt) (hn : nm.length ≤ maxLen) (hx : a.eval x = .string (tx nm))
    (hK : wpList Tryz.prog ops Q rest (a.put o.dst (.tuple #[mkV (M nm), .bool (M nm).isSome])) w) : wpList Tryz.prog ops Q (o :: rest) a w := by
  refine wpList_plain hg fun K' hK' => ?_
  unfold Oper.wp
  simp [execOp, hop, hm, hx, hown.look hn, Result.andThen]
  exact hK' _ _ hK
/-- 'm[k] = v' -/
theorem wpList_storeD (hg : o.guard = none) (m x v : Operand) (hop : o.op = Op.mapUpdate 105 m x v) (b K : Nat) (M : Byt → Option (Nat × Nat)) (hm : a.eval m = .map (some b)) (hown : DirIs w b K M) (hk : K < maxLen) (nm : Byt) (hn : nm.length ≤ maxLen) (hx : a.eval x = .string (tx nm)) (t c : Nat) (hv : a.eval v = .iface t (.pointer (some ⟨c, 0, none⟩)))
    (hK : ∀ w', DirIs w' b (K + 1) (updD M nm (some (t, c))) → Only (fun k => k = b) w w' → w'.heap.size = w.heap.size → wpList Tryz.prog ops Q rest (a.put o.dst undef) w') : wpList Tryz.prog ops Q (o :: rest) a w := by
  refine wpList_plain hg fun K' hK' => ?_
  obtain ⟨w', hrun, r1, r2, r3⟩ := hown.store hk hn t c
  unfold Oper.wp
  simp [execOp, hop, hm, hx, hv, hrun, Result.andThen]
  exact hK' _ _ (hK w' r1 r2 r3)
/-- 'delete(m, k)' -/
theorem wpList_delD (hg : o.guard = none) (m x : Operand) (hop : o.op = Op.call { callee := Callee.builtin Builtin.delete, args := #[m, x], argTypes := #[105, 9] }) (b K : Nat) (M : Byt → Option (Nat × Nat)) (hm : a.eval m = .map (some b)) (hown : DirIs w b K M) (nm : Byt) (hn : nm.length ≤ maxLen) (hx : a.eval x = .string (tx nm))
    (hK : ∀ w', DirIs w' b K (updD M nm none) → Only (fun k => k = b) w w' → w'.heap.size = w.heap.size → wpList Tryz.prog ops Q rest (a.put o.dst (.tuple #[])) w') : wpList Tryz.prog ops Q (o :: rest) a w := by
  refine wpList_plain hg fun K' hK' => ?_
  obtain ⟨w', hrun, r1, r2, r3⟩ := hown.drop hn o.type
  unfold Oper.wp
  simp [execOp, hop, resolve, invoke, builtin, hm, hx, hrun, Result.andThen]
  exact hK' _ _ (hK w' r1 r2 r3)
end

end Go.Proofs.YthjpighlcalocaaGreatDoor
