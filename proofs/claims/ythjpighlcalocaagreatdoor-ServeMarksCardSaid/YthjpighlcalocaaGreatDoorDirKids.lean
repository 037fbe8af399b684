/-
  How many names a directory has; its map in drawn regions.
-/
import Derived.Test.YthjpighlcalocaaGreatDoorTreePut
import Derived.Sort.KeysCollected
namespace Go.Proofs.YthjpighlcalocaaGreatDoor
open Go.RowKit Go.Maps
set_option linter.unusedVariables false
set_option linter.unusedSimpArgs false

theorem kids_perm {T : Wd} (h : WF T) {p : Nat → Nat} {n : Nat} {w : World} {m K : Nat} {D : DataW Unit} (ho : w.ownsMap Tryz.prog 9 nodeElem m K D) (hs : SaysD D (namesM T p n)) : (kids T n).Perm (Go.strKeys D) := by
  obtain ⟨es, hD, hpw, _⟩ := ho.entries lawS
  obtain ⟨es', hD', hko⟩ := ho.keysOf
  obtain rfl : es = es' := by rw [hD] at hD'; simpa using hD'
  subst hD
  refine perm_strKeys hpw (fun p hp => by obtain ⟨v, hv⟩ := hko p hp; obtain ⟨x, _, hx, _⟩ := Maps.keyOf_str Tryz.underlying9 hv; exact ⟨x, hx⟩) (kids_nodup h n) (fun x => ?_)
  rw [mem_kids h, (hs x).1]
  unfold namesM
  rw [Option.isSome_map]
theorem kids_size {T : Wd} (h : WF T) {p : Nat → Nat} {n : Nat} {w : World} {m K : Nat} {D : DataW Unit} (ho : w.ownsMap Tryz.prog 9 nodeElem m K D) (hs : SaysD D (namesM T p n)) : Maps.size D = (kids T n).length := by
  rw [(kids_perm h ho hs).length_eq]
  obtain ⟨es, hD, -⟩ := ho.entries lawS
  subst hD
  show es.length = (es.map _).length
  rw [List.length_map]
theorem DirIs.len {T : Wd} (h : WF T) {p : Nat → Nat} {n : Nat} {w : World} {m K : Nat} (hd : DirIs w m K (namesM T p n)) (ty : TypeId) : (Builtin.len_ #[105] ty #[.map (some m)]).run Tryz.prog w = .ok (.int .i64 ((kids T n).length : Nat)) w := by
  obtain ⟨D, ho, hs⟩ := hd
  rw [← kids_size h ho hs]
  exact ho.len Tryz.underlying105 ty

section
variable (w : World) {ops : Array Oper} {o : Oper} {a : Act} {K' : Act → World → Prop} {Q : Exit → Act → World → Prop} {E : Prop}
theorem step_storeD (hw : Region.wanted o (yielded ops a.tmps) = true) (m x v : Operand) (hop : o.op = Op.mapUpdate 105 m x v) (b K : Nat) (M : Byt → Option (Nat × Nat)) (hm : a.eval m = .map (some b)) (hown : DirIs w b K M) (hk : K < maxLen) (nm : Byt) (hn : nm.length ≤ maxLen) (hx : a.eval x = .string (tx nm)) (t c : Nat) (hv : a.eval v = .iface t (.pointer (some ⟨c, 0, none⟩)))
    (hK : ∀ w', DirIs w' b (K + 1) (updD M nm (some (t, c))) → Only (fun k => k = b) w w' → w'.heap.size = w.heap.size → K' (a.put o.dst undef) w') : if Region.wanted o (yielded ops a.tmps) = true then Oper.wp Tryz.prog o a w K' Q else E := by
  rw [if_pos hw]
  obtain ⟨w', hrun, r1, r2, r3⟩ := hown.store hk hn t c
  unfold Oper.wp
  simp [execOp, hop, hm, hx, hv, hrun, Result.andThen]
  exact hK w' r1 r2 r3
theorem step_delD (hw : Region.wanted o (yielded ops a.tmps) = true) (m x : Operand) (hop : o.op = Op.call { callee := Callee.builtin Builtin.delete, args := #[m, x], argTypes := #[105, 9] }) (b K : Nat) (M : Byt → Option (Nat × Nat)) (hm : a.eval m = .map (some b)) (hown : DirIs w b K M) (nm : Byt) (hn : nm.length ≤ maxLen) (hx : a.eval x = .string (tx nm))
    (hK : ∀ w', DirIs w' b K (updD M nm none) → Only (fun k => k = b) w w' → w'.heap.size = w.heap.size → K' (a.put o.dst (.tuple #[])) w') : if Region.wanted o (yielded ops a.tmps) = true then Oper.wp Tryz.prog o a w K' Q else E := by
  rw [if_pos hw]
  obtain ⟨w', hrun, r1, r2, r3⟩ := hown.drop hn o.type
  unfold Oper.wp
  simp [execOp, hop, resolve, invoke, builtin, hm, hx, hrun, Result.andThen]
  exact hK w' r1 r2 r3
end

end Go.Proofs.YthjpighlcalocaaGreatDoor
