/-
  A map of bytes by their places, in memory.
-/
import Derived.Test.YtjlnjeigoncfoaaOnly
import Derived.Test.YtjlnjeigoncfoaaIns
import Derived.Maps.OwnSet
import Derived.Maps.RangeWalk
namespace Go.Proofs.Ytjlnjeigoncfoaa
open Go.RowKit Go.Maps
set_option linter.unusedVariables false
set_option linter.unusedSimpArgs false

theorem lawI : Keyed Try.prog 3 := int_keyed Try.underlying3
theorem zeroU (w : World) : (zeroValue 5).run Try.prog w = .ok (.int .u8 0) w := by kernel_rfl
theorem wf_i {z : Int} (h : i64in z) : (Lit.int .i64 z).wf = true := by
  have := h.1; have := h.2
  simp [Lit.wf, IntKind.min, IntKind.max, IntKind.signed, IntKind.bits]; omega
theorem wf_u {z : Int} (h0 : 0 ≤ z) (h1 : z ≤ 255) : (Lit.int .u8 z).wf = true := by
  simp [Lit.wf, IntKind.min, IntKind.max, IntKind.signed, IntKind.bits]; omega
theorem key_i (z : Int) : WideAt.IsKeyLit (.int .i64 z) := by first | exact trivial | simp [WideAt.IsKeyLit]
theorem ne_i {x z : Int} (h : x ≠ z) : Lit.int .i64 x ≠ .int .i64 z := fun e => h (by injection e)

/-- the places that a map has, with their bytes -/
def Says (D : DataW Unit) (M : Int → Option Int) : Prop := ∀ x, i64in x → Maps.has D (.int .i64 x) = (M x).isSome ∧ ∀ c, M x = some c → D.atKey (.int .i64 x) (.lit (.int .u8 0)) = .lit (.int .u8 c)
/-- block b is a map of at most K places -/
def MapIs (w : World) (b K : Nat) (M : Int → Option Int) : Prop := ∃ D : DataW Unit, w.ownsMap Try.prog 3 (plainElem Try.prog 5) b K D ∧ Says D M
def upd (M : Int → Option Int) (z : Int) (v : Option Int) : Int → Option Int := fun x => if x = z then v else M x

section
variable {w w' : World} {b K : Nat} {M M' : Int → Option Int}
theorem MapIs.heap (h : MapIs w b K M) (e : w'.heap[b]? = w.heap[b]?) : MapIs w' b K M := by
  obtain ⟨D, ⟨es, clock, hb, r⟩, hs⟩ := h
  exact ⟨D, ⟨es, clock, e.trans hb, r⟩, hs⟩
theorem MapIs.lt (h : MapIs w b K M) : b < w.heap.size := by obtain ⟨D, h1, -⟩ := h; exact h1.lt
theorem MapIs.only {S : Nat → Prop} (h : MapIs w b K M) (ho : Only S w w') (hS : ¬ S b) : MapIs w' b K M := h.heap (ho.block b h.lt hS)
theorem MapIs.below (h : MapIs w b K M) (hb : Below w.heap.size w w') : MapIs w' b K M := h.heap (hb.block b h.lt)
theorem MapIs.mono (h : MapIs w b K M) {K' : Nat} (hK : K ≤ K') : MapIs w b K' M := by obtain ⟨D, h1, h2⟩ := h; exact ⟨D, h1.mono hK, h2⟩
theorem MapIs.congr (h : MapIs w b K M) (e : ∀ x, i64in x → M' x = M x) : MapIs w b K M' := by
  obtain ⟨D, h1, h2⟩ := h
  exact ⟨D, h1, fun x hx => by rw [e x hx]; exact h2 x hx⟩
theorem mapIs_made (w : World) : MapIs (w.alloc (.map #[] 0)) w.heap.size 0 (fun _ => none) := ⟨.map [], World.ownsMap_made _ _ _ _, fun x _ => ⟨rfl, fun c h => by cases h⟩⟩
theorem turned_only {w w' : World} {b : Nat} (h : w.mapTurned w' b) : Only (fun k => k = b) w w' :=
  ⟨h.grown.os, h.grown.tape, h.grown.output, h.grown.size, fun k hk hne => h.grown.block k hk (fun e => hne (by injection e))⟩

theorem Says.put {D : DataW Unit} (h : Says D M) (hD : IsMap D) (z c : Int) : Says (D.put (.int .i64 z) (.lit (.int .u8 c))) (upd M z (some c)) := fun x hx => by
  unfold upd
  by_cases e : x = z
  · subst e
    rw [if_pos rfl]
    exact ⟨by rw [has_put_same hD (key_i x)]; rfl, fun c' hc => by injection hc with hc; subst hc; exact atKey_put_same hD (key_i x) _ _⟩
  · rw [if_neg e]
    refine ⟨by rw [has_put_other (ne_i e)]; exact (h x hx).1, fun c' hc => ?_⟩
    rw [atKey_put_other (ne_i e)]
    exact (h x hx).2 c' hc
theorem Says.del {D : DataW Unit} (h : Says D M) (z : Int) : Says (D.del (.int .i64 z)) (upd M z none) := fun x hx => by
  unfold upd
  by_cases e : x = z
  · subst e
    rw [if_pos rfl]
    exact ⟨by rw [has_del_same]; rfl, fun c' hc => by cases hc⟩
  · rw [if_neg e]
    refine ⟨by rw [has_del_other (ne_i e)]; exact (h x hx).1, fun c' hc => ?_⟩
    rw [atKey_del_other (ne_i e)]
    exact (h x hx).2 c' hc
end

section
variable (w : World) {ops : Array Oper} {rest : List Oper} {o : Oper} {a : Act} {Q : Exit → Act → World → Prop}
/-- 'v, ok := m[k]' -/
theorem wpList_look (hg : o.guard = none) (m x : Operand) (hop : o.op = Op.lookup 49 m x true) (b K : Nat) (M : Int → Option Int) (hm : a.eval m = .map (some b)) (hown : MapIs w b K M) (z : Int) (hz : i64in z) (hx : a.eval x = .int .i64 z)
    (hK : ∀ c : Int, (M z = some c ∨ M z = none) → wpList Try.prog ops Q rest (a.put o.dst (.tuple #[.int .u8 c, .bool (M z).isSome])) w) : wpList Try.prog ops Q (o :: rest) a w := by
  obtain ⟨D, h1, h2⟩ := hown
  refine wpList_lookup_own_ok_int w hg m x _ hop 3 5 .u8 lawI Try.underlying49 Try.underlying5 (zeroU _) b K D hm h1 _ _ hx (keyOf_int_mk Try.underlying3 (wf_i hz)) ?_
  intro c hat hwc
  rw [(h2 z hz).1]
  refine hK c ?_
  rcases hM : M z with _ | c'
  · exact .inr rfl
  · left
    have := (h2 z hz).2 c' hM
    rw [hat] at this
    injection this with this
    injection this with _ this
    rw [this]
/-- 'm[k] = v' -/
theorem wpList_store (hg : o.guard = none) (m x v : Operand) (hop : o.op = Op.mapUpdate 49 m x v) (b K : Nat) (M : Int → Option Int) (hm : a.eval m = .map (some b)) (hown : MapIs w b K M) (hk : K < maxLen) (z : Int) (hz : i64in z) (hx : a.eval x = .int .i64 z) (c : Int) (h0 : 0 ≤ c) (h1 : c ≤ 255) (hv : a.eval v = .int .u8 c)
    (hK : ∀ w', MapIs w' b (K + 1) (upd M z (some c)) → Only (fun k => k = b) w w' → w'.heap.size = w.heap.size → wpList Try.prog ops Q rest (a.put o.dst undef) w') : wpList Try.prog ops Q (o :: rest) a w := by
  obtain ⟨D, h2, h3⟩ := hown
  refine wpList_mapUpdate_in w hg m x v _ hop 3 5 lawI Try.underlying49 (plainElem Try.prog 5) b K D hm h2 hk _ _ _ hx hv (keyOf_int_mk Try.underlying3 (wf_i hz)) _ [] (plainElem_int Try.underlying5 (wf_u h0 h1)) ?_
  intro w' h4 h5
  refine hK w' ⟨_, h4, h3.put h2.isMap z c⟩ (turned_only h5) ?_
  obtain ⟨es, clock, es', clock', hb, rfl⟩ := h5
  simp [ChangeMaps.setBlock]
theorem MapIs.store {b K : Nat} {M : Int → Option Int} (hown : MapIs w b K M) (hk : K < maxLen) (z : Int) (hz : i64in z) (c : Int) (h0 : 0 ≤ c) (h1 : c ≤ 255) :
    ∃ w', (Instr.mapUpdate 49 (.map (some b)) (.int .i64 z) (.int .u8 c)).run Try.prog w = .ok () w' ∧ MapIs w' b (K + 1) (upd M z (some c)) ∧ Only (fun k => k = b) w w' ∧ w'.heap.size = w.heap.size := by
  obtain ⟨D, h2, h3⟩ := hown
  obtain ⟨w', hrun, r1, r2⟩ := h2.store lawI Try.underlying49 hk (keyOf_int_mk Try.underlying3 (wf_i hz)) (plainElem_int Try.underlying5 (wf_u h0 h1))
  refine ⟨w', hrun, ⟨_, r1, h3.put h2.isMap z c⟩, turned_only r2, ?_⟩
  obtain ⟨es, clock, es', clock', hb, rfl⟩ := r2
  simp [ChangeMaps.setBlock]
/-- 'delete(m, k)' -/
theorem wpList_del (hg : o.guard = none) (m x : Operand) (hop : o.op = Op.call { callee := Callee.builtin Builtin.delete, args := #[m, x], argTypes := #[49, 3] }) (b K : Nat) (M : Int → Option Int) (hm : a.eval m = .map (some b)) (hown : MapIs w b K M) (z : Int) (hz : i64in z) (hx : a.eval x = .int .i64 z)
    (hK : ∀ w', MapIs w' b K (upd M z none) → Only (fun k => k = b) w w' → w'.heap.size = w.heap.size → wpList Try.prog ops Q rest (a.put o.dst (.tuple #[])) w') : wpList Try.prog ops Q (o :: rest) a w := by
  obtain ⟨D, h2, h3⟩ := hown
  refine wpList_delete_own w hg m x _ 3 hop 5 lawI Try.underlying49 (plainElem Try.prog 5) b K D hm h2 _ _ hx (keyOf_int_mk Try.underlying3 (wf_i hz)) ?_
  intro w' h4 h5
  refine hK w' ⟨_, h4, h3.del z⟩ (turned_only h5) ?_
  obtain ⟨es, clock, es', clock', hb, rfl⟩ := h5
  simp [ChangeMaps.setBlock]
end

end Go.Proofs.Ytjlnjeigoncfoaa
