/-
  The builtin append of a text's bytes onto an own row of bytes, guarded or not, in any order.
-/
import Derived.Test.YtelfnlocgknpjaaBy
import Derived.Test.YtelfnlocgknpjaaText
import Derived.Lib.AppendStr
namespace Go.Proofs.Ytelfnlocgknpjaa
open Go.RowKit Go.Lib
set_option linter.unusedVariables false
set_option linter.unusedSimpArgs false

/-- a text's bytes as numbers -/
def ofT (l : Byt) : List Int := l.map fun b => (b.toNat : Int)
theorem ofT_len (l : Byt) : (ofT l).length = l.length := by unfold ofT; simp
theorem strCells_tx (l : Byt) : strCells (tx l) = byS.flat (ofT l) := by
  rw [flat_by]
  unfold strCells ofT
  rw [tx_list, List.map_map]; rfl

section
variable {P : Program}
theorem run_appT (w : World) (base : Nat) (t u ty e : TypeId) (i : TypeInfo) (ht : P.underlying t = some (.slice e)) (hu : P.underlying u = some .string) (hi : P.info? e = some i) (hz : i.zero = some (.int .u8 0))
    (hsize : i.size = 1) (hby : i.bytes = 1) (A : Option Addr) (n c : Nat) (zs : List Int) (hown : OwnL byS e w base A n c zs) (l : Byt) (hs : n + l.length ≤ 1000000000) (hbase : base ≤ w.heap.size) :
    ∃ A' c' w', (Builtin.append_ #[t, u] ty #[.slice A n c, .string (tx l)]).run P w = .ok (.slice A' (n + l.length) c') w' ∧ OwnL byS e w' base A' (n + l.length) c' (zs ++ ofT l) ∧ Below base w w' ∧ Beside (.slice A n c) (.slice A' (n + l.length) c') w w' := by
  have hsz : (tx l).size = l.length := tx_size l
  obtain ⟨v', w', hr, h2, h3, h4⟩ := run_append_own_string (P := P) w base t u ty e i ht hu hi hz hsize hby (.slice A n c) n (byS.flat zs) hown.2 (tx l) (by simp only [maxLen]; omega) (by omega) hbase
  rw [hsz] at h2
  rw [strCells_tx, ← byS.flat_app] at h2
  have hblk : v'.ownBlock = (Value.slice A n c).ownBlock ∨ v'.ownBlock = some w.heap.size ∨ v'.ownBlock = none := by
    rcases hown.2.2 with ⟨hv, hn⟩ | ⟨g, cap, cur, hv, hbg, hg, hnc, hcm, hcs, htake⟩
    · by_cases h0 : (tx l).size = 0
      · rw [h4.2 ⟨hv, h0⟩]; exact .inr (.inr rfl)
      · rw [hv] at hr
        rw [run_append_nil_string (P := P) w t u ty e i (.int .u8 0) ht hu hi hz (tx l) (by omega) (by omega) (by rw [hby]; omega)] at hr
        injection hr with hr _
        rw [← hr]; exact .inr (.inl rfl)
    · rw [hv] at hr
      have hcs' : cur.size = cap := by have : cur.size = cap * 1 := hcs; omega
      by_cases hroom : n + (tx l).size ≤ cap
      · rw [run_append_room_string (P := P) w t u ty e i ht hu hi hsize g n cap cur hg (tx l) hroom (by omega)] at hr
        injection hr with hr _
        rw [← hr, hv]; exact .inl rfl
      · have holds : ∀ j x, (byS.flat zs)[j]? = some x → w.cell? ((⟨g, 0, none⟩ : Addr).add j) = some x := by
          have := hown.2; rw [hv] at this
          exact this.cells (g := g) rfl
        have hxl : (byS.flat zs).length = n := by rw [byS.flat_len, hown.1]; show n * 1 = n; omega
        rw [run_append_grow_string (P := P) w t u ty e i (.int .u8 0) ht hu hi hz ⟨g, 0, none⟩ n cap (byS.flat zs) (by rw [hsize]; omega) holds (tx l) (by omega) (by omega) (by rw [hby]; exact growslice_fits (by omega) (by omega))] at hr
        injection hr with hr _
        rw [← hr]; exact .inr (.inl rfl)
  have hbel : Below base w w' := (Below.refl _ _).grown h3 hbase (fun k hk => (hown.lt k hk).1)
  have hbes : Beside (.slice A n c) v' w w' := ⟨fun k hp hk => h3.block k hp fun e => hk _ e.symm rfl, fun k hk => by
    rcases hblk with g | g | g
    · exact .inl (g ▸ hk)
    · rw [g] at hk; injection hk with hk; exact .inr (by omega)
    · rw [g] at hk; cases hk⟩
  have hlen : (zs ++ ofT l).length = n + l.length := by rw [List.length_append, ofT_len, hown.1]
  rcases h2.2 with ⟨hv, hn⟩ | ⟨g, cap, cur, hv, _⟩
  · exact ⟨none, 0, w', by rw [hr, hv, hn], by rw [hv] at h2; rw [hn]; exact ⟨by rw [hlen, hn], by rw [hn] at h2; exact h2⟩, hbel, by rw [hn]; rw [hv] at hbes; exact hbes⟩
  · exact ⟨_, cap, w', by rw [hr, hv], by rw [hv] at h2; exact ⟨hlen, h2⟩, hbel, by rw [hv] at hbes; exact hbes⟩

theorem wpList_appT {ops : Array Oper} {rest : List Oper} {o : Oper} {a : Act} {Q : Exit → Act → World → Prop} (hw : Region.wanted o (yielded ops a.tmps) = true) (w : World) (s x : Operand) (t u e : TypeId)
    (ho : o.op = .call { callee := .builtin .append, args := #[s, x], argTypes := #[t, u] })
    (ht : P.underlying t = some (.slice e)) (hu : P.underlying u = some .string) (hinfo : (P.info? e).map (fun i => (i.zero, i.size, i.bytes)) = some (some (.int .u8 0), 1, 1))
    (base : Nat) (A : Option Addr) (n c : Nat) (zs : List Int) (hs : a.eval s = .slice A n c) (hown : OwnL byS e w base A n c zs)
    (l : Byt) (hx : a.eval x = .string (tx l)) (N : Nat) (hN : n + l.length = N) (small : N ≤ 1000000000) (hbase : base ≤ w.heap.size)
    (h : ∀ A' c' w', OwnL byS e w' base A' N c' (zs ++ ofT l) → Below base w w' → Beside (.slice A n c) (.slice A' N c') w w' → wpList P ops Q rest (a.put o.dst (.slice A' N c')) w') : wpList P ops Q (o :: rest) a w :=
  wpList_step fun _ hK => by
    rw [if_pos hw]
    subst hN
    obtain ⟨i0, hi, hz0, hz1, hz2⟩ := info_parts hinfo
    obtain ⟨A', c', w', hrun, h2, h3, h4⟩ := run_appT (P := P) w base t u o.type e i0 ht hu hi hz0 hz1 hz2 A n c zs hown l small hbase
    unfold Oper.wp execOp
    simp only [ho, resolve, invoke, builtin, Sem.run_bind, Sem.run_pure, Result.andThen_ok, List.map_toArray, List.map_cons, List.map_nil, hs, hx, hrun]
    exact hK _ _ (h A' c' w' h2 h3 h4)
theorem wp_appT {o : Oper} {a : Act} {K : Act → World → Prop} {Q : Exit → Act → World → Prop} (w : World) (s x : Operand) (t u e : TypeId)
    (ho : o.op = .call { callee := .builtin .append, args := #[s, x], argTypes := #[t, u] })
    (ht : P.underlying t = some (.slice e)) (hu : P.underlying u = some .string) (hinfo : (P.info? e).map (fun i => (i.zero, i.size, i.bytes)) = some (some (.int .u8 0), 1, 1))
    (base : Nat) (A : Option Addr) (n c : Nat) (zs : List Int) (hs : a.eval s = .slice A n c) (hown : OwnL byS e w base A n c zs)
    (l : Byt) (hx : a.eval x = .string (tx l)) (N : Nat) (hN : n + l.length = N) (small : N ≤ 1000000000) (hbase : base ≤ w.heap.size)
    (h : ∀ A' c' w', OwnL byS e w' base A' N c' (zs ++ ofT l) → Below base w w' → Beside (.slice A n c) (.slice A' N c') w w' → K (a.put o.dst (.slice A' N c')) w') : o.wp P a w K Q := by
  subst hN
  obtain ⟨i0, hi, hz0, hz1, hz2⟩ := info_parts hinfo
  obtain ⟨A', c', w', hrun, h2, h3, h4⟩ := run_appT (P := P) w base t u o.type e i0 ht hu hi hz0 hz1 hz2 A n c zs hown l small hbase
  unfold Oper.wp execOp
  simp only [ho, resolve, invoke, builtin, Sem.run_bind, Sem.run_pure, Result.andThen_ok, List.map_toArray, List.map_cons, List.map_nil, hs, hx, hrun]
  exact h A' c' w' h2 h3 h4
theorem wp_appL {α : Type} {F : Shape α} {e : TypeId} {o : Oper} {a : Act} {K : Act → World → Prop} {Q : Exit → Act → World → Prop} (w : World) (s x : Operand) (t : TypeId)
    (ho : o.op = .call { callee := .builtin .append, args := #[s, x], argTypes := #[t, t] })
    (z : Value) (bytes : Nat) (ht : P.underlying t = some (.slice e)) (hinfo : (P.info? e).map (fun i => (i.zero, i.size, i.bytes)) = some (some z, F.size, bytes)) (hzs : z.cells.size = F.size)
    (base : Nat) (A : Option Addr) (n c : Nat) (zs : List α) (hs : a.eval s = .slice A n c) (hown : OwnL F e w base A n c zs)
    (B : Option Addr) (m d : Nat) (ys : List α) (hx : a.eval x = .slice B m d) (hb : Ls F w B ys) (hm : ys.length = m)
    (N : Nat) (hN : n + m = N) (small : N ≤ 1000000000) (hby : N * bytes ≤ 140737488355328) (hbase : base ≤ w.heap.size)
    (h : ∀ A' c' w', OwnL F e w' base A' N c' (zs ++ ys) → Below base w w' → Beside (.slice A n c) (.slice A' N c') w w' → K (a.put o.dst (.slice A' N c')) w') : o.wp P a w K Q := by
  obtain ⟨i0, hi, hz0, hz1, hz2⟩ := info_parts hinfo
  refine wp_app3 w s x t ho base e i0 _ F.size bytes ht hi hz0 hz1 hz2 hzs F.pos A n c _ hs hown.2 B m d (F.flat ys) hx (by rw [F.flat_len, hm]) hb
    (F.flat_one ys) N hN (by simp only [maxLen]; omega) (by rw [hN]; exact hby) hbase ?_
  intro A' c' w' h2 h3 h4
  exact h A' c' w' ⟨by rw [List.length_append, hown.1, hm, hN], by rw [F.flat_app]; exact h2⟩ h3 h4
theorem step_appT {ops : Array Oper} {o : Oper} {a : Act} {K : Act → World → Prop} {Q : Exit → Act → World → Prop} {E : Prop} (hw : Region.wanted o (yielded ops a.tmps) = true) (w : World) (s x : Operand) (t u e : TypeId)
    (ho : o.op = .call { callee := .builtin .append, args := #[s, x], argTypes := #[t, u] })
    (ht : P.underlying t = some (.slice e)) (hu : P.underlying u = some .string) (hinfo : (P.info? e).map (fun i => (i.zero, i.size, i.bytes)) = some (some (.int .u8 0), 1, 1))
    (base : Nat) (A : Option Addr) (n c : Nat) (zs : List Int) (hs : a.eval s = .slice A n c) (hown : OwnL byS e w base A n c zs)
    (l : Byt) (hx : a.eval x = .string (tx l)) (N : Nat) (hN : n + l.length = N) (small : N ≤ 1000000000) (hbase : base ≤ w.heap.size)
    (h : ∀ A' c' w', OwnL byS e w' base A' N c' (zs ++ ofT l) → Below base w w' → Beside (.slice A n c) (.slice A' N c') w w' → K (a.put o.dst (.slice A' N c')) w') :
    if Region.wanted o (yielded ops a.tmps) = true then Oper.wp P o a w K Q else E := by
  rw [if_pos hw]
  subst hN
  obtain ⟨i0, hi, hz0, hz1, hz2⟩ := info_parts hinfo
  obtain ⟨A', c', w', hrun, h2, h3, h4⟩ := run_appT (P := P) w base t u o.type e i0 ht hu hi hz0 hz1 hz2 A n c zs hown l small hbase
  unfold Oper.wp execOp
  simp only [ho, resolve, invoke, builtin, Sem.run_bind, Sem.run_pure, Result.andThen_ok, List.map_toArray, List.map_cons, List.map_nil, hs, hx, hrun]
  exact h A' c' w' h2 h3 h4
end

end Go.Proofs.Ytelfnlocgknpjaa
