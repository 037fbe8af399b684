/-
  slices.Delete of one want.
-/
import Derived.Test.YtjlnjeigoncfoaaFtIndex
import Derived.Laws.OwnMore
namespace Go.Proofs.Ytjlnjeigoncfoaa
open Go.RowKit
set_option linter.unusedVariables false
set_option linter.unusedSimpArgs false

theorem wp_appN {P : Program} (w : World) {o : Oper} {a : Act} {K : Act → World → Prop} {Q : Exit → Act → World → Prop} (d s : Operand) (t t' : TypeId)
    (ho : o.op = .call { callee := .builtin .append, args := #[d, s], argTypes := #[t, t'] }) (v u : Value) (hd : a.eval d = v) (hs : a.eval s = u) {v' : Value} {w' : World}
    (hr : (Builtin.append_ #[t, t'] o.type #[v, u]).run P w = .ok v' w') (h : K (a.put o.dst v') w') : o.wp P a w K Q := by
  unfold Oper.wp execOp
  simp only [ho, resolve, invoke, builtin, Sem.run_bind, Sem.run_pure, Result.andThen_ok, List.map_toArray, List.map_cons, List.map_nil, hd, hs, hr]
  exact h
theorem step_appN {P : Program} {ops : Array Oper} {o : Oper} {a : Act} {w : World} {K : Act → World → Prop} {Q : Exit → Act → World → Prop} {E : Prop} (hgd : o.guard = none) (d s : Operand) (t t' : TypeId)
    (ho : o.op = .call { callee := .builtin .append, args := #[d, s], argTypes := #[t, t'] }) (v u : Value) (hd : a.eval d = v) (hs : a.eval s = u) {v' : Value} {w' : World}
    (hr : (Builtin.append_ #[t, t'] o.type #[v, u]).run P w = .ok v' w') (h : K (a.put o.dst v') w') : if Region.wanted o (yielded ops a.tmps) = true then Oper.wp P o a w K Q else E := by
  have hw : Region.wanted o (yielded ops a.tmps) = true := by simp [Region.wanted, hgd]
  rw [if_pos hw]
  exact wp_appN w d s t t' ho v u hd hs hr h
theorem wp_clearN {P : Program} (w : World) {o : Oper} {a : Act} {K : Act → World → Prop} {Q : Exit → Act → World → Prop} (d : Operand) (t : TypeId)
    (ho : o.op = .call { callee := .builtin .clear, args := #[d], argTypes := #[t] }) (v : Value) (hd : a.eval d = v) {v' : Value} {w' : World}
    (hr : (Builtin.clear_ #[t] o.type #[v]).run P w = .ok v' w') (h : K (a.put o.dst v') w') : o.wp P a w K Q := by
  unfold Oper.wp execOp
  simp only [ho, resolve, invoke, builtin, Sem.run_bind, Sem.run_pure, Result.andThen_ok, List.map_toArray, List.map_cons, List.map_nil, hd, hr]
  exact h
theorem wpList_clearN {P : Program} (w : World) {ops : Array Oper} {rest : List Oper} {o : Oper} {a : Act} {Q : Exit → Act → World → Prop} (hgd : o.guard = none) (d : Operand) (t : TypeId)
    (ho : o.op = .call { callee := .builtin .clear, args := #[d], argTypes := #[t] }) (v : Value) (hd : a.eval d = v) {v' : Value} {w' : World}
    (hr : (Builtin.clear_ #[t] o.type #[v]).run P w = .ok v' w') (h : wpList P ops Q rest (a.put o.dst v') w') : wpList P ops Q (o :: rest) a w :=
  wpList_plain hgd fun _ hK => wp_clearN w d t ho v hd hr (hK _ _ h)

theorem del_run (w : World) (base g n c : Nat) (l : List Wt) (ho : OwnL wtS 33 w base (some ⟨g, 0, none⟩) n c l) (k : Nat) (hk : k < n) :
    ∃ w1 w2, (∀ ty a d, (a = (⟨g, (k + 1) * 2, none⟩ : Addr) ∨ n = k + 1) → (Builtin.append_ #[27, 27] ty #[.slice (some ⟨g, 0, none⟩) k c, .slice (some a) (n - (k + 1)) d]).run Try.prog w = .ok (.slice (some ⟨g, 0, none⟩) (n - 1) c) w1) ∧
      (∀ ty d, (Builtin.clear_ #[27] ty #[.slice (some ⟨g, (n - 1) * 2, none⟩) 1 d]).run Try.prog w1 = .ok (.tuple #[]) w2) ∧
      OwnL wtS 33 w2 base (some ⟨g, 0, none⟩) (n - 1) c (l.take k ++ l.drop (k + 1)) ∧ Only (fun j => j = g) w w2 := by
  obtain ⟨i0, hi, hz0, hz1, hz2⟩ := info_parts wtInfo
  have hln := ho.1
  rcases ho.2.2 with ⟨h, _⟩ | ⟨g', cap', cur, h, hbg, hg, hnc, hcm, hcs, htake⟩
  · cases h
  injection h with hA _ hcc
  injection hA with hA
  injection hA with hA _
  subst hA; subst hcc
  obtain ⟨cl, rfl⟩ : ∃ cl : List Value, cur = cl.toArray := ⟨cur.toList, by simp⟩
  have hcs1 : cl.length = c * 2 := by simpa [wtS] using hcs
  have htk : cl.take (n * 2) = wtS.flat l := by simpa [wtS] using htake
  have hfl : (wtS.flat (l.drop (k + 1))).length = (n - (k + 1)) * 2 := by rw [wtS.flat_len, List.length_drop, hln]; rfl
  have hfd : wtS.flat (l.take (k + 1)) = (wtS.flat l).take ((k + 1) * 2) := wtS.flat_take l (k + 1)
  have hfd2 : wtS.flat l = wtS.flat (l.take (k + 1)) ++ wtS.flat (l.drop (k + 1)) := by rw [← wtS.flat_app, List.take_append_drop]
  have hft1 : (wtS.flat (l.take (k + 1))).length = (k + 1) * 2 := by rw [wtS.flat_len, List.length_take, hln]; show min (k + 1) n * 2 = _; rw [Nat.min_eq_left (by omega)]
  have hftk : wtS.flat (l.take k) = cl.take (k * 2) := by
    have := wtS.flat_take l k
    rw [this, ← htk, List.take_take]; show cl.take (min (k * 2) (n * 2)) = _; rw [Nat.min_eq_left (by omega)]
  obtain ⟨c2, hc2⟩ : ∃ c2, c2 = cl.take (k * 2) ++ wtS.flat (l.drop (k + 1)) ++ cl.drop (k * 2 + (wtS.flat (l.drop (k + 1))).length) := ⟨_, rfl⟩
  have hl2 : c2.length = c * 2 := by rw [hc2]; simp [hfl]; omega
  have hh2 : (w.setRow g c2.toArray).heap[g]? = some (.cells c2.toArray 33 (0, 0)) := setRow_heap _ _ _ _ _ _ hg
  obtain ⟨c3, hc3⟩ : ∃ c3, c3 = c2.take ((n - 1) * 2) ++ [Value.int .i64 0, Value.int .i64 0] ++ c2.drop ((n - 1) * 2 + 2) := ⟨_, rfl⟩
  have hl3 : c3.length = c * 2 := by rw [hc3]; simp; omega
  have hh3 : ((w.setRow g c2.toArray).setRow g c3.toArray).heap[g]? = some (.cells c3.toArray 33 (0, 0)) := setRow_heap _ _ _ _ _ _ hh2
  refine ⟨w.setRow g c2.toArray, (w.setRow g c2.toArray).setRow g c3.toArray, ?_, ?_, ?_, ?_⟩
  · intro ty a d ha
    have hcells : ∀ j u, (wtS.flat (l.drop (k + 1)))[j]? = some u → w.cell? (a.add j) = some u := by
      intro j u hu
      have hj := (List.getElem?_eq_some_iff.1 hu).1
      rcases ha with rfl | hn
      · rw [addr_add]
        simp only [World.cell?, hg, List.getElem?_toArray]
        have : (wtS.flat l)[(k + 1) * 2 + j]? = some u := by
          rw [hfd2, List.getElem?_append_right (by omega), hft1, Nat.add_sub_cancel_left]; exact hu
        rw [← htk, List.getElem?_take, if_pos (by omega)] at this
        exact this
      · rw [hfl] at hj; omega
    have hr := run_append_room (P := Try.prog) w 27 ty 33 i0 Try.underlying27 hi g k c cl.toArray hg a (n - (k + 1)) d (wtS.flat (l.drop (k + 1))) (by rw [hfl, hz1]; rfl) hcells (wtS.flat_one _) (by omega) (by rw [hz1, hfl]; simp [hcs1, wtS]; omega)
    rw [hr, hz1, hc2]
    rw [show k + (n - (k + 1)) = n - 1 from by omega]
    rfl
  · intro ty d
    have hzv : ∀ w : World, (zeroValue 33).run Try.prog w = .ok (.agg #[.int .i64 0, .int .i64 0]) w := fun w => by simp [zeroValue, typeInfo, hi, hz0]
    have hst := run_storeCells_at Try.prog g ((n - 1) * 2) 33 [Value.int .i64 0, Value.int .i64 0] 0 c2.toArray (w.setRow g c2.toArray) hh2 (by simp [hl2]; omega) (by intro v hv; simp at hv; rcases hv with rfl | rfl <;> rfl)
    simp only [Nat.add_zero] at hst
    have hzc : (Builtin.zeroCells (Value.agg #[.int .i64 0, .int .i64 0]).cells 1).toList = [Value.int .i64 0, Value.int .i64 0] := by first | (simp [Builtin.zeroCells, Value.cells]; done) | (simp [Builtin.zeroCells, Value.cells]; rfl) | decide
    simp [Builtin.clear_, run_underlying Try.underlying27, hzv, hzc, hst]
    rw [hc3]; simp
  · refine ⟨by simp; omega, ?_⟩
    refine ⟨by rw [wtS.flat_len]; simp [wtS]; omega, .inr ⟨g, c, c3.toArray, rfl, hbg, hh3, by omega, hcm, by simp [hl3, wtS], ?_⟩⟩
    have e1 : c3.take ((n - 1) * 2) = c2.take ((n - 1) * 2) := by
      rw [hc3, List.append_assoc, List.take_append_of_le_length (by rw [List.length_take]; omega), List.take_take, Nat.min_self]
    have e2 : (cl.take (k * 2) ++ wtS.flat (l.drop (k + 1))).length = (n - 1) * 2 := by rw [List.length_append, List.length_take, hfl]; omega
    have e3 : c2.take ((n - 1) * 2) = cl.take (k * 2) ++ wtS.flat (l.drop (k + 1)) := by rw [hc2, ← e2]; exact List.take_left
    show c3.take ((n - 1) * 2) = _
    rw [e1, e3, wtS.flat_app, hftk]
  · exact ⟨rfl, rfl, rfl, by simp [World.setRow], fun j _ hj => (setRow_other _ _ _ _ hj).trans (setRow_other _ _ _ _ hj)⟩

theorem idx_del {l : List Wt} {k : Nat} (hk : k < l.length) : (l.take k ++ l.drop (k + 1)).length = l.length - 1 := by simp; omega
set_option maxHeartbeats 4000000 in
theorem delete_any (w : World) (base g n c : Nat) (l : List Wt) (ho : OwnL wtS 33 w base (some ⟨g, 0, none⟩) n c l) (k : Nat) (hk : k < n) (hn : n ≤ 1000) :
    Calls Try.prog 21 #[.slice (some ⟨g, 0, none⟩) n c, .int .i64 k, .int .i64 ((k : Int) + 1)] w fun e w' => e = .returned (.slice (some ⟨g, 0, none⟩) (n - 1) c) ∧ OwnL wtS 33 w' base (some ⟨g, 0, none⟩) (n - 1) c (l.take k ++ l.drop (k + 1)) ∧ Only (fun j => j = g) w w' := by
  have hcap := ho.cap
  obtain ⟨w1, w2, h1, h2, h3, h4⟩ := del_run w.drew base g n c l (ho.below (Below.refl _ _).drew) k hk
  have H3 := Lib.hid h3
  have H4 : Hid (Only (fun j => j = g) w w2) := Lib.hid ((only_new (Below.refl _ _).drew).trans h4 (fun j hj => .inl hj))
  have H1 := Lib.hid h1
  have H2 := Lib.hid h2
  clear h1 h2 h3 h4 ho
  have z1 : ¬ (k : Int) = (k : Int) + 1 := by omega
  have z2 : ((k : Int) == (k : Int) + 1) = false := by rw [beq_eq_false_iff_ne]; omega
  have z3 : (k : Int) ≤ (k : Int) + 1 := by omega
  have z4 : (k : Int) + 1 ≤ (n : Int) := by omega
  have z5 : (n : Int) ≤ (c : Int) := by omega
  have z6 : ((k : Int) + 1).toNat = k + 1 := by omega
  have z7 : (0 : Int) ≤ (k : Int) + 1 := by omega
  have z8 : (k : Int) ≤ (c : Int) := by omega
  have z9 : ¬ c = n - 1 := by omega
  have z10 : ((n - 1 : Nat) : Int) ≤ (n : Int) := by omega
  have z11 : n - (n - 1) = 1 := by omega
  have z12 : (k : Int) + 1 ≤ (c : Int) := by omega
  go_enter Try.func21, Try.ntmps21
  by_cases hck : c = k + 1
  · have hnk : n = k + 1 := by omega
    subst hnk
    subst hck
    have H1' : Hid (∀ ty, (Builtin.append_ #[27, 27] ty #[.slice (some ⟨g, 0, none⟩) k (k + 1), .slice (some ⟨g, 0, none⟩) 0 0]).run Try.prog w.drew = .ok (.slice (some ⟨g, 0, none⟩) k (k + 1)) w1) := Lib.hid (fun ty => by have := H1.out ty ⟨g, 0, none⟩ 0 (.inr rfl); simpa only [Nat.sub_self, Nat.add_sub_cancel] using this)
    have H2' : Hid (∀ ty d, (Builtin.clear_ #[27] ty #[.slice (some ⟨g, k * 2, none⟩) 1 d]).run Try.prog w1 = .ok (.tuple #[]) w2) := Lib.hid (fun ty d => by have := H2.out ty d; simpa only [Nat.add_sub_cancel] using this)
    simp only [Nat.add_sub_cancel] at H3 z9 z10 z11 ⊢
    clear z10 z9
    have z9 : ¬ k + 1 = k := by omega
    have z10 : (k : Int) ≤ (k : Int) + 1 := by omega
    go_upto_region 5 with fail
    go_region_law (refine step_appN rfl (.tmp 22) (.tmp 25) 27 27 rfl (.slice (some ⟨g, 0, none⟩) k (k + 1)) (.slice (some ⟨g, 0, none⟩) 0 0) (by simp [Act.eval, Act.put]) (by simp [Act.eval, Act.put]) (H1'.out _) ?_)
    all_goals
      go_wp2_with (first | (at_builtin; refine wpList_clearN _ rfl (.tmp 31) 27 rfl (.slice (some ⟨g, k * 2, none⟩) 1 _) rfl (H2'.out _ _) ?_) | (refine wpList_clearN _ rfl (.tmp 31) 27 rfl (.slice (some ⟨g, k * 2, none⟩) 1 _) rfl (H2'.out _ _) ?_))
      go_ret
      exact ⟨rfl, H3.out, H4.out⟩
  · go_upto_region 5 with fail
    go_region_law (refine step_appN rfl (.tmp 22) (.tmp 25) 27 27 rfl (.slice (some ⟨g, 0, none⟩) k c) (.slice (some ⟨g, (k + 1) * 2, none⟩) (n - (k + 1)) (c - (k + 1))) (by simp [Act.eval, Act.put]) (by simp [Act.eval, Act.put]) (H1.out _ _ _ (.inl rfl)) ?_)
    all_goals
      go_wp2_with (first | (at_builtin; refine wpList_clearN _ rfl (.tmp 31) 27 rfl (.slice (some ⟨g, (n - 1) * 2, none⟩) 1 (c - (n - 1))) rfl (H2.out _ _) ?_) | (refine wpList_clearN _ rfl (.tmp 31) 27 rfl (.slice (some ⟨g, (n - 1) * 2, none⟩) 1 (c - (n - 1))) rfl (H2.out _ _) ?_))
      go_ret
      exact ⟨rfl, H3.out, H4.out⟩

end Go.Proofs.Ytjlnjeigoncfoaa
