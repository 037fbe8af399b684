/-
  The program's sender: missing.
-/
import Derived.Test.YtehckiihipnimaaSndr1
import Derived.Test.YtehckiihipnimaaSBack
import Derived.Deep.DeepCutAuto
import Derived.Laws.NewBlocks
namespace Go.Proofs.Ytehckiihipnimaa
open Go.RowKit Go.Shelf
set_option linter.unusedVariables false
set_option linter.unusedSimpArgs false
attribute [local go_sem] Oper.semAt_some

/-- a way that ends as it should -/
def onlyN (Q : Exit → Act → World → Prop) : Exit → Act → World → Prop
  | .normal, a, w => Q .normal a w
  | _, _, _ => False
theorem onlyN_le {Q : Exit → Act → World → Prop} : ∀ e a w, onlyN Q e a w → Q e a w
  | .normal, _, _, h => h
  | .exit _, _, _, h => h.elim
  | .goto _, _, _, h => h.elim
  | .ret, _, _, h => h.elim
  | .panic _, _, _, h => h.elim
  | .outgrown, _, _, h => h.elim
/-- one round of the walk from behind -/
def mbStep (s : Bool × Rg) (x : Rg) : Bool × Rg := if s.1 then s else if x.1 ≤ s.2.1 then (true, (max s.2.1 x.2, s.2.2)) else (false, (s.2.1, x.1))
theorem mb_fold (at_ sn : Int) : ∀ l : List Rg, mb at_ sn l = l.reverse.foldl mbStep (false, (at_, sn))
  | [] => rfl
  | x :: t => by
    rw [List.reverse_cons, List.foldl_append, ← mb_fold at_ sn t]
    rfl
theorem mbStep_done {s : Bool × Rg} (h : s.1 = true) (x : Rg) : mbStep s x = s := by unfold mbStep; rw [if_pos h]
theorem mb_upto (l : List Rg) (s : Bool × Rg) (k : Nat) (h : (((upto l k).map (·.2)).foldl mbStep s).1 = true) : ∀ m, ((upto l (k + m)).map (·.2)).foldl mbStep s = ((upto l k).map (·.2)).foldl mbStep s
  | 0 => rfl
  | m + 1 => by
    have ih := mb_upto l s k h m
    rw [← Nat.add_assoc, upto_succ, List.map_append, List.foldl_append, ih]
    exact mbStep_done h _
theorem mb_stop (at_ sn : Int) (l : List Rg) (k : Nat) (hk : k ≤ l.length) (h : (((upto l k).map (·.2)).foldl mbStep (false, (at_, sn))).1 = true) : ((upto l k).map (·.2)).foldl mbStep (false, (at_, sn)) = mb at_ sn l := by
  obtain ⟨m, hm⟩ : ∃ m, l.length = k + m := ⟨l.length - k, by omega⟩
  rw [mb_fold, ← upto_rev l, hm, mb_upto l _ k h m]

def MsI (W0 : World) (S1 : Nat) (at_ sn : Int) (b : Bool) (pre : List (Nat × Rg)) (W : World) : Prop :=
  ∃ F E : Int, (pre.map (·.2)).foldl mbStep (false, (at_, sn)) = (b, (F, E)) ∧ Bx 44 W S1 #[.int .i64 F, .int .i64 E] ∧ Below S1 W0 W
theorem msI_own (W0 : World) (S1 : Nat) (at_ sn : Int) (b : Bool) (hS : S1 < W0.heap.size) : OwnFrom W0.heap.size (MsI W0 S1 at_ sn b) := by
  rintro pre X Y row ⟨F, E, h1, h2, h3⟩ hg hr
  exact ⟨F, E, h1, (hg.block S1 h2.lt (fun e => by have := (hr S1 e.symm).1; omega)).trans h2, h3.grown hg (by have := h3.size; omega) (fun k e => by have := (hr k e).1; omega)⟩
def MsK (q3 S1 : Nat) (A B : World) : Prop := Below q3 A B ∧ B.heap[S1]? = A.heap[S1]?
theorem msK_keeping (q3 S1 : Nat) : Keeping (MsK q3 S1) q3 S1 :=
  ⟨fun A => ⟨Below.refl _ _, rfl⟩, fun A B C h k => ⟨h.1.trans k.1, k.2.trans h.2⟩, fun A B h => h.1, fun A B h => World.cell?_of_block (a := ⟨S1, 0, none⟩) h.2⟩

/-- a function with a range over a function ends: what was deferred there is nothing -/
theorem leavesM {n : Nat} {P : Program} {fn : Func} {R : Ending → World → Prop} {tmps : Array Value} {D : Nat} {w : World} {v : Value} (h : w.heap[D]? = some (.deferred (some [])))
    (hr : (results fn tmps).run P (w.putObj D (.deferred none)) = .ok v (w.putObj D (.deferred none))) (hR : R (.returned v) (w.putObj D (.deferred none))) :
    bodyPostM Fence.wide n P fn R .ret { tmps := tmps, defers := [{ target := .collected D, args := #[] }] } w :=
  ⟨by simp, .inl ⟨_, _, rfl, run_takeDeferred h, ⟨v, hr, hR⟩⟩⟩

set_option maxRecDepth 100000 in
set_option maxHeartbeats 4000000 in
theorem missing_any (w : World) (T : Nat → Prop) (B : Nat) (dt : List Int) (cl : Bool) (sn ag : Nat) (dn : Int) (bt : List Rg) (ed : Int) (h : SM w T B dt cl sn ag dn bt ed) (hbl : bt.length ≤ 16) (f : Bool) (F E : Int) (hr : (f, (F, E)) = mb (max dn ag) sn bt) :
    Calls Try.prog 69 #[.pointer (some ⟨B, 0, none⟩)] w fun e w' => e = .returned (.agg #[.int .i64 F, .int .i64 E]) ∧ Below w.heap.size w w' := by
  obtain ⟨D, dc, Y, yc, ⟨c0, c1, c2, c3, c4, c5, c6⟩, -, -, hY⟩ := h.cells
  have hB := h.lt
  have HY := Lib.hid hY
  obtain ⟨bn, hbn⟩ : ∃ x, x = bt.length := ⟨_, rfl⟩
  rw [← hbn] at c5 hbl
  obtain ⟨a0, ha0⟩ : ∃ a, a = max dn (ag : Int) := ⟨_, rfl⟩
  rw [← ha0] at hr
  have HR := Lib.hid hr
  have HBN := Lib.hid hbn
  have HA0 := Lib.hid ha0
  clear h hY hbn hr c0 c1 c6 ha0
  refine (callsIn_wide (n := 8)).1 ?_
  refine callsIn_of_wp_marks Try.func69 rfl trivial ?_ rfl
  simp only [Try.ntmps69, List.size_toArray, List.length_cons, List.length_nil, Nat.reduceAdd, Nat.reduceSub, Array.replicate_succ, Array.replicate_zero, List.push_toArray, List.append_toArray, List.nil_append, List.cons_append]
  refine wpIn_wide.2 ?_
  go_upto_region 1 with fail
  obtain ⟨q2, hq2⟩ : ∃ q, q = w.heap.size := ⟨_, rfl⟩
  obtain ⟨w1, hw1⟩ : ∃ w1, w1 = w.alloc (.cells #[.int .i64 0, .int .i64 0] 44) := ⟨_, rfl⟩
  rw [← hw1, ← hq2]
  have HB1 : Hid (Below w.heap.size w w1) := Lib.hid (by rw [hw1]; exact ba1 _ _)
  have HX2 : Hid (Bx 44 w1 q2 #[.int .i64 0, .int .i64 0]) := Lib.hid (by rw [hw1, hq2]; exact bx_new _ _ _)
  have d2 := (HB1.out.cell (p := ⟨B, 2, none⟩) hB).trans c2
  have d3 := (HB1.out.cell (p := ⟨B, 3, none⟩) hB).trans c3
  have d4 := (HB1.out.cell (p := ⟨B, 4, none⟩) hB).trans c4
  have hB1 := Nat.lt_of_lt_of_le hB HB1.out.size
  have HQ2 := Lib.hid hq2
  have c5' := (HB1.out.cell (p := ⟨B, 5, none⟩) hB).trans c5
  have C5 := Lib.hid c5'
  clear hw1 hq2 c2 c3 c4 c5 c5' hB
  go_cut [3] from 6 to 20 (fun p wc => ∃ q3, p = .pointer (some ⟨q3, 0, none⟩) ∧ w1.heap.size ≤ q3 ∧ Bx 44 wc q3 #[.int .i64 a0, .int .i64 sn] ∧ Below w1.heap.size w1 wc)
  case first =>
    refine Code.wp_mono onlyN_le ?_
    go_region
    all_goals
      unfold onlyN
      go_wp2_with fail
    all_goals
      go_meet
      refine ⟨w1.heap.size, rfl, Nat.le_refl _, ?_, (ba1 _ _).drew⟩
      first
        | (rw [show a0 = (ag : Int) by have := HA0.out; omega]; exact (bx_new w1 _ _).below (Below.refl _ _).drew)
        | (rw [show a0 = dn by have := HA0.out; omega]; exact (bx_new w1 _ _).below (Below.refl _ _).drew)
  case rest =>
    obtain ⟨q3, rfl, hq3, hb3, hbc⟩ := hcut
    have HBC := Lib.hid hbc
    have HX3 := Lib.hid hb3
    have HXR : Hid (Bx 44 wc q2 #[.int .i64 0, .int .i64 0]) := Lib.hid (HX2.out.below hbc)
    have e5 := (hbc.cell (p := ⟨B, 5, none⟩) hB1).trans C5.out
    have hBc := Nat.lt_of_lt_of_le hB1 hbc.size
    clear hbc hb3 d2 d3 d4
    go_wp2_with (go_at_call 77; refine (callsIn_wide.1 (bw_in Fence.wide 8 trivial rfl _ _ _ _)).mono ?_; rintro e w' ⟨rfl, rfl⟩)
    refine (wpIn_wide (n := 8)).1 ?_
    obtain ⟨S1, hS1⟩ : ∃ S1, S1 = wc.heap.size := ⟨_, rfl⟩
    obtain ⟨W0, hW0⟩ : ∃ W0, W0 = wc.alloc (.cells #[.slice Y bn yc] 37) := ⟨_, rfl⟩
    have hsz0 : W0.heap.size = S1 + 1 := by rw [hW0, hS1]; simp
    have hB0 : Below wc.heap.size wc W0 := by rw [hW0]; exact ba1 _ _
    have hbs0 : W0.cell? ⟨S1, 0, none⟩ = some (.slice Y bn yc) := by
      rw [hW0, hS1]
      exact cell_of_one (World.alloc_heap_new wc (.cells #[.slice Y bn yc] 37))
    have hq3S : q3 < S1 := by rw [hS1]; exact HX3.out.lt
    have hb0 : Bx 44 W0 q3 #[.int .i64 a0, .int .i64 sn] := HX3.out.below hB0
    have hR0 : Bx 44 W0 q2 #[.int .i64 0, .int .i64 0] := HXR.out.below hB0
    have hq2q : q2 < q3 := Nat.lt_of_lt_of_le HX2.out.lt hq3
    have hbw : Below w.heap.size w W0 := (bthen HB1.out HBC.out).trans (hB0.mono (by rw [← hS1]; have := HQ2.out; omega))
    have hwq : w.heap.size < q3 := by have := HQ2.out; omega
    have hA : ∀ k x, bt[k]? = some x → ∃ b o, Y = some ⟨b, o, none⟩ ∧ b < q3 ∧ W0.cell? ⟨b, o + k * 2, none⟩ = some (.int .i64 x.1) ∧ W0.cell? ⟨b, o + k * 2 + 1, none⟩ = some (.int .i64 x.2) := by
      intro k x hx
      obtain ⟨b, o, e, hlt, hcc⟩ := HY.out.at k x hx
      have g1 := hcc 0 (.int .i64 x.1) rfl
      have g2 := hcc 1 (.int .i64 x.2) rfl
      simp only [rgS, Nat.add_zero] at g1 g2
      exact ⟨b, o, e, by omega, (hbw.cell (p := ⟨b, o + k * 2, none⟩) hlt).trans g1, (hbw.cell (p := ⟨b, o + k * 2 + 1, none⟩) hlt).trans g2⟩
    rw [← hW0, ← hS1]
    have HR0 := Lib.hid hR0
    have HBW := Lib.hid hbw
    clear hW0 hB0 hS1 hbw hR0 e5 hBc hB1
    refine wpIn_rangeFunc_ownH (F := Fence.wide) (n := 8) rfl (by omega) (gf := 90) (lb := #[.pointer (some ⟨S1, 0, none⟩)]) rfl trivial (enters_of Try.func90 (by kernel_rfl) rfl)
      (bw_stops Fence.wide 7 trivial rfl (by omega) S1 q3 bn yc Y bt HBN.out.symm (by omega) (MsK q3 S1) (msK_keeping q3 S1) W0 (by omega) (by omega) hbs0 hA)
      (fun h k => (msK_keeping q3 S1).trans _ _ _ h k)
      (fun W l o o' hl h ho hw => ⟨belowK_b (w := W0) (by omega) W l o o' hl h ho hw, (grownBy_putObj' W l o').block S1 (by have := (Array.getElem?_eq_some_iff.1 h).1; omega) (fun e => by cases e; omega)⟩)
      (Below.refl _ _) (fun _ => rfl)
      (MsI W0 q3 a0 sn false) (fun c pre W => c = .exit 0 ∧ MsI W0 q3 a0 sn true pre W) (msI_own W0 q3 a0 sn false (by omega)) (fun c => OwnFrom.and (ownFrom_pure _ _) (msI_own W0 q3 a0 sn true (by omega)))
      ⟨a0, sn, rfl, hb0, Below.refl _ _⟩
      (fun x a' W => ∃ Bx', S1 < Bx' ∧ W.heap[Bx']? = some (.cells #[.int .i64 x.2.1, .int .i64 x.2.2] 44 (0, 0)) ∧ a' = { tmps := #[.pointer (some ⟨B, 0, none⟩), undef, .pointer (some ⟨q2, 0, none⟩), .pointer (some ⟨q3, 0, none⟩), undef, .pointer (some ⟨Bx', 0, none⟩), u6, u7, u8, u9, u10, u11, u12, u13, u14, u15, u16, u17, u18, u19, .pointer (some ⟨B, 0, none⟩), .pointer (some ⟨B, 0, none⟩), .pointer (some ⟨B, 5, none⟩), .slice Y bn yc, .func (.func 90) #[] #[.pointer (some ⟨S1, 0, none⟩)], .int .i64 (x.1 : Int), .agg #[.int .i64 x.2.1, .int .i64 x.2.2], undef, undef, undef, undef, undef, undef, undef, undef, undef, undef, undef, undef, undef, undef, undef], defers := [] })
      (fun x a' _ X Y row hs hg hr => by
        obtain ⟨Bx', h1, h2, h3⟩ := hs
        refine ⟨Bx', h1, (hg.block Bx' (lt_of_block h2) (fun e => ?_)).trans h2, h3⟩
        obtain ⟨_, o, k1, k2⟩ := hr Bx' e.symm
        rw [h2] at k1; cases k1; cases k2)
      ?assign ?body ?done ?stop
    case assign =>
      rintro lp pre ⟨ix, x1, x2⟩ W K ⟨F', E', h1, h2, h3⟩ hK
      dsimp only [encB] at hK ⊢
      gi_wp2
      have hWs := h3.size
      exact hK _ _ ((KeepsOthers.alloc _ _).from _) ⟨(Below.refl _ W).alloc (by omega) _, Below.heap_alloc _ _ _ (by omega)⟩ ⟨F', E', h1, h2.below (ba1 _ _), h3.alloc (by omega) _⟩ ⟨W.heap.size, by omega, heap_alloc_new W _, rfl⟩
    case body =>
      rintro lp pre ⟨ix, x1, x2⟩ a' W hl hrec ⟨F', E', h1, h2, h3⟩ ⟨Bx', hBx, hX, rfl⟩ hlt
      have hWs := h3.size
      have g1 := h2.cell 0 (.int .i64 F') rfl
      have g2 := h2.cell 1 (.int .i64 E') rfl
      have f1 := h2.soft 0
      have f2 := h2.soft 1
      have l1 := h2.lt
      have l2 : Bx' < W.heap.size := lt_of_block hX
      have hc0 : W.cell? ⟨Bx', 0, none⟩ = some (.int .i64 x1) := by simp [World.cell?, hX]
      have hc1 : W.cell? ⟨Bx', 1, none⟩ = some (.int .i64 x2) := by simp [World.cell?, hX]
      have H1 := Lib.hid h1; have H2 := Lib.hid h2; have H3 := Lib.hid h3
      have hfold : Hid (((pre ++ [(ix, x1, x2)]).map (·.2)).foldl mbStep (false, (a0, (sn : Int))) = mbStep (false, (F', E')) (x1, x2)) := Lib.hid (by rw [List.map_append, List.foldl_append, h1]; rfl)
      clear h1 h2 h3 hX hrec hA hbs0 hb0
      by_cases hx : x1 ≤ F'
      · gi_wp2_with fail
        all_goals
          refine ⟨(KeepsOthers.setCell _ _ _).from _, rfl, max F' x2, E', ?_, ?_, H3.out.setCell (Nat.le_refl _) _⟩
          · rw [hfold.out]; unfold mbStep; rw [if_neg (by simp), if_pos hx]
        all_goals
          first
            | (rw [show max F' x2 = x2 by omega]; exact H2.out.set 0 _)
            | (rw [show max F' x2 = F' by omega]; exact H2.out.set 0 _)
      · gi_wp2_with fail
        refine ⟨(KeepsOthers.setCell _ _ _).from _, ⟨(Below.refl q3 W).setCell (Nat.le_refl _) _, Below.heap_setCell _ _ _ _ (by simp; omega)⟩, F', x1, ?_, H2.out.set 1 _, H3.out.setCell (Nat.le_refl _) _⟩
        rw [hfold.out]; unfold mbStep; rw [if_neg (by simp), if_neg (by simp only; omega)]
    case done =>
      rintro D xs W hD rfl ⟨F', E', h1, h2, h3⟩ hKd
      have hE : (false, (F', E')) = mb a0 sn bt := by
        rw [mb_fold, ← upto_rev bt, ← HBN.out]; exact h1.symm
      rw [← HR.out] at hE
      injection hE with hf hE
      injection hE with hF hE
      subst hF; subst hE; subst hf
      have hr := (h3.block q2 hq2q).trans HR0.out
      have hq2l : q2 < W.heap.size := lt_of_block hr
      rename_i Q0 hgo
      refine hgo _ _ ?_
      have hQ : ∀ a w', bodyPostM Fence.wide 8 Try.prog Try.f69 (fun e w' => e = .returned (.agg #[.int .i64 F', .int .i64 E']) ∧ Below w.heap.size w w') .ret a w' → Q0 .ret a w' := fun _ _ h => h
      have g1 := h2.cell 0 (.int .i64 F') rfl
      have g2 := h2.cell 1 (.int .i64 E') rfl
      have l3 := h2.lt
      have s0 := Bx.soft (show Bx 44 W q2 #[.int .i64 0, .int .i64 0] from hr) 0
      have s1 := Bx.soft (show Bx 44 W q2 #[.int .i64 0, .int .i64 0] from hr) 1
      have r0 := Bx.cell (show Bx 44 W q2 #[.int .i64 0, .int .i64 0] from hr) 0 (.int .i64 0) rfl
      have r1 := Bx.cell (show Bx 44 W q2 #[.int .i64 0, .int .i64 0] from hr) 1 (.int .i64 0) rfl
      have HH2 := Lib.hid h2
      have HH3 := Lib.hid h3
      have HRR : Hid (Bx 44 W q2 #[.int .i64 0, .int .i64 0]) := Lib.hid hr
      have HKD := Lib.hid hKd
      clear hgo h1 h2 h3 hr hA hb0 hbs0 hKd
      dsimp only
      clear_value Q0
      have HQ0 := Lib.hid hQ
      clear hQ
      go_wp2_with fail
      refine HQ0.out _ _ ?_
      obtain ⟨W2, hW2⟩ : ∃ W2, W2 = (W.setCell ⟨q2, 0, none⟩ (.int .i64 F')).setCell ⟨q2, 1, none⟩ (.int .i64 E') := ⟨_, rfl⟩
      rw [← hW2]
      have hX2 : Bx 44 W2 q2 #[.int .i64 F', .int .i64 E'] := by rw [hW2]; exact (HRR.out.set 0 _).set 1 _
      have hD2 : W2.heap[D]? = some (.deferred (some [])) := by
        rw [hW2, Below.heap_setCell _ _ _ _ (by simp; omega), Below.heap_setCell _ _ _ _ (by simp; omega)]
        exact HKD.out
      have hbw2 : Below w.heap.size w W2 := by
        rw [hW2]
        have hq := HQ2.out
        exact ((HBW.out.trans (HH3.out.mono (by omega))).setCell (by simp only; omega) _).setCell (by simp only; omega) _
      have hz2 := hbw2.size
      have hbD : Below w.heap.size W2 (W2.putObj D (.deferred none)) := belowK_b (w := w) (Nat.le_refl _) W2 D _ _ (by omega) hD2 rfl rfl
      have hX3 : Bx 44 (W2.putObj D (.deferred none)) q2 #[.int .i64 F', .int .i64 E'] := ((grownBy_putObj' W2 D (.deferred none)).block q2 hX2.lt (fun e => by cases e; omega)).trans hX2
      have z0 := hX3.cell 0 (.int .i64 F') rfl
      have z1 := hX3.cell 1 (.int .i64 E') rfl
      refine leavesM (v := .agg #[.int .i64 F', .int .i64 E']) hD2 (by simp [results, Try.results69, go_sem, z0, z1]) ⟨rfl, hbw2.trans hbD⟩
    case stop =>
      rintro D c pre W hD ⟨k, hk, rfl⟩ ⟨rfl, F', E', h1, h2, h3⟩ hKd
      have hE : (true, (F', E')) = mb a0 sn bt := by
        rw [← mb_stop a0 sn bt k (by rw [← HBN.out]; exact hk) (by rw [h1])]; exact h1.symm
      rw [← HR.out] at hE
      injection hE with hf hE
      injection hE with hF hE
      subst hF; subst hE; subst hf
      have hr := (h3.block q2 hq2q).trans HR0.out
      have hq2l : q2 < W.heap.size := lt_of_block hr
      refine wpIn_exit ?_
      rename_i Q0 hgo
      refine hgo _ _ ?_
      have hQ : ∀ a w', bodyPostM Fence.wide 8 Try.prog Try.f69 (fun e w' => e = .returned (.agg #[.int .i64 F', .int .i64 E']) ∧ Below w.heap.size w w') .ret a w' → Q0 .ret a w' := fun _ _ h => h
      have g1 := h2.cell 0 (.int .i64 F') rfl
      have g2 := h2.cell 1 (.int .i64 E') rfl
      have l3 := h2.lt
      have s0 := Bx.soft (show Bx 44 W q2 #[.int .i64 0, .int .i64 0] from hr) 0
      have s1 := Bx.soft (show Bx 44 W q2 #[.int .i64 0, .int .i64 0] from hr) 1
      have r0 := Bx.cell (show Bx 44 W q2 #[.int .i64 0, .int .i64 0] from hr) 0 (.int .i64 0) rfl
      have r1 := Bx.cell (show Bx 44 W q2 #[.int .i64 0, .int .i64 0] from hr) 1 (.int .i64 0) rfl
      have HH2 := Lib.hid h2
      have HH3 := Lib.hid h3
      have HRR : Hid (Bx 44 W q2 #[.int .i64 0, .int .i64 0]) := Lib.hid hr
      have HKD := Lib.hid hKd
      clear hgo h1 h2 h3 hr hA hb0 hbs0 hKd
      dsimp only
      clear_value Q0
      have HQ0 := Lib.hid hQ
      clear hQ
      go_wp2_with fail
      refine HQ0.out _ _ ?_
      obtain ⟨W2, hW2⟩ : ∃ W2, W2 = (W.setCell ⟨q2, 0, none⟩ (.int .i64 F')).setCell ⟨q2, 1, none⟩ (.int .i64 E') := ⟨_, rfl⟩
      rw [← hW2]
      have hX2 : Bx 44 W2 q2 #[.int .i64 F', .int .i64 E'] := by rw [hW2]; exact (HRR.out.set 0 _).set 1 _
      have hD2 : W2.heap[D]? = some (.deferred (some [])) := by
        rw [hW2, Below.heap_setCell _ _ _ _ (by simp; omega), Below.heap_setCell _ _ _ _ (by simp; omega)]
        exact HKD.out
      have hbw2 : Below w.heap.size w W2 := by
        rw [hW2]
        have hq := HQ2.out
        exact ((HBW.out.trans (HH3.out.mono (by omega))).setCell (by simp only; omega) _).setCell (by simp only; omega) _
      have hz2 := hbw2.size
      have hbD : Below w.heap.size W2 (W2.putObj D (.deferred none)) := belowK_b (w := w) (Nat.le_refl _) W2 D _ _ (by omega) hD2 rfl rfl
      have hX3 : Bx 44 (W2.putObj D (.deferred none)) q2 #[.int .i64 F', .int .i64 E'] := ((grownBy_putObj' W2 D (.deferred none)).block q2 hX2.lt (fun e => by cases e; omega)).trans hX2
      have z0 := hX3.cell 0 (.int .i64 F') rfl
      have z1 := hX3.cell 1 (.int .i64 E') rfl
      refine leavesM (v := .agg #[.int .i64 F', .int .i64 E']) hD2 (by simp [results, Try.results69, go_sem, z0, z1]) ⟨rfl, hbw2.trans hbD⟩

end Go.Proofs.Ytehckiihipnimaa
