/-
  slices.Insert at index 0, one range: what it leaves.
-/
import Derived.Test.YtehckiihipnimaaKit
import Derived.Test.YtehckiihipnimaaRg
import Derived.Test.YtehckiihipnimaaMem2
import Derived.IntWalk
import Derived.Lib.Overlaps
import Derived.Lib.AppendZeros
import Derived.Lib.AppendZerosOnto
import Derived.Laws.Externs
import Derived.Deep.RegionLaw
namespace Go.Proofs.Ytehckiihipnimaa
open Go.RowKit
set_option linter.unusedVariables false
set_option linter.unusedSimpArgs false

/-- what Insert answers -/
def RetI (W : World) (base : Nat) (v : Value) (l : List Rg) (n : Nat) (e : Ending) (w' : World) : Prop :=
  ∃ A c, e = .returned (.slice A n c) ∧ OwnR w' base A n c l ∧ Below base W w' ∧ Beside v (.slice A n c) W w'

theorem insert_none (base : Nat) (A : Option Addr) (c : Nat) (x1 x2 : Int) (vb : Nat) (w : World) (ho : OwnR w base A 0 c []) (hbase : base ≤ w.heap.size) (hv : Rs w (some ⟨vb, 0, none⟩) [(x1, x2)]) :
    Calls Try.prog 78 #[.slice A 0 c, .int .i64 0, .slice (some ⟨vb, 0, none⟩) 1 1] w (RetI w base (.slice A 0 c) [(x1, x2)] 1) := by
  have O := Lib.hid ho; have V := Lib.hid hv
  clear ho hv
  go_enter Try.func78, Try.ntmps78
  go_wp2_with (at_builtin; refine wpList_appR rfl w (.tmp 23) (.tmp 24) rfl base A 0 c [] rfl O.out (some ⟨vb, 0, none⟩) 1 1 [(x1, x2)] rfl V.out rfl 1 rfl (by omega) hbase ?_; intro A4 c4 w4 ho4 hb4 hs4; have O4 := Lib.hid ho4; have S4 := Lib.hid hs4; clear ho4 hs4)
  go_ret
  exact ⟨A4, c4, rfl, O4.out, hb4, S4.out⟩

theorem rgSize2 : (Try.prog.info? 44).map (·.size) = some 2 := by kernel_rfl

theorem cells_at {w : World} {g : Nat} {cur : List Value} {t : TypeId} (h : w.heap[g]? = some (.cells cur.toArray t (0, 0))) (o j : Nat) : w.cell? ((⟨g, o, none⟩ : Addr).add j) = cur[o + j]? := by
  rw [addr_add]
  simp [World.cell?, h]

set_option maxRecDepth 100000 in
set_option maxHeartbeats 2000000 in
theorem insert_room (base g : Nat) (n c : Nat) (x1 x2 : Int) (l : List Rg) (vb : Nat) (w : World) (ho : OwnR w base (some ⟨g, 0, none⟩) n c l) (hbase : base ≤ w.heap.size) (hv : w.heap[vb]? = some (.cells #[.int .i64 x1, .int .i64 x2] 44 (0, 0))) (hvg : vb ≠ g)
    (h0 : 0 < n) (hroom : n + 1 ≤ c) :
    Calls Try.prog 78 #[.slice (some ⟨g, 0, none⟩) n c, .int .i64 0, .slice (some ⟨vb, 0, none⟩) 1 1] w (RetI w base (.slice (some ⟨g, 0, none⟩) n c) ((x1, x2) :: l) (n + 1)) := by
  obtain ⟨hll, hrl, h⟩ := ho
  rcases h with ⟨hA, _⟩ | ⟨g', cap, cur, hA, hg, hh, hnc, hcm, hcs, htk⟩
  · cases hA
  injection hA with hA _ hcc
  injection hA with hA
  injection hA with hA _
  subst hA; subst hcc
  obtain ⟨cl, rfl⟩ : ∃ cl : List Value, cur = cl.toArray := ⟨cur.toList, by simp⟩
  simp only [List.size_toArray] at hcs
  simp only [List.toList_toArray] at htk
  have hsl : (rcells l).length = n * 2 := by rw [rcells_len, hll]
  obtain ⟨cl2, hcl2⟩ : ∃ cl2, cl2 = cl.take 2 ++ rcells l ++ cl.drop (2 + (rcells l).length) := ⟨_, rfl⟩
  have hl2 : cl2.length = c * 2 := by rw [hcl2]; simp [hsl]; omega
  have hov : ∀ lb cb, (callFunc 91 #[.slice (some ⟨vb, 0, none⟩) 1 1, .slice (some ⟨g, 2, none⟩) lb cb]).run Try.prog w = .ok (.value (.bool false)) w := fun lb cb => by
    rw [run_callFunc_extern Try.func91 (by kernel_rfl) (by kernel_rfl) (by kernel_rfl) (e := Extern.SlicesOverlaps.overlaps #[37, 37] #[4]) (by kernel_rfl),
      Lib.run_overlaps_apart w 37 4 44 Try.underlying37 2 (fun w => by obtain ⟨i0, hi, _, hz1, _⟩ := info_parts rgInfo; simp [sizeOf, typeInfo, hi, hz1]) ⟨vb, 0, none⟩ ⟨g, 2, none⟩ 1 1 lb cb hvg 44 44 2 (c * 2) (by simp [World.shape?, hv]) (by simp [World.shape?, hh, hcs]) (by omega) (by simp [World.frozen?, hv]) (by simp [World.frozen?, hv])]
    rfl
  have hh' : w.drew.heap[g]? = some (.cells cl.toArray 44 (0, 0)) := hh
  have hcp1 : ∀ ty dc sc, (Builtin.copy_ #[37, 37] ty #[.slice (some ⟨g, 2, none⟩) n dc, .slice (some ⟨g, 0, none⟩) (n + 1) sc]).run Try.prog w.drew = .ok (goInt n) (w.drew.setRow g cl2.toArray) := fun ty dc sc => by
    rw [run_copy_rowsAt w.drew _ _ ty 44 g 2 n dc ⟨g, 0, none⟩ (n + 1) sc 2 n cl.toArray 44 (rcells l) Try.underlying37 rgSize2 hh' (by simp only [Nat.min_def]; split <;> omega) hsl
      (fun j v hj => by
        rw [cells_at hh', Nat.zero_add]
        rw [← htk, List.getElem?_take] at hj
        split at hj
        · exact hj
        · cases hj) (by rw [hsl]; simp; omega) (rcells_one l), hcl2]
  obtain ⟨cl3, hcl3⟩ : ∃ cl3, cl3 = [Value.int .i64 x1, Value.int .i64 x2] ++ cl2.drop 2 := ⟨_, rfl⟩
  have hg2 : (w.drew.setRow g cl2.toArray).heap[g]? = some (.cells cl2.toArray 44 (0, 0)) := setRow_heap _ _ _ _ _ _ hh'
  have hv2 : (w.drew.setRow g cl2.toArray).heap[vb]? = some (.cells [Value.int .i64 x1, Value.int .i64 x2].toArray 44 (0, 0)) := (setRow_other _ _ _ _ hvg).trans hv
  have hcp2 : ∀ ty dc, (Builtin.copy_ #[37, 37] ty #[.slice (some ⟨g, 0, none⟩) (n + 1) dc, .slice (some ⟨vb, 0, none⟩) 1 1]).run Try.prog (w.drew.setRow g cl2.toArray) = .ok (goInt 1) ((w.drew.setRow g cl2.toArray).setRow g cl3.toArray) := fun ty dc => by
    rw [run_copy_rowsAt (w.drew.setRow g cl2.toArray) _ _ ty 44 g 0 (n + 1) dc ⟨vb, 0, none⟩ 1 1 2 1 cl2.toArray 44 [Value.int .i64 x1, Value.int .i64 x2] Try.underlying37 rgSize2 hg2 (by simp only [Nat.min_def]; split <;> omega) rfl
      (fun j v hj => by rw [cells_at hv2, Nat.zero_add]; exact hj) (by simp; omega) (by intro v hv; simp at hv; rcases hv with rfl | rfl <;> rfl), hcl3]
    simp
  have hown : OwnR ((w.drew.setRow g cl2.toArray).setRow g cl3.toArray) base (some ⟨g, 0, none⟩) (n + 1) c ((x1, x2) :: l) := by
    refine ⟨by simp [hll], by rw [rcells_len]; simp [hll], .inr ⟨g, c, cl3.toArray, rfl, hg, setRow_heap _ _ _ _ _ _ hg2, hroom, hcm, ?_, ?_⟩⟩
    · rw [hcl3]; simp [hl2]; omega
    · have e : cl3.take ((n + 1) * 2) = rcells ((x1, x2) :: l) := by
        have h2 : (cl.take 2).length = 2 := by rw [List.length_take]; omega
        rw [hcl3, hcl2, List.append_assoc, List.drop_append_of_le_length (by omega), List.drop_of_length_le (by omega), List.nil_append]
        rw [show (n + 1) * 2 = (rcells ((x1, x2) :: l)).length by rw [rcells_len]; simp [hll]]
        show ([Value.int .i64 x1, Value.int .i64 x2] ++ (rcells l ++ _)).take _ = _
        rw [← List.append_assoc]
        exact List.take_left
      simpa using e
  have hbel : Below base w ((w.drew.setRow g cl2.toArray).setRow g cl3.toArray) := ⟨rfl, rfl, rfl, by simp, fun k hk => by rw [setRow_other _ _ _ _ (by omega), setRow_other _ _ _ _ (by omega)]; rfl⟩
  have hbes : Beside (.slice (some ⟨g, 0, none⟩) n c) (.slice (some ⟨g, 0, none⟩) (n + 1) c) w ((w.drew.setRow g cl2.toArray).setRow g cl3.toArray) := ⟨fun k hk hj => by rw [setRow_other _ _ _ _ (hj g rfl), setRow_other _ _ _ _ (hj g rfl)]; rfl, fun k hk => .inl hk⟩
  have HO := Lib.hid hown; have HBL := Lib.hid hbel; have HBS := Lib.hid hbes
  obtain ⟨W2, hW2⟩ : ∃ W2, W2 = (w.drew.setRow g cl2.toArray).setRow g cl3.toArray := ⟨_, rfl⟩
  rw [← hW2] at hcp2 HO HBL HBS
  have HC1 := Lib.hid hcp1; have HC2 := Lib.hid hcp2
  have z1 : ¬ (0 : Int) = (n : Int) := by omega
  have z2 : ((0 : Int) == (n : Int)) = false := by rw [beq_eq_false_iff_ne]; omega
  have z3 : ¬ (c : Int) < (n : Int) + 1 := by omega
  have z4 : IntKind.i64.wrap ((n : Int) + 1) = (n : Int) + 1 := IntWalk.i64_in _ (by simp only [maxLen] at hcm; omega)
  have z5 : ((n : Int) + 1).toNat = n + 1 := by omega
  have z6 : (0 : Int) ≤ (n : Int) + 1 := by omega
  have z7 : ¬ c = 1 := by omega
  have z8 : ¬ c = 0 := by omega
  have z9 : (n : Int) + 1 ≤ (c : Int) := by omega
  have z10 : (1 : Int) ≤ (n : Int) + 1 := by omega
  have z11 : IntKind.i64.wrap 1 = 1 := by rfl
  clear hll hrl hh hnc hcs htk hsl hcl2 hl2 hh' hcp1 hcl3 hg2 hv2 hcp2 hown hbel hbes hW2 hv
  go_enter Try.func78, Try.ntmps78
  go_wp2_with (simp only [hov])
  clear hov
  go_region_law (refine step_copyN rfl (.tmp 73) (.tmp 76) 37 37 rfl (.slice (some ⟨g, 2, none⟩) n (c - 1)) (.slice (some ⟨g, 0, none⟩) (n + 1) c) (by simp [Act.eval, Act.put]) (by simp [Act.eval, Act.put]) (HC1.out _ _ _) ?_)
  all_goals
    generalize w.drew.setRow g cl2.toArray = W1 at HC2 ⊢
    go_wp2_with (first | (at_builtin; refine wpList_copyN _ rfl (.tmp 80) (.tmp 81) 37 37 rfl (.slice (some ⟨g, 0, none⟩) (n + 1) c) (.slice (some ⟨vb, 0, none⟩) 1 1) rfl rfl (HC2.out _ _) ?_) | (refine wpList_copyN _ rfl (.tmp 80) (.tmp 81) 37 37 rfl (.slice (some ⟨g, 0, none⟩) (n + 1) c) (.slice (some ⟨vb, 0, none⟩) 1 1) rfl rfl (HC2.out _ _) ?_))
    go_ret
    exact ⟨some ⟨g, 0, none⟩, c, rfl, HO.out, HBL.out, HBS.out⟩

theorem intT : Try.prog.underlying 3 = some (.int .i64) := Try.underlying3

set_option maxRecDepth 100000 in
set_option maxHeartbeats 2000000 in
theorem insert_grow (base g : Nat) (n : Nat) (x1 x2 : Int) (l : List Rg) (vb : Nat) (w : World) (ho : OwnR w base (some ⟨g, 0, none⟩) n n l) (hbase : base ≤ w.heap.size) (hv : w.heap[vb]? = some (.cells #[.int .i64 x1, .int .i64 x2] 44 (0, 0)))
    (h0 : 0 < n) (hn : n ≤ 1000000) :
    Calls Try.prog 78 #[.slice (some ⟨g, 0, none⟩) n n, .int .i64 0, .slice (some ⟨vb, 0, none⟩) 1 1] w (RetI w base (.slice (some ⟨g, 0, none⟩) n n) ((x1, x2) :: l) (n + 1)) := by
  have hll := ho.1
  have hRS := ho.rs
  have hgl : g < w.heap.size := by obtain ⟨g', e, _, h⟩ := (show ∃ g', (some ⟨g, 0, none⟩ : Option Addr) = some ⟨g', 0, none⟩ ∧ True ∧ g < w.heap.size from ⟨g, rfl, trivial, (ho.lt g rfl).2⟩); exact h
  have hvl : vb < w.heap.size := lt_of_block hv
  have hsl : (rcells l).length = n * 2 := by rw [rcells_len, hll]
  obtain ⟨i0, hi0, hz0, hzs, hzb⟩ := info_parts rgInfo
  have hold : (Builtin.firstCells i0.size 0 (.slice (some ⟨g, 0, none⟩) 0 n)).run Try.prog w.drew = .ok ([] : List Value).toArray w.drew := by
    simp [Builtin.firstCells]
    exact run_loadCells_list (P := Try.prog) w.drew ⟨g, 0, none⟩ [] (by simp)
  have hrz := fun ty => Lib.run_append_grow_zeros (P := Try.prog) w 37 3 ty 44 i0 _ .i64 .i64 Try.underlying37 intT hi0 hz0 (some ⟨g, 0, none⟩) 0 n [] hold (n + 1) (by omega) (by omega) (by omega) (by omega) (by rw [hzb]; omega) (by rw [hzb]; exact growslice_fits (by omega) (by omega))
  simp only [Nat.zero_add] at hrz
  obtain ⟨G, hG⟩ : ∃ G, G = grownCap w (n + 1) n 44 := ⟨_, rfl⟩
  rw [← hG] at hrz
  have hGn : n + 1 ≤ G := by rw [hG]; exact grownCap_ge w _ _ _
  have hGm : G ≤ maxLen := by rw [hG]; exact grownCap_le_maxLen w _ _ _ (by simp only [maxLen]; omega)
  obtain ⟨ROW, hROW⟩ : ∃ ROW : Array Value, ROW = ([] : List Value).toArray ++ Builtin.zeroCells (Value.agg #[.int .i64 0, .int .i64 0]).cells (n + 1) ++ Builtin.zeroCells (Value.agg #[.int .i64 0, .int .i64 0]).cells (G - (n + 1)) := ⟨_, rfl⟩
  rw [← hROW] at hrz
  have hRs : ROW.size = G * 2 := by rw [hROW]; simp [Builtin.zeroCells, Value.cells]; omega
  obtain ⟨RL, rfl⟩ : ∃ RL : List Value, ROW = RL.toArray := ⟨ROW.toList, by simp⟩
  simp only [List.size_toArray] at hRs
  obtain ⟨W1, hW1⟩ : ∃ W1, W1 = w.drew.alloc (.cells RL.toArray 44) := ⟨_, rfl⟩
  rw [← hW1] at hrz
  obtain ⟨N, hN⟩ : ∃ N, N = w.heap.size := ⟨_, rfl⟩
  have hb1 : Below w.heap.size w W1 := by rw [hW1]; exact (Below.refl w.heap.size w).drew.alloc (Nat.le_refl _) _
  have hs1 : W1.heap.size = N + 1 := by rw [hW1, hN]; simp
  have hN1 : W1.heap[N]? = some (.cells RL.toArray 44 (0, 0)) := by rw [hW1, hN]; exact heap_alloc_new w.drew _
  have hv1 : W1.heap[vb]? = some (.cells [Value.int .i64 x1, Value.int .i64 x2].toArray 44 (0, 0)) := (hb1.block vb hvl).trans hv
  have hcA : ∀ j v, (rcells l)[j]? = some v → W1.cell? ⟨g, j, none⟩ = some v := by
    intro j v hj
    rcases hRS.below hb1 with h | ⟨b, o, e, _, hc⟩
    · rw [h] at hj; simp at hj
    · injection e with e; injection e with e1 e2; subst e1; subst e2
      have := hc j v hj
      rwa [Nat.zero_add] at this
  rw [← hN] at hrz
  obtain ⟨R2, hR2⟩ : ∃ R2 : List Value, R2 = [Value.int .i64 x1, Value.int .i64 x2] ++ RL.drop 2 := ⟨_, rfl⟩
  have hcpA : ∀ ty, (Builtin.copy_ #[37, 37] ty #[.slice (some ⟨N, 0, none⟩) (n + 1) G, .slice (some ⟨vb, 0, none⟩) 1 1]).run Try.prog W1 = .ok (goInt 1) (W1.setRow N R2.toArray) := fun ty => by
    rw [run_copy_rowsAt W1 _ _ ty 44 N 0 (n + 1) G ⟨vb, 0, none⟩ 1 1 2 1 RL.toArray 44 [Value.int .i64 x1, Value.int .i64 x2] Try.underlying37 rgSize2 hN1 (by simp only [Nat.min_def]; split <;> omega) rfl
      (fun j v hj => by rw [cells_at hv1, Nat.zero_add]; exact hj) (by simp; omega) (by intro v hv; simp at hv; rcases hv with rfl | rfl <;> rfl), hR2]
    simp
  have hN2 : (W1.setRow N R2.toArray).heap[N]? = some (.cells R2.toArray 44 (0, 0)) := setRow_heap _ _ _ _ _ _ hN1
  have hR2l : R2.length = G * 2 := by rw [hR2]; simp; omega
  obtain ⟨R3, hR3⟩ : ∃ R3 : List Value, R3 = R2.take 2 ++ rcells l ++ R2.drop (2 + (rcells l).length) := ⟨_, rfl⟩
  have hcpB : ∀ ty dc sc, (Builtin.copy_ #[37, 37] ty #[.slice (some ⟨N, 2, none⟩) n dc, .slice (some ⟨g, 0, none⟩) n sc]).run Try.prog (W1.setRow N R2.toArray).drew = .ok (goInt n) ((W1.setRow N R2.toArray).drew.setRow N R3.toArray) := fun ty dc sc => by
    rw [run_copy_rowsAt (W1.setRow N R2.toArray).drew _ _ ty 44 N 2 n dc ⟨g, 0, none⟩ n sc 2 n R2.toArray 44 (rcells l) Try.underlying37 rgSize2 hN2 (by simp) hsl
      (fun j v hj => by
        rw [addr_add, Nat.zero_add]
        exact (cell_setRow_other W1 N R2.toArray ⟨g, j, none⟩ (by simp only; omega)).trans (hcA j v hj)) (by rw [hsl]; simp; omega) (rcells_one l), hR3]
  obtain ⟨W3, hW3⟩ : ∃ W3, W3 = (W1.setRow N R2.toArray).drew.setRow N R3.toArray := ⟨_, rfl⟩
  have hown : OwnR W3 base (some ⟨N, 0, none⟩) (n + 1) G ((x1, x2) :: l) := by
    refine ⟨by simp [hll], by rw [rcells_len]; simp [hll], .inr ⟨N, G, R3.toArray, rfl, by omega, by rw [hW3]; exact setRow_heap _ _ _ _ _ _ hN2, hGn, hGm, ?_, ?_⟩⟩
    · rw [hR3]; simp [hR2l, hsl]; omega
    · have e : R3.take ((n + 1) * 2) = rcells ((x1, x2) :: l) := by
        have h2 : R2.take 2 = [Value.int .i64 x1, Value.int .i64 x2] := by rw [hR2]; rfl
        rw [hR3, h2, show (n + 1) * 2 = (rcells ((x1, x2) :: l)).length by rw [rcells_len]; simp [hll]]
        exact List.take_left
      simpa using e
  have hkeep : ∀ k, k < w.heap.size → W3.heap[k]? = w.heap[k]? := fun k hk => by
    rw [hW3, setRow_other _ _ _ _ (by omega)]
    show (W1.setRow N R2.toArray).heap[k]? = _
    rw [setRow_other _ _ _ _ (by omega)]
    exact hb1.block k hk
  have hbel : Below base w W3 := by rw [hW3, hW1]; exact ⟨rfl, rfl, rfl, by simp, fun k hk => by have := hkeep k (by omega); rw [hW3, hW1] at this; exact this⟩
  have hbes : Beside (.slice (some ⟨g, 0, none⟩) n n) (.slice (some ⟨N, 0, none⟩) (n + 1) G) w W3 := ⟨fun k hk _ => hkeep k hk, fun k hk => .inr (by injection hk with hk; simp only at hk; omega)⟩
  have HO := Lib.hid hown; have HBL := Lib.hid hbel; have HBS := Lib.hid hbes
  have HRZ := Lib.hid hrz; have HCA := Lib.hid hcpA; have HCB := Lib.hid hcpB; have HW3 := Lib.hid hW3
  have z1 : ¬ (0 : Int) = (n : Int) := by omega
  have z2 : ((0 : Int) == (n : Int)) = false := by rw [beq_eq_false_iff_ne]; omega
  have z3 : (n : Int) < (n : Int) + 1 := by omega
  have z4 : IntKind.i64.wrap ((n : Int) + 1) = (n : Int) + 1 := IntWalk.i64_in _ (by omega)
  have z5 : ((n : Int) + 1).toNat = n + 1 := by omega
  have z6 : (0 : Int) ≤ (n : Int) + 1 := by omega
  have z7 : ¬ G = 1 := by omega
  have z8 : ¬ G = 0 := by omega
  have z9 : ¬ n = 0 := by omega
  have z10 : (1 : Int) ≤ (n : Int) + 1 := by omega
  have z11 : IntKind.i64.wrap 1 = 1 := by rfl
  clear hll hRS hgl hvl hsl hi0 hz0 hzs hzb hold hrz hG hGn hGm hROW hRs hW1 hN hb1 hs1 hN1 hv1 hcA hR2 hcpA hN2 hR2l hR3 hcpB hW3 hown hkeep hbel hbes hv
  go_enter Try.func78, Try.ntmps78
  go_wp2_with (first
    | (at_builtin; refine Lib.wpList_append_run _ rfl (.tmp 34) (.tmp 39) 37 3 rfl (.slice (some ⟨g, 0, none⟩) 0 n) (.int .i64 ((n : Int) + 1)) rfl rfl _ _ (HRZ.out _) ?_)
    | (refine wpList_copyN _ rfl (.tmp 43) (.tmp 44) 37 37 rfl (.slice (some ⟨N, 0, none⟩) (n + 1) G) (.slice (some ⟨vb, 0, none⟩) 1 1) rfl rfl (HCA.out _) ?_))
  go_region_law (refine step_copyN rfl (.tmp 50) (.tmp 53) 37 37 rfl (.slice (some ⟨N, 2, none⟩) n (G - 1)) (.slice (some ⟨g, 0, none⟩) n n) (by simp [Act.eval, Act.put]) (by simp [Act.eval, Act.put]) (HCB.out _ _ _) ?_)
  all_goals
    rw [← HW3.out]
    go_wp2_with fail
    go_ret
    exact ⟨some ⟨N, 0, none⟩, G, rfl, HO.out, HBL.out, HBS.out⟩

/-- In all cases: a range is put ahead of a row of the call's own. -/
theorem insert_any (base : Nat) (A : Option Addr) (n c : Nat) (x1 x2 : Int) (l : List Rg) (vb : Nat) (w : World) (ho : OwnR w base A n c l) (hbase : base ≤ w.heap.size) (hv : w.heap[vb]? = some (.cells #[.int .i64 x1, .int .i64 x2] 44 (0, 0)))
    (hvg : ∀ k, (Value.slice A n c).ownBlock = some k → vb ≠ k) (hn : n ≤ 1000000) :
    Calls Try.prog 78 #[.slice A n c, .int .i64 0, .slice (some ⟨vb, 0, none⟩) 1 1] w (RetI w base (.slice A n c) ((x1, x2) :: l) (n + 1)) := by
  rcases Nat.eq_zero_or_pos n with h0 | h0
  · subst h0
    have hl : l = [] := List.eq_nil_of_length_eq_zero ho.1
    subst hl
    refine insert_none base A c x1 x2 vb w ho hbase (.inr ⟨vb, 0, rfl, lt_of_block hv, fun j u hu => ?_⟩)
    have hv' : w.heap[vb]? = some (.cells [Value.int .i64 x1, Value.int .i64 x2].toArray 44 (0, 0)) := hv
    have := cells_at hv' 0 j
    rw [addr_add] at this
    rw [this, Nat.zero_add]; exact hu
  · have hs := ho.2.2
    have hcap : n ≤ c ∧ ∃ g, A = some ⟨g, 0, none⟩ := by
      rcases hs with ⟨_, h⟩ | ⟨g, cap, cur, hA, hg, hh, hnc, _⟩
      · omega
      · injection hA with hA _ hcc; exact ⟨by omega, g, hA⟩
    obtain ⟨hnc, g, rfl⟩ := hcap
    by_cases hr : n + 1 ≤ c
    · exact insert_room base g n c x1 x2 l vb w ho hbase hv (hvg g rfl) h0 hr
    · obtain rfl : n = c := by omega
      exact insert_grow base g n x1 x2 l vb w ho hbase hv h0 hn

end Go.Proofs.Ytehckiihipnimaa
