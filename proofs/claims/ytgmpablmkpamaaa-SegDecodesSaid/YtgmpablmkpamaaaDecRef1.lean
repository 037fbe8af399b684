/-
  The document's SegDecoded, first part: its inner function; and where its answer is an error ahead of the Sacks.
-/
import Derived.Test.YtgmpablmkpamaaaSegRef3
import Derived.Test.YtgmpablmkpamaaaSegDecode
import Derived.Deep.RegionHeld3
namespace Go.Proofs.Ytgmpablmkpamaaa
open Go.RowKit Go.Shelf
set_option linter.unusedVariables false
set_option linter.unusedSimpArgs false

theorem at_any (B b o n c i : Nat) (zs : List Int) (w : World) (hbx : w.cell? ⟨B, 0, none⟩ = some (.slice (some ⟨b, o, none⟩) n c)) (hb : Bs w (some ⟨b, o, none⟩) zs) (hn : zs.length = n) (hi : i + 2 ≤ n) (h47 : n ≤ 140737488355328) :
    Calls Try.prog 32 #[.int .i64 (i : Int), .pointer (some ⟨B, 0, none⟩)] w fun e w' => e = .returned (.int .i64 (wd zs i)) ∧ ∃ k, w' = w.drewN k := by
  obtain ⟨b1, o1, x, e, hc1, x0, x1, hx⟩ := hb.at i (by omega)
  obtain ⟨b2, o2, y, e2, hc2, y0, y1, hy⟩ := hb.at (i + 1) (by omega)
  injection e with e; injection e with e3 e4; subst e3; subst e4
  injection e2 with e2; injection e2 with e5 e6; subst e5; subst e6
  rw [wd, ← hx, ← hy]
  have z1 : IntKind.i64.wrap x = x := wraps_i64 _ (by omega) (by omega)
  have z2 : IntKind.i64.wrap y = y := wraps_i64 _ (by omega) (by omega)
  have z3 : IntKind.i64.wrap (256 * x) = 256 * x := wraps_i64 _ (by omega) (by omega)
  have z4 : IntKind.i64.wrap (256 * x + y) = 256 * x + y := wraps_i64 _ (by omega) (by omega)
  have z5 : IntKind.i64.wrap ((i : Int) + 1) = (i : Int) + 1 := wraps_i64 _ (by omega) (by omega)
  have q1 : (i : Int) < (n : Int) := by omega
  have q2 : (i : Int) + 1 < (n : Int) := by omega
  have q3 : (0 : Int) ≤ (i : Int) + 1 := by omega
  have q4 : ((i : Int) + 1).toNat = i + 1 := by omega
  have q5 : (0 : Int) ≤ (i : Int) := by omega
  clear hx hy hn hb hi
  go_enter Try.func32, Try.ntmps32
  go_wp2_with fail
  go_quiet (fail)
  go_wp2
  go_ret
  exact ⟨rfl, _, rfl⟩

theorem refdec_short (A : Option Addr) (n c : Nat) (zs : List Int) (w : World) (hn : zs.length = n) (h10 : n < 10) :
    Calls Try.prog 13 #[.slice A n c] w (RetDec w zs) := by
  have HK : Hid (codeD zs = 5) := Lib.hid (codeD_short (by omega))
  clear hn
  go_enter Try.func13, Try.ntmps13
  go_wp2
  refine end_ret (v := .tuple #[.agg #[.int .i64 0, .int .i64 0, .int .i64 0, .bool false, .bool false, .bool false, .bool false, .slice none 0 0, .slice none 0 0], .int .i64 5]) (by simp [results, Try.results13, go_sem]) ?_
  exact ret_bad (ba2 _ _ _) HK.out (by decide)

set_option maxRecDepth 100000 in
set_option maxHeartbeats 8000000 in
theorem refdec_sum (b o n c : Nat) (zs : List Int) (w : World) (hb : Bs w (some ⟨b, o, none⟩) zs) (hn : zs.length = n) (h10 : 10 ≤ n) (hc : n ≤ c) (h47 : n ≤ 140737488355328) (hs : wd zs 8 ≠ 65535 - fo (tot 0 (bare zs))) :
    Calls Try.prog 13 #[.slice (some ⟨b, o, none⟩) n c] w (RetDec w zs) := by
  have HB := Lib.hid hb; have HN := Lib.hid hn
  obtain ⟨v8, hv8⟩ : ∃ v, v = zs.getD 8 0 := ⟨_, rfl⟩
  obtain ⟨v9, hv9⟩ : ∃ v, v = zs.getD 9 0 := ⟨_, rfl⟩
  have b8 := getD_bd zs hb.1 8; have b9 := getD_bd zs hb.1 9
  rw [← hv8] at b8; rw [← hv9] at b9
  obtain ⟨fb, hfb⟩ : ∃ v, v = fo (tot 0 (bare zs)) := ⟨_, rfl⟩
  obtain ⟨b', o', x, he, hc8, _, _, hx8⟩ := hb.at 8 (by omega)
  injection he with he; injection he with e1 e2; subst e1; subst e2
  obtain ⟨b', o', y, he, hc9, _, _, hy9⟩ := hb.at 9 (by omega)
  injection he with he; injection he with e1 e2; subst e1; subst e2
  rw [hx8, ← hv8] at hc8
  rw [hy9, ← hv9] at hc9
  have hbl : b < w.heap.size := block_lt_of_cell hc8
  have hfbb : 0 ≤ fb ∧ fb ≤ 65535 := by
    rw [hfb]
    have hbb : ∀ z ∈ bare zs, 0 ≤ z ∧ z ≤ 255 := by
      unfold bare
      exact mem_set_bd _ (mem_set_bd zs hb.1 8 0 (by omega)) 9 0 (by omega)
    exact fo_bd _ (tot_bd0 _ hbb).1
  have HWD : Hid (256 * v8 + v9 = wd zs 8) := Lib.hid (by rw [hv8, hv9]; rfl)
  have HFB := Lib.hid hfb
  have zw1 : IntKind.i64.wrap v8 = v8 := wraps_i64 _ (by omega) (by omega)
  have zw2 : IntKind.i64.wrap v9 = v9 := wraps_i64 _ (by omega) (by omega)
  have zw3 : IntKind.i64.wrap (256 * v8) = 256 * v8 := wraps_i64 _ (by omega) (by omega)
  have zw4 : IntKind.i64.wrap (256 * v8 + v9) = 256 * v8 + v9 := wraps_i64 _ (by omega) (by omega)
  have zw5 : IntKind.i64.wrap (65535 - fb) = 65535 - fb := wraps_i64 _ (by omega) (by omega)
  have n8 : (8 : Int) < (n : Int) := by omega
  have n9 : (9 : Int) < (n : Int) := by omega
  have HK : Hid (codeD zs = 6) := Lib.hid (codeD_sum (by rw [HN.out]; exact h10) hs)
  have zeq : (256 * v8 + v9 == 65535 - fb) = false := by rw [beq_eq_false_iff_ne, HWD.out, HFB.out]; exact hs
  clear hb hn hv8 hv9 hfb hx8 hy9 b8 b9 hfbb hs
  go_enter Try.func13, Try.ntmps13
  go_upto_region 3 with fail
  obtain ⟨W0, hW0⟩ : ∃ W0, W0 = (w.alloc (.cells #[.slice (some ⟨b, o, none⟩) n c] 23)).alloc (.cells #[.int .i64 0, .int .i64 0, .int .i64 0, .bool false, .bool false, .bool false, .bool false, .slice none 0 0, .slice none 0 0] 25) := ⟨_, rfl⟩
  have HB0 : Hid (Below w.heap.size w W0) := Lib.hid (by rw [hW0]; exact ba2 _ _ _)
  have HX0 : Hid (W0.heap[w.heap.size]? = some (.cells #[.slice (some ⟨b, o, none⟩) n c] 23 (0, 0))) := Lib.hid (by
    rw [hW0, Below.heap_alloc _ _ _ (by simp)]; exact World.alloc_heap_new w _)
  have HR0 : Hid (Box9 W0 (w.heap.size + 1) (.int .i64 0) (.int .i64 0) (.int .i64 0) (.bool false) (.bool false) (.bool false) (.bool false) (.slice none 0 0) (.slice none 0 0)) := Lib.hid (by
    rw [hW0]
    have := World.alloc_heap_new (w.alloc (.cells #[.slice (some ⟨b, o, none⟩) n c] 23)) (.cells #[.int .i64 0, .int .i64 0, .int .i64 0, .bool false, .bool false, .bool false, .bool false, .slice none 0 0, .slice none 0 0] 25)
    simp only [World.size_alloc] at this
    exact this)
  have hz0 : W0.heap.size = w.heap.size + 2 := by rw [hW0]; simp
  have hcb0 := cell_of_one HX0.out
  rw [← hW0]
  clear hW0
  go_upto_region 4 with (at_builtin; refine wpList_appB rfl _ (.const (.slice none 0 0)) (.tmp 15) rfl W0.heap.size none 0 0 [] rfl (OwnB.nil _ _) (some ⟨b, o, none⟩) n c zs rfl (HB.out.below HB0.out) HN.out n (by omega) (by omega) (Nat.le_refl _) ?_; intro A4 x4 w4 ho4 hb4 _; obtain ⟨g, rfl, hg0, hg1⟩ := ho4.some_ (by omega); have y8 := ho4.cell 8 (by omega); have y9 := ho4.cell 9 (by omega); have s8 := ho4.soft 8; have s9 := ho4.soft 9; have HO4 : Hid (OwnB ((w4.setCell ⟨g, 8, none⟩ (.int .u8 0)).setCell ⟨g, 9, none⟩ (.int .u8 0)) W0.heap.size (some ⟨g, 0, none⟩) n x4 (bare zs)) := Lib.hid ((ho4.put 8 0 (by omega)).1.put 9 0 (by omega)).1; have HBB4 : Hid (Below W0.heap.size W0 ((w4.setCell ⟨g, 8, none⟩ (.int .u8 0)).setCell ⟨g, 9, none⟩ (.int .u8 0))) := Lib.hid ((hb4.trans (ho4.put 8 0 (by omega)).2).trans ((ho4.put 8 0 (by omega)).1.put 9 0 (by omega)).2); clear ho4 hb4)
  go_upto_region 6 with fail
  obtain ⟨W1, hW1⟩ : ∃ W1, W1 = ((w4.setCell ⟨g, 8, none⟩ (.int .u8 0)).setCell ⟨g, 9, none⟩ (.int .u8 0)) := ⟨_, rfl⟩
  rw [← hW1] at HO4 HBB4
  have hcb := (HBB4.out.cell (p := ⟨w.heap.size, 0, none⟩) (by simp only; omega)).trans (cell_of_one HX0.out)
  have hd8 := (HBB4.out.cell (p := ⟨b, o + 8, none⟩) (by simp only; omega)).trans ((HB0.out.cell (p := ⟨b, o + 8, none⟩) hbl).trans hc8)
  have hd9 := (HBB4.out.cell (p := ⟨b, o + 9, none⟩) (by simp only; omega)).trans ((HB0.out.cell (p := ⟨b, o + 9, none⟩) hbl).trans hc9)
  have HR1 : Hid (Box9 W1 (w.heap.size + 1) (.int .i64 0) (.int .i64 0) (.int .i64 0) (.bool false) (.bool false) (.bool false) (.bool false) (.slice none 0 0) (.slice none 0 0)) := Lib.hid ((HBB4.out.block _ (by omega)).trans HR0.out)
  have HX1 : Hid (W1.heap[w.heap.size]? = some (.cells #[.slice (some ⟨b, o, none⟩) n c] 23 (0, 0))) := Lib.hid ((HBB4.out.block _ (by omega)).trans HX0.out)
  have HB1 : Hid (Below w.heap.size w W1) := Lib.hid (bthen HB0.out HBB4.out)
  rw [← hW1]
  clear hW1 y8 y9 s8 s9 hc8 hc9
  have HFO : Hid (∀ k, Calls Try.prog 28 #[.slice (some ⟨g, 0, none⟩) n x4] (W1.drewN k) fun e w' => e = .returned (.int .i64 fb) ∧ w' = W1.drewN k) := Lib.hid (fun k => by
    rw [HFB.out]
    exact (reffold_any _ n x4 (bare zs) _ (HO4.out.bs.below (below_drewN (Below.refl _ _) k)) HO4.out.2.1 (by omega)).mono (fun e w' h => ⟨h.1, h.2.symm⟩))
  go_quiet ((go_at_call 28; exact Calls.quiet_of_same (HFO.out _)))
  obtain ⟨wd1, hwd1⟩ : ∃ wd1, wd1 = W1.drewN nq := ⟨_, rfl⟩
  have hbd : Below W1.heap.size W1 wd1 := by rw [hwd1]; exact below_drewN (Below.refl _ _) _
  have HB2 : Hid (Below w.heap.size w wd1) := Lib.hid (bthen HB1.out hbd)
  have HR2 : Hid (Box9 wd1 (w.heap.size + 1) (.int .i64 0) (.int .i64 0) (.int .i64 0) (.bool false) (.bool false) (.bool false) (.bool false) (.slice none 0 0) (.slice none 0 0)) := Lib.hid (box9_below HR1.out hbd)
  have HX2 : Hid (wd1.heap[w.heap.size]? = some (.cells #[.slice (some ⟨b, o, none⟩) n c] 23 (0, 0))) := Lib.hid ((hbd.block _ (lt_of_block HX1.out)).trans HX1.out)
  rw [← hwd1]
  clear hwd1 hcb hd8 hd9 zw1 zw2 zw3 zw4 zw5 hcb0 hbd
  obtain ⟨lR, c0, c1, c2, c3, c4, c5, c6, c7, c8, fr⟩ := HR2.out.cells
  have z0 := fr 0; have z1 := fr 1; have z2 := fr 2; have z3 := fr 3; have z4 := fr 4; have z5 := fr 5; have z6 := fr 6; have z7 := fr 7; have z8 := fr 8
  clear fr
  go_wp2
  obtain ⟨wf, hwf⟩ : ∃ wf, wf = (((((((((wd1.setCell ⟨w.heap.size + 1, 0, none⟩ (.int .i64 0)).setCell ⟨w.heap.size + 1, 1, none⟩ (.int .i64 0)).setCell ⟨w.heap.size + 1, 2, none⟩ (.int .i64 0)).setCell ⟨w.heap.size + 1, 3, none⟩ (.bool false)).setCell ⟨w.heap.size + 1, 4, none⟩ (.bool false)).setCell ⟨w.heap.size + 1, 5, none⟩ (.bool false)).setCell ⟨w.heap.size + 1, 6, none⟩ (.bool false)).setCell ⟨w.heap.size + 1, 7, none⟩ (.slice none 0 0)).setCell ⟨w.heap.size + 1, 8, none⟩ (.slice none 0 0)) := ⟨_, rfl⟩
  have hf : Box9 wf (w.heap.size + 1) (.int .i64 0) (.int .i64 0) (.int .i64 0) (.bool false) (.bool false) (.bool false) (.bool false) (.slice none 0 0) (.slice none 0 0) := by rw [hwf]; exact box9_store HR2.out _ _ _ _ _ _ _ _ _
  have hbf : Below w.heap.size w wf := by rw [hwf]; exact below_store HB2.out (Nat.le_succ _) _ _ _ _ _ _ _ _ _
  obtain ⟨-, r0, r1, r2, r3, r4, r5, r6, r7, r8, -⟩ := hf.cells
  rw [← hwf]
  refine end_ret (v := .tuple #[.agg #[.int .i64 0, .int .i64 0, .int .i64 0, .bool false, .bool false, .bool false, .bool false, .slice none 0 0, .slice none 0 0], .int .i64 6]) (by simp [results, Try.results13, go_sem, r0, r1, r2, r3, r4, r5, r6, r7, r8]) ?_
  exact ret_bad hbf HK.out (by decide)

end Go.Proofs.Ytgmpablmkpamaaa
