/-
  The document's SegDecoded with the sum right: where it has flags that no segment has.
-/
import Derived.Test.YtgmpablmkpamaaaDecRef2
namespace Go.Proofs.Ytgmpablmkpamaaa
open Go.RowKit Go.Shelf
set_option linter.unusedVariables false
set_option linter.unusedSimpArgs false

set_option maxRecDepth 100000 in
set_option maxHeartbeats 8000000 in
theorem refdec_flags (b o n c : Nat) (zs : List Int) (w : World) (hb : Bs w (some ⟨b, o, none⟩) zs) (hn : zs.length = n) (h10 : 10 ≤ n) (hc : n ≤ c) (h47 : n ≤ 140737488355328) (hs : wd zs 8 = 65535 - fo (tot 0 (bare zs))) (hL : 10 + 4 * cnt zs ≤ n) (hF : fault (dec zs) = 0) (hC : 15 < zs.getD 6 0) :
    Calls Try.prog 13 #[.slice (some ⟨b, o, none⟩) n c] w (RetDec w zs) := by
  have HHhL := Lib.hid hL
  clear hL
  have HHhF := Lib.hid hF
  clear hF
  have HHhC := Lib.hid hC
  clear hC
  obtain ⟨x6, hx6⟩ : ∃ v, v = zs.getD 6 0 := ⟨_, rfl⟩
  obtain ⟨b', o', x', he, hc6, x60, x61, hx'⟩ := hb.at 6 (by omega)
  injection he with he; injection he with e1 e2; subst e1; subst e2
  rw [hx', ← hx6] at hc6
  rw [hx', ← hx6] at x60 x61
  have HX6 := Lib.hid hx6
  obtain ⟨s0, hs0⟩ : ∃ s, s = wd zs 0 := ⟨_, rfl⟩
  obtain ⟨s1, hs1⟩ : ∃ s, s = wd zs 2 := ⟨_, rfl⟩
  obtain ⟨s2, hs2⟩ : ∃ s, s = wd zs 4 := ⟨_, rfl⟩
  obtain ⟨g0, hg0⟩ : ∃ g, g = bit x6 1 := ⟨_, rfl⟩
  obtain ⟨g1, hg1⟩ : ∃ g, g = bit x6 2 := ⟨_, rfl⟩
  obtain ⟨g2, hg2⟩ : ∃ g, g = bit x6 4 := ⟨_, rfl⟩
  obtain ⟨g3, hg3⟩ : ∃ g, g = bit x6 8 := ⟨_, rfl⟩
  have y0 : (x6 % 2 == 1) = g0 := by rw [hg0, ← bit_eq, Int.ediv_one]
  have y1 : (x6 / 2 % 2 == 1) = g1 := by rw [hg1, ← bit_eq]
  have y2 : (x6 / 4 % 2 == 1) = g2 := by rw [hg2, ← bit_eq]
  have y3 : (x6 / 8 % 2 == 1) = g3 := by rw [hg3, ← bit_eq]
  have HGG := Lib.hid (And.intro hg0 (And.intro hg1 (And.intro hg2 hg3)))
  have n6 : (6 : Int) < (n : Int) := by omega
  clear hx' hx6 hg0 hg1 hg2 hg3
  have HB := Lib.hid hb; have HN := Lib.hid hn
  obtain ⟨v8, hv8⟩ : ∃ v, v = zs.getD 8 0 := ⟨_, rfl⟩
  obtain ⟨v9, hv9⟩ : ∃ v, v = zs.getD 9 0 := ⟨_, rfl⟩
  have b8 := getD_bd zs hb.1 8; have b9 := getD_bd zs hb.1 9
  rw [← hv8] at b8; rw [← hv9] at b9
  obtain ⟨fb, hfb⟩ : ∃ v, v = fo (tot 0 (bare zs)) := ⟨_, rfl⟩
  obtain ⟨b', o', x, he, hc8, _, _, hx8⟩ := hb.at 8 (by omega)
  injection he with he; injection he with e1 e2; subst e1; subst e2
  obtain ⟨b', o', y, he, hc9, _, _, hy9⟩ := hb.at 9 (by omega)
  injection he with he; injection he with e1 e2; subst e1; subst e2
  rw [hx8, ← hv8] at hc8
  rw [hy9, ← hv9] at hc9
  have hbl : b < w.heap.size := block_lt_of_cell hc8
  have hfbb : 0 ≤ fb ∧ fb ≤ 65535 := by
    rw [hfb]
    have hbb : ∀ z ∈ bare zs, 0 ≤ z ∧ z ≤ 255 := by
      unfold bare
      exact mem_set_bd _ (mem_set_bd zs hb.1 8 0 (by omega)) 9 0 (by omega)
    exact fo_bd _ (tot_bd0 _ hbb).1
  have HWD : Hid (256 * v8 + v9 = wd zs 8) := Lib.hid (by rw [hv8, hv9]; rfl)
  have HFB := Lib.hid hfb
  have zw1 : IntKind.i64.wrap v8 = v8 := wraps_i64 _ (by omega) (by omega)
  have zw2 : IntKind.i64.wrap v9 = v9 := wraps_i64 _ (by omega) (by omega)
  have zw3 : IntKind.i64.wrap (256 * v8) = 256 * v8 := wraps_i64 _ (by omega) (by omega)
  have zw4 : IntKind.i64.wrap (256 * v8 + v9) = 256 * v8 + v9 := wraps_i64 _ (by omega) (by omega)
  have zw5 : IntKind.i64.wrap (65535 - fb) = 65535 - fb := wraps_i64 _ (by omega) (by omega)
  have n8 : (8 : Int) < (n : Int) := by omega
  have n9 : (9 : Int) < (n : Int) := by omega
  have HS8 := Lib.hid hs
  have zeq : (256 * v8 + v9 == 65535 - fb) = true := by rw [beq_iff_eq, HWD.out, HFB.out]; exact hs
  clear hb hn hv8 hv9 hfb hx8 hy9 b8 b9 hfbb hs
  go_enter Try.func13, Try.ntmps13
  go_upto_region 3 with fail
  obtain ⟨W0, hW0⟩ : ∃ W0, W0 = (w.alloc (.cells #[.slice (some ⟨b, o, none⟩) n c] 23)).alloc (.cells #[.int .i64 0, .int .i64 0, .int .i64 0, .bool false, .bool false, .bool false, .bool false, .slice none 0 0, .slice none 0 0] 25) := ⟨_, rfl⟩
  have HB0 : Hid (Below w.heap.size w W0) := Lib.hid (by rw [hW0]; exact ba2 _ _ _)
  have HX0 : Hid (W0.heap[w.heap.size]? = some (.cells #[.slice (some ⟨b, o, none⟩) n c] 23 (0, 0))) := Lib.hid (by
    rw [hW0, Below.heap_alloc _ _ _ (by simp)]; exact World.alloc_heap_new w _)
  have HR0 : Hid (Box9 W0 (w.heap.size + 1) (.int .i64 0) (.int .i64 0) (.int .i64 0) (.bool false) (.bool false) (.bool false) (.bool false) (.slice none 0 0) (.slice none 0 0)) := Lib.hid (by
    rw [hW0]
    have := World.alloc_heap_new (w.alloc (.cells #[.slice (some ⟨b, o, none⟩) n c] 23)) (.cells #[.int .i64 0, .int .i64 0, .int .i64 0, .bool false, .bool false, .bool false, .bool false, .slice none 0 0, .slice none 0 0] 25)
    simp only [World.size_alloc] at this
    exact this)
  have hz0 : W0.heap.size = w.heap.size + 2 := by rw [hW0]; simp
  have hcb0 := cell_of_one HX0.out
  rw [← hW0]
  clear hW0
  go_upto_region 4 with (at_builtin; refine wpList_appB rfl _ (.const (.slice none 0 0)) (.tmp 15) rfl W0.heap.size none 0 0 [] rfl (OwnB.nil _ _) (some ⟨b, o, none⟩) n c zs rfl (HB.out.below HB0.out) HN.out n (by omega) (by omega) (Nat.le_refl _) ?_; intro A4 x4 w4 ho4 hb4 _; obtain ⟨g, rfl, hg0, hg1⟩ := ho4.some_ (by omega); have y8 := ho4.cell 8 (by omega); have y9 := ho4.cell 9 (by omega); have s8 := ho4.soft 8; have s9 := ho4.soft 9; have HO4 : Hid (OwnB ((w4.setCell ⟨g, 8, none⟩ (.int .u8 0)).setCell ⟨g, 9, none⟩ (.int .u8 0)) W0.heap.size (some ⟨g, 0, none⟩) n x4 (bare zs)) := Lib.hid ((ho4.put 8 0 (by omega)).1.put 9 0 (by omega)).1; have HBB4 : Hid (Below W0.heap.size W0 ((w4.setCell ⟨g, 8, none⟩ (.int .u8 0)).setCell ⟨g, 9, none⟩ (.int .u8 0))) := Lib.hid ((hb4.trans (ho4.put 8 0 (by omega)).2).trans ((ho4.put 8 0 (by omega)).1.put 9 0 (by omega)).2); clear ho4 hb4)
  go_upto_region 6 with fail
  obtain ⟨W1, hW1⟩ : ∃ W1, W1 = ((w4.setCell ⟨g, 8, none⟩ (.int .u8 0)).setCell ⟨g, 9, none⟩ (.int .u8 0)) := ⟨_, rfl⟩
  rw [← hW1] at HO4 HBB4
  have hcb := (HBB4.out.cell (p := ⟨w.heap.size, 0, none⟩) (by simp only; omega)).trans (cell_of_one HX0.out)
  have hd8 := (HBB4.out.cell (p := ⟨b, o + 8, none⟩) (by simp only; omega)).trans ((HB0.out.cell (p := ⟨b, o + 8, none⟩) hbl).trans hc8)
  have hd9 := (HBB4.out.cell (p := ⟨b, o + 9, none⟩) (by simp only; omega)).trans ((HB0.out.cell (p := ⟨b, o + 9, none⟩) hbl).trans hc9)
  have HR1 : Hid (Box9 W1 (w.heap.size + 1) (.int .i64 0) (.int .i64 0) (.int .i64 0) (.bool false) (.bool false) (.bool false) (.bool false) (.slice none 0 0) (.slice none 0 0)) := Lib.hid ((HBB4.out.block _ (by omega)).trans HR0.out)
  have HX1 : Hid (W1.heap[w.heap.size]? = some (.cells #[.slice (some ⟨b, o, none⟩) n c] 23 (0, 0))) := Lib.hid ((HBB4.out.block _ (by omega)).trans HX0.out)
  have HB1 : Hid (Below w.heap.size w W1) := Lib.hid (bthen HB0.out HBB4.out)
  rw [← hW1]
  clear hW1 y8 y9 s8 s9 hc8 hc9
  have HFO : Hid (∀ k, Calls Try.prog 28 #[.slice (some ⟨g, 0, none⟩) n x4] (W1.drewN k) fun e w' => e = .returned (.int .i64 fb) ∧ w' = W1.drewN k) := Lib.hid (fun k => by
    rw [HFB.out]
    exact (reffold_any _ n x4 (bare zs) _ (HO4.out.bs.below (below_drewN (Below.refl _ _) k)) HO4.out.2.1 (by omega)).mono (fun e w' h => ⟨h.1, h.2.symm⟩))
  go_quiet ((go_at_call 28; exact Calls.quiet_of_same (HFO.out _)))
  obtain ⟨wd1, hwd1⟩ : ∃ wd1, wd1 = W1.drewN nq := ⟨_, rfl⟩
  have hbd : Below W1.heap.size W1 wd1 := by rw [hwd1]; exact below_drewN (Below.refl _ _) _
  have HB2 : Hid (Below w.heap.size w wd1) := Lib.hid (bthen HB1.out hbd)
  have HR2 : Hid (Box9 wd1 (w.heap.size + 1) (.int .i64 0) (.int .i64 0) (.int .i64 0) (.bool false) (.bool false) (.bool false) (.bool false) (.slice none 0 0) (.slice none 0 0)) := Lib.hid (box9_below HR1.out hbd)
  have HX2 : Hid (wd1.heap[w.heap.size]? = some (.cells #[.slice (some ⟨b, o, none⟩) n c] 23 (0, 0))) := Lib.hid ((hbd.block _ (lt_of_block HX1.out)).trans HX1.out)
  rw [← hwd1]
  have hd6 := ((bthen HB0.out HBB4.out).trans ((hbd.mono (bthen HB0.out HBB4.out).size))).cell (p := ⟨b, o + 6, none⟩) hbl |>.trans hc6
  clear hwd1 hcb hd8 hd9 zw1 zw2 zw3 zw4 zw5 hcb0 hbd
  have HP0 : Hid (∀ w', Below wd1.heap.size wd1 w' → Calls Try.prog 32 #[.int .i64 0, .pointer (some ⟨w.heap.size, 0, none⟩)] w' fun e w'' => e = .returned (.int .i64 s0) ∧ Below w'.heap.size w' w'' ∧ w''.cell? ⟨w.heap.size, 0, none⟩ = some (.slice (some ⟨b, o, none⟩) n c) ∧ w''.cell? ⟨b, o + 6, none⟩ = some (.int .u8 x6)) := Lib.hid (fun w' h => by
    have hbs := (HB.out.below HB2.out).below h
    have hbx : w'.cell? ⟨w.heap.size, 0, none⟩ = some (.slice (some ⟨b, o, none⟩) n c) := (h.cell (p := ⟨w.heap.size, 0, none⟩) (lt_of_block HX2.out)).trans (cell_of_one HX2.out)
    have h6' : w'.cell? ⟨b, o + 6, none⟩ = some (.int .u8 x6) := (h.cell (p := ⟨b, o + 6, none⟩) (by simp only; have := HB2.out.size; omega)).trans hd6
    refine (at_any w.heap.size b o n c 0 zs w' hbx hbs HN.out (by omega) h47).mono ?_
    rintro e w'' ⟨h1, k, rfl⟩
    exact ⟨by rw [h1, hs0], below_drewN (Below.refl _ _) _, (drewN_cell _ _ _).trans hbx, (drewN_cell _ _ _).trans h6'⟩)
  have HP1 : Hid (∀ w', Below wd1.heap.size wd1 w' → Calls Try.prog 32 #[.int .i64 2, .pointer (some ⟨w.heap.size, 0, none⟩)] w' fun e w'' => e = .returned (.int .i64 s1) ∧ Below w'.heap.size w' w'' ∧ w''.cell? ⟨w.heap.size, 0, none⟩ = some (.slice (some ⟨b, o, none⟩) n c) ∧ w''.cell? ⟨b, o + 6, none⟩ = some (.int .u8 x6)) := Lib.hid (fun w' h => by
    have hbs := (HB.out.below HB2.out).below h
    have hbx : w'.cell? ⟨w.heap.size, 0, none⟩ = some (.slice (some ⟨b, o, none⟩) n c) := (h.cell (p := ⟨w.heap.size, 0, none⟩) (lt_of_block HX2.out)).trans (cell_of_one HX2.out)
    have h6' : w'.cell? ⟨b, o + 6, none⟩ = some (.int .u8 x6) := (h.cell (p := ⟨b, o + 6, none⟩) (by simp only; have := HB2.out.size; omega)).trans hd6
    refine (at_any w.heap.size b o n c 2 zs w' hbx hbs HN.out (by omega) h47).mono ?_
    rintro e w'' ⟨h1, k, rfl⟩
    exact ⟨by rw [h1, hs1], below_drewN (Below.refl _ _) _, (drewN_cell _ _ _).trans hbx, (drewN_cell _ _ _).trans h6'⟩)
  have HP2 : Hid (∀ w', Below wd1.heap.size wd1 w' → Calls Try.prog 32 #[.int .i64 4, .pointer (some ⟨w.heap.size, 0, none⟩)] w' fun e w'' => e = .returned (.int .i64 s2) ∧ Below w'.heap.size w' w'' ∧ w''.cell? ⟨w.heap.size, 0, none⟩ = some (.slice (some ⟨b, o, none⟩) n c) ∧ w''.cell? ⟨b, o + 6, none⟩ = some (.int .u8 x6)) := Lib.hid (fun w' h => by
    have hbs := (HB.out.below HB2.out).below h
    have hbx : w'.cell? ⟨w.heap.size, 0, none⟩ = some (.slice (some ⟨b, o, none⟩) n c) := (h.cell (p := ⟨w.heap.size, 0, none⟩) (lt_of_block HX2.out)).trans (cell_of_one HX2.out)
    have h6' : w'.cell? ⟨b, o + 6, none⟩ = some (.int .u8 x6) := (h.cell (p := ⟨b, o + 6, none⟩) (by simp only; have := HB2.out.size; omega)).trans hd6
    refine (at_any w.heap.size b o n c 4 zs w' hbx hbs HN.out (by omega) h47).mono ?_
    rintro e w'' ⟨h1, k, rfl⟩
    exact ⟨by rw [h1, hs2], below_drewN (Below.refl _ _) _, (drewN_cell _ _ _).trans hbx, (drewN_cell _ _ _).trans h6'⟩)
  have hmf : ∀ (fn : Fn) (first cap : Array Value) (w : World), (Instr.makeFunc fn first cap).run Try.prog w = .ok (.func fn first cap) w := fun _ _ _ _ => rfl
  have hcb2 := cell_of_one HX2.out
  have HSS := Lib.hid (And.intro hs0 (And.intro hs1 hs2))
  have HD1 : Hid (Below wd1.heap.size wd1 wd1.drew) := Lib.hid ((Below.refl _ _).drew)
  have lB1 : w.heap.size < wd1.heap.size := lt_of_block HX2.out
  have lb1 : b < wd1.heap.size := by omega
  clear hs0 hs1 hs2
  go_upto_region 9 with fail
  go_cut [6] (fun t wc => Read2 wd1 s0 s1 s2 g0 g1 g2 g3 t wc)
  case first =>
    have u1 : IntKind.u8.wrap (x6.tdiv 2) = x6 / 2 := by rw [Int.tdiv_eq_ediv_of_nonneg x60]; exact wraps_u8 _ (by omega) (by omega)
    have u2 : IntKind.u8.wrap (x6.tdiv 4) = x6 / 4 := by rw [Int.tdiv_eq_ediv_of_nonneg x60]; exact wraps_u8 _ (by omega) (by omega)
    have u3 : IntKind.u8.wrap (x6.tdiv 8) = x6 / 8 := by rw [Int.tdiv_eq_ediv_of_nonneg x60]; exact wraps_u8 _ (by omega) (by omega)
    have Y0 : Hid ((x6.tmod 2 == 1) = g0) := Lib.hid (by rw [Int.tmod_eq_emod_of_nonneg (by omega)]; exact y0)
    have Y1 : Hid (((IntKind.u8.wrap (x6.tdiv 2)).tmod 2 == 1) = g1) := Lib.hid (by rw [u1, Int.tmod_eq_emod_of_nonneg (by omega)]; exact y1)
    have Y2 : Hid (((IntKind.u8.wrap (x6.tdiv 4)).tmod 2 == 1) = g2) := Lib.hid (by rw [u2, Int.tmod_eq_emod_of_nonneg (by omega)]; exact y2)
    have Y3 : Hid (((IntKind.u8.wrap (x6.tdiv 8)).tmod 2 == 1) = g3) := Lib.hid (by rw [u3, Int.tmod_eq_emod_of_nonneg (by omega)]; exact y3)
    clear u1 u2 u3 y0 y1 y2 y3
    rename_i q0 K0 q2 J0 K1 q3 q4
    clear q2 K0 q0 HX6 HGG HB HN HWD HFB HS8 zeq n8 n9 HB0 HX0 HR0 hz0 HBB4 HO4 HR1 HX1 HB1 HFO HB2 HR2 HX2 HSS hc6 hmf
    have hcb3 := cell_drew1 hcb2
    have hd63 := cell_drew1 hd6
    go_region_held3 (fun w' => w'.cell? ⟨w.heap.size, 0, none⟩ = some (.slice (some ⟨b, o, none⟩) n c) ∧ w'.cell? ⟨b, o + 6, none⟩ = some (.int .u8 x6)) (first | (with_reducible exact ⟨m1, m2⟩) | (with_reducible exact ⟨hcb3, hd63⟩) | (with_reducible exact ⟨cell_alloc1 m1, cell_alloc1 m2⟩) | (with_reducible exact ⟨cell_alloc1 hcb3, cell_alloc1 hd63⟩) | (with_reducible exact ⟨cell_drew1 (cell_alloc1 hcb2), cell_drew1 (cell_alloc1 hd6)⟩) | (refine ⟨(cell_store9 ?_ _ _ _ _ _ _ _ _ _).trans m1, (cell_store9 ?_ _ _ _ _ _ _ _ _ _).trans m2⟩ <;> (simp only; omega))) (first
      | (go_at_call 32; (with_reducible refine (HP0.out (wd1.alloc (.cells #[.int .i64 0, .int .i64 0, .int .i64 0, .bool false, .bool false, .bool false, .bool false, .slice none 0 0, .slice none 0 0] 25)).drew ((ba1 wd1 _).drew)).mono ?_); rintro e w2 ⟨rfl, hb, m1, m2⟩; have HB2 : Hid (Below wd1.heap.size wd1 w2) := Lib.hid (bthen (ba1 wd1 _).drew hb); have HX2 : Hid (Box9 w2 wd1.heap.size (.int .i64 0) (.int .i64 0) (.int .i64 0) (.bool false) (.bool false) (.bool false) (.bool false) (.slice none 0 0) (.slice none 0 0)) := Lib.hid (box9_below (show Box9 (wd1.alloc (.cells #[.int .i64 0, .int .i64 0, .int .i64 0, .bool false, .bool false, .bool false, .bool false, .slice none 0 0, .slice none 0 0] 25)).drew wd1.heap.size _ _ _ _ _ _ _ _ _ from World.alloc_heap_new wd1 _) hb); have LE2 := HB2.out.size; clear hb)
      | (go_at_call 32; (with_reducible refine (HP0.out wd1.drew (HD1.out)).mono ?_); rintro e w2 ⟨rfl, hb, m1, m2⟩; have HB2 : Hid (Below wd1.heap.size wd1 w2) := Lib.hid (bthen HD1.out hb); have LE2 := HB2.out.size; clear hb)
      | (go_at_call 32; (with_reducible refine (HP1.out w2 (HB2.out)).mono ?_); rintro e w3 ⟨rfl, hb, m1, m2⟩; have HB3 : Hid (Below wd1.heap.size wd1 w3) := Lib.hid (bthen HB2.out hb); have HX3 := Lib.hid (box9_below HX2.out hb); have LE3 := HB3.out.size; clear hb)
      | (go_at_call 32; (with_reducible refine (HP1.out (w2.alloc (.cells #[.int .i64 0, .int .i64 0, .int .i64 0, .bool false, .bool false, .bool false, .bool false, .slice none 0 0, .slice none 0 0] 25)) (HB2.out.alloc HB2.out.size _)).mono ?_); rintro e w3 ⟨rfl, hb, m1, m2⟩; have HB3 : Hid (Below wd1.heap.size wd1 w3) := Lib.hid (bthen (HB2.out.alloc HB2.out.size _) hb); have HX3 : Hid (Box9 w3 w2.heap.size (.int .i64 0) (.int .i64 0) (.int .i64 0) (.bool false) (.bool false) (.bool false) (.bool false) (.slice none 0 0) (.slice none 0 0)) := Lib.hid (box9_below (World.alloc_heap_new _ _) hb); have LE3 := HB3.out.size; clear hb)
      | (go_at_call 32; (with_reducible refine (HP1.out w2 (HB2.out)).mono ?_); rintro e w3 ⟨rfl, hb, m1, m2⟩; have HB3 : Hid (Below wd1.heap.size wd1 w3) := Lib.hid (bthen HB2.out hb); have LE3 := HB3.out.size; clear hb)
      | (go_at_call 32; (with_reducible refine (HP2.out w3 (HB3.out)).mono ?_); rintro e w4 ⟨rfl, hb, m1, m2⟩; have HB4 : Hid (Below wd1.heap.size wd1 w4) := Lib.hid (bthen HB3.out hb); have HX4 := Lib.hid (box9_below HX3.out hb); obtain ⟨lS, k0, k1, k2, k3, k4, k5, k6, k7, k8, ks⟩ := HX4.out.cells; have f0 := ks 0; have f1 := ks 1; have f2 := ks 2; have f3 := ks 3; have f4 := ks 4; have f5 := ks 5; have f6 := ks 6; have f7 := ks 7; have f8 := ks 8; clear ks; clear hb)
      | (go_at_call 32; (with_reducible refine (HP2.out (w3.alloc (.cells #[.int .i64 0, .int .i64 0, .int .i64 0, .bool false, .bool false, .bool false, .bool false, .slice none 0 0, .slice none 0 0] 25)) (HB3.out.alloc HB3.out.size _)).mono ?_); rintro e w4 ⟨rfl, hb, m1, m2⟩; have HB4 : Hid (Below wd1.heap.size wd1 w4) := Lib.hid (bthen (HB3.out.alloc HB3.out.size _) hb); have HX4 : Hid (Box9 w4 w3.heap.size (.int .i64 0) (.int .i64 0) (.int .i64 0) (.bool false) (.bool false) (.bool false) (.bool false) (.slice none 0 0) (.slice none 0 0)) := Lib.hid (box9_below (World.alloc_heap_new _ _) hb); obtain ⟨lS, k0, k1, k2, k3, k4, k5, k6, k7, k8, ks⟩ := HX4.out.cells; have f0 := ks 0; have f1 := ks 1; have f2 := ks 2; have f3 := ks 3; have f4 := ks 4; have f5 := ks 5; have f6 := ks 6; have f7 := ks 7; have f8 := ks 8; clear ks; clear hb)
      | (go_at_call 32; (with_reducible refine (HP2.out w3 (HB3.out)).mono ?_); rintro e w4 ⟨rfl, hb, m1, m2⟩; have HB4 : Hid (Below wd1.heap.size wd1 w4) := Lib.hid (bthen HB3.out hb); have LE4 := HB4.out.size; clear hb))
    all_goals
      simp only [Y0.out, Y1.out, Y2.out, Y3.out]
      go_wp2_with fail
      go_meet
      unfold Read2
      first
        | (have LE := Nat.le_refl wd1.heap.size; with_reducible exact ⟨_, rfl, LE, box9_store HX4.out _ _ _ _ _ _ _ _ _, below_store HB4.out LE _ _ _ _ _ _ _ _ _⟩)
        | (have LE := HB2.out.size; with_reducible exact ⟨_, rfl, LE, box9_store HX4.out _ _ _ _ _ _ _ _ _, below_store HB4.out LE _ _ _ _ _ _ _ _ _⟩)
        | (have LE := HB3.out.size; with_reducible exact ⟨_, rfl, LE, box9_store HX4.out _ _ _ _ _ _ _ _ _, below_store HB4.out LE _ _ _ _ _ _ _ _ _⟩)
        | (have LE := HB4.out.size; have HXn : Box9 (w4.alloc (.cells #[.int .i64 s0, .int .i64 s1, .int .i64 s2, .bool g0, .bool g1, .bool g2, .bool g3, .slice none 0 0, .slice none 0 0] 25)) w4.heap.size (.int .i64 s0) (.int .i64 s1) (.int .i64 s2) (.bool g0) (.bool g1) (.bool g2) (.bool g3) (.slice none 0 0) (.slice none 0 0) := World.alloc_heap_new w4 _; have HBn := HB4.out.alloc LE (.cells #[.int .i64 s0, .int .i64 s1, .int .i64 s2, .bool g0, .bool g1, .bool g2, .bool g3, .slice none 0 0, .slice none 0 0] 25); with_reducible exact ⟨_, rfl, LE, HXn, HBn⟩)
  case rest =>
    obtain ⟨S, rfl, hS, hbox, hbel⟩ := hcut
    obtain ⟨b', o', y, he, hc7, y0, y1, hy⟩ := ((HB.out.below HB2.out).below hbel).at 7 (by rw [HN.out]; omega)
    injection he with he; injection he with e1 e2; subst e1; subst e2
    obtain ⟨q, rfl⟩ : ∃ q : Nat, y = (q : Int) := ⟨y.toNat, by omega⟩
    have HQ : Hid (cnt zs = q) := Lib.hid (by rw [cnt, ← hy]; rfl)
    have hq255 : q ≤ 255 := by omega
    have n7 : (7 : Int) < (n : Int) := by omega
    have hRl : w.heap.size + 1 < wd1.heap.size := lt_of_block HR2.out
    have HXc : Hid (wc.heap[w.heap.size]? = some (.cells #[.slice (some ⟨b, o, none⟩) n c] 23 (0, 0))) := Lib.hid ((hbel.block _ lB1).trans HX2.out)
    have HRc : Hid (Box9 wc (w.heap.size + 1) (.int .i64 0) (.int .i64 0) (.int .i64 0) (.bool false) (.bool false) (.bool false) (.bool false) (.slice none 0 0) (.slice none 0 0)) := Lib.hid ((hbel.block _ hRl).trans HR2.out)
    have hxc := cell_of_one HXc.out
    have HBX := Lib.hid hbox; have HBE := Lib.hid hbel
    have HBW : Hid (Below w.heap.size w wc) := Lib.hid (HB2.out.trans (hbel.mono HB2.out.size))
    clear hbox hbel hy hcb2 hd6 HP0 HP1 HP2 hmf HD1 HB0 HX0 HR0 HBB4 HO4 HR1 HX1 HB1 HFO
    obtain ⟨lR, R0, R1, R2, R3, R4, R5, R6, R7, R8, Rs⟩ := (HRc.out).cells; have Rf0 := Rs 0; have Rf1 := Rs 1; have Rf2 := Rs 2; have Rf3 := Rs 3; have Rf4 := Rs 4; have Rf5 := Rs 5; have Rf6 := Rs 6; have Rf7 := Rs 7; have Rf8 := Rs 8; clear Rs
    by_cases hlen : 10 + 4 * q ≤ n
    · have zle : (10 : Int) + 4 * (q : Int) ≤ (n : Int) := by omega
      go_wp2
      go_loopw [8] (fun i wr => DecI zs wd1 wc S q s0 s1 s2 g0 g1 g2 g3 i wr) (fun i _ => q - (intOf i).toNat)
      case atStart => exact ⟨0, none, 0, Nat.zero_le _, rfl, HBX.out, OwnR.nil _ _, HBE.out, Nat.le_refl _⟩
      case round =>
        obtain ⟨k, A, ck, hk, rfl, hbx, hor, hbw, hsz⟩ := hrel
        have hSl : S < wc.heap.size := lt_of_block HBX.out
        by_cases hlt : k < q
        · obtain ⟨v1, hv1⟩ : ∃ v, v = wd zs (10 + 4 * k) := ⟨_, rfl⟩
          obtain ⟨v2, hv2⟩ : ∃ v, v = wd zs (10 + 4 * k + 2) := ⟨_, rfl⟩
          have hHP : ∀ (i : Nat) (z : Int), z = (i : Int) → i + 2 ≤ n → ∀ w', Below wd1.heap.size wd1 w' → Calls Try.prog 32 #[.int .i64 z, .pointer (some ⟨w.heap.size, 0, none⟩)] w' fun e w'' => e = .returned (.int .i64 (wd zs i)) ∧ Below w'.heap.size w' w'' := fun i z hz hi w' h => by
            subst hz
            have hbs := (HB.out.below HB2.out).below h
            have hbx : w'.cell? ⟨w.heap.size, 0, none⟩ = some (.slice (some ⟨b, o, none⟩) n c) := (h.cell (p := ⟨w.heap.size, 0, none⟩) (lt_of_block HX2.out)).trans (cell_of_one HX2.out)
            refine (at_any w.heap.size b o n c i zs w' hbx hbs HN.out hi h47).mono ?_
            rintro e w'' ⟨h1, k, rfl⟩
            exact ⟨h1, below_drewN (Below.refl _ _) _⟩
          have HPa : Hid (∀ w', Below wd1.heap.size wd1 w' → Calls Try.prog 32 #[.int .i64 (10 + 4 * (k : Int)), .pointer (some ⟨w.heap.size, 0, none⟩)] w' fun e w'' => e = .returned (.int .i64 v1) ∧ Below w'.heap.size w' w'') := Lib.hid (by rw [hv1]; exact hHP (10 + 4 * k) _ (by omega) (by omega))
          have HPb : Hid (∀ w', Below wd1.heap.size wd1 w' → Calls Try.prog 32 #[.int .i64 (12 + 4 * (k : Int)), .pointer (some ⟨w.heap.size, 0, none⟩)] w' fun e w'' => e = .returned (.int .i64 v2) ∧ Below w'.heap.size w' w'') := Lib.hid (by rw [hv2]; exact hHP (10 + 4 * k + 2) _ (by omega) (by omega))
          have HSK : Hid (sacksAt zs 10 (k + 1) = sacksAt zs 10 k ++ [(v1, v2)]) := Lib.hid (by rw [hv1, hv2]; rfl)
          have HDR : Hid (Below wd1.heap.size wd1 wr.drew) := Lib.hid hbw.drew
          have hwb := hbw.size
          have hwc : wd1.heap.size ≤ wc.heap.size := HBE.out.size
          have HBXr := Lib.hid hbx; have HOR := Lib.hid hor; have HBWr := Lib.hid hbw
          have hSr : S < wr.heap.size := lt_of_block hbx
          clear hHP hv1 hv2 hbx hor hbw
          obtain ⟨lT, T0, T1, T2, T3, T4, T5, T6, T7, T8, Ts⟩ := (HBXr.out).cells; have Tf0 := Ts 0; have Tf1 := Ts 1; have Tf2 := Ts 2; have Tf3 := Ts 3; have Tf4 := Ts 4; have Tf5 := Ts 5; have Tf6 := Ts 6; have Tf7 := Ts 7; have Tf8 := Ts 8; clear Ts
          have zt1 : IntKind.i64.wrap (4 * (k : Int)) = 4 * (k : Int) := wraps_i64 _ (by omega) (by omega)
          have zt2 : IntKind.i64.wrap (10 + 4 * (k : Int)) = 10 + 4 * (k : Int) := wraps_i64 _ (by omega) (by omega)
          have zt3 : IntKind.i64.wrap (12 + 4 * (k : Int)) = 12 + 4 * (k : Int) := wraps_i64 _ (by omega) (by omega)
          clear HX6 HGG HN HWD HFB HS8 zeq n8 n9 HB2 HR2 HX2 HBX HRc HBW HQ HXc hxc HBE HB HSS R0 R1 R2 R3 R4 R5 R6 R7 R8 Rf0 Rf1 Rf2 Rf3 Rf4 Rf5 Rf6 Rf7 Rf8 T0 T1 T2 T3 T4 T5 T6 T8 Tf0 Tf1 Tf2 Tf3 Tf4 Tf5 Tf6 Tf8 hc6
          go_upto_region 16 with fail
          go_region_law (first
            | (go_simp; go_at_call 32; (with_reducible refine (HPa.out wr.drew HDR.out).mono ?_); rintro e w2 ⟨rfl, hb2⟩; have HW2 : Hid (Below wr.heap.size wr w2) := Lib.hid ((Below.refl wr.heap.size wr).drew.trans hb2); have HW2' : Hid (Below wd1.heap.size wd1 w2) := Lib.hid (HDR.out.trans (hb2.mono HDR.out.size)); have BX2 := (HW2.out.block S hSr).trans HBXr.out; have m27 := (Box9.cells BX2).2.2.2.2.2.2.2.2.1; clear hb2 BX2)
            | (go_simp; go_at_call 32; (with_reducible refine (HPb.out w2 HW2'.out).mono ?_); rintro e w3 ⟨rfl, hb3⟩; have HW3 : Hid (Below wr.heap.size wr w3) := Lib.hid (HW2.out.trans (hb3.mono HW2.out.size)); have BX3 := (HW3.out.block S hSr).trans HBXr.out; have m37 := (Box9.cells BX3).2.2.2.2.2.2.2.2.1; have m38 := cell_alloc1 (o := .cells #[.int .i64 v1, .int .i64 v2] 50) m37; have hz3 := HW3.out.size; clear hb3 BX3)
            | (refine step_appR rfl (w3.alloc (.cells #[.int .i64 v1, .int .i64 v2] 50)) (.tmp 84) (.tmp 96) rfl wc.heap.size A k ck (sacksAt zs 10 k) (by simp [Act.eval, Act.put]) ((HOR.out.below HW3.out).below (ba1 _ _)) (some ⟨w3.heap.size, 0, none⟩) 1 1 [(v1, v2)] (by simp [Act.eval, Act.put]) (rs_new w3 _ _ _ rfl _ rfl) rfl (k + 1) rfl (by omega) (by simp; omega) ?_; intro A4 c4 w4 ho4 hb4 hs4; have O4 := Lib.hid ho4; have HB4 : Hid (Below wc.heap.size wr w4) := Lib.hid ((((HW3.out.mono hsz).alloc (by omega) _)).trans hb4); have BX4 := (HB4.out.block S hSl).trans HBXr.out; have HX4 := Lib.hid BX4; have m47 := (Box9.cells BX4).2.2.2.2.2.2.2.2.1; have f47 := (Box9.cells BX4).2.2.2.2.2.2.2.2.2.2 7; have hz4 := HB4.out.size; clear ho4 hb4 hs4 BX4))
          all_goals
            go_wp2
            exact ⟨⟨k + 1, A4, c4, hlt, rfl, box9_s7 HX4.out _, (by rw [HSK.out]; exact ⟨O4.out.1, ownsRow_setCell_below O4.out.2 (a := ⟨S, 7, none⟩) (by simp only; omega) _⟩), (HBWr.out.trans (HB4.out.mono hwc)).setCell hS _, by simp; omega⟩, by simp [intOf]; omega⟩
        · have hkq : k = q := by omega
          subst hkq
          clear hlt hk
          obtain ⟨at_, hat⟩ : ∃ a, a = 10 + 4 * k := ⟨_, rfl⟩
          obtain ⟨oD, zD, hD'⟩ : ∃ oD, (if c = at_ then some (⟨b, o, none⟩ : Addr) else some ⟨b, o + at_, none⟩) = some ⟨b, oD, none⟩ ∧ (n = at_ ∨ oD = o + at_) := by
            by_cases h : c = at_
            · exact ⟨o, by rw [if_pos h], .inl (by omega)⟩
            · exact ⟨o + at_, by rw [if_neg h], .inr rfl⟩
          have zat : (10 : Int) + 4 * (k : Int) = (at_ : Int) := by omega
          have zle1 : (at_ : Int) ≤ (n : Int) := by omega
          have zle2 : at_ ≤ n := by omega
          have zle3 : at_ ≤ c := by omega
          have zle4 : (at_ : Int) ≤ (c : Int) := by omega
          have hwb := hbw.size
          have hwc : wd1.heap.size ≤ wc.heap.size := HBE.out.size
          have hWr : Below w.heap.size w wr := HB2.out.trans (hbw.mono HB2.out.size)
          have HBD : Hid (Bs wr (some ⟨b, oD, none⟩) (zs.drop at_)) := Lib.hid (by
            have hbs := HB.out.below hWr
            rcases hD' with h | h
            · exact ⟨fun z hz => hbs.1 z (List.mem_of_mem_drop hz), .inl (List.drop_eq_nil_of_le (by rw [HN.out]; omega))⟩
            · rw [h]; exact hbs.drop at_)
          have HDL : Hid ((zs.drop at_).length = n - at_) := Lib.hid (by rw [List.length_drop, HN.out])
          have HBWr := Lib.hid hbw
          have HAT := Lib.hid hat; have HWR := Lib.hid hWr
          have HBXr := Lib.hid hbx; have HOR := Lib.hid hor
          have hSr : S < wr.heap.size := lt_of_block hbx
          have hRr : Hid (Box9 wr (w.heap.size + 1) (.int .i64 0) (.int .i64 0) (.int .i64 0) (.bool false) (.bool false) (.bool false) (.bool false) (.slice none 0 0) (.slice none 0 0)) := Lib.hid ((hbw.block _ hRl).trans HR2.out)
          have hxr := cell_of_one (show wr.heap[w.heap.size]? = some (.cells #[.slice (some ⟨b, o, none⟩) n c] 23 (0, 0)) from (hbw.block _ lB1).trans HX2.out)
          have T8 := (Box9.cells hbx).2.2.2.2.2.2.2.2.2.1
          have Tf8 := (Box9.cells hbx).2.2.2.2.2.2.2.2.2.2 8
          clear hD' hat hbx hor hxc R0 R1 R2 R3 R4 R5 R6 R7 R8 Rf0 Rf1 Rf2 Rf3 Rf4 Rf5 Rf6 Rf7 Rf8 hWr
          go_upto_region 18 with (at_builtin; refine wpList_appB rfl _ (.const (.slice none 0 0)) (.tmp 103) rfl wr.heap.size none 0 0 [] rfl (OwnB.nil _ _) (some ⟨b, oD, none⟩) (n - at_) (c - at_) (zs.drop at_) rfl HBD.out HDL.out (n - at_) (by omega) (by omega) (Nat.le_refl _) ?_; intro A5 x5 w5 ho5 hb5 _; have HO5 := Lib.hid ho5; have HB5 := Lib.hid hb5; have BX5 := (hb5.block S hSr).trans HBXr.out; have HX5 := Lib.hid BX5; have U8 := (Box9.cells BX5).2.2.2.2.2.2.2.2.2.1; have Uf8 := (Box9.cells BX5).2.2.2.2.2.2.2.2.2.2 8; have hx5 := (hb5.cell (p := ⟨w.heap.size, 0, none⟩) (by simp only; omega)).trans hxr; clear ho5 hb5 BX5)
          obtain ⟨W6, hW6⟩ : ∃ W6, W6 = w5.setCell ⟨S, 8, none⟩ (.slice A5 (n - at_) x5) := ⟨_, rfl⟩
          have HX6b : Hid (Box9 W6 S (.int .i64 s0) (.int .i64 s1) (.int .i64 s2) (.bool g0) (.bool g1) (.bool g2) (.bool g3) (.slice A k ck) (.slice A5 (n - at_) x5)) := Lib.hid (by rw [hW6]; exact box9_s8 HX5.out _)
          have hb6 : Below wd1.heap.size wd1 W6 := by rw [hW6]; exact (HBWr.out.trans (HB5.out.mono hwb)).setCell hS _
          have HB6 := Lib.hid hb6
          have HWW : Hid (Below w.heap.size w W6) := Lib.hid (HB2.out.trans (hb6.mono HB2.out.size))
          have HR6 : Hid (Box9 W6 (w.heap.size + 1) (.int .i64 0) (.int .i64 0) (.int .i64 0) (.bool false) (.bool false) (.bool false) (.bool false) (.slice none 0 0) (.slice none 0 0)) := Lib.hid ((hb6.block _ hRl).trans HR2.out)
          have HX6c : Hid (W6.heap[w.heap.size]? = some (.cells #[.slice (some ⟨b, o, none⟩) n c] 23 (0, 0))) := Lib.hid ((hb6.block _ lB1).trans HX2.out)
          have HSO : Hid (SegOwn W6 wc.heap.size (dec zs) A k ck A5 (n - at_) x5) := Lib.hid (by
            refine ⟨?_, ?_⟩
            · show OwnR W6 _ _ _ _ (sacksAt zs 10 (cnt zs))
              rw [HQ.out, hW6]
              have h := HOR.out.below HB5.out
              exact ⟨h.1, ownsRow_setCell_below h.2 (a := ⟨S, 8, none⟩) hSl _⟩
            · show OwnB W6 _ _ _ _ (zs.drop (10 + 4 * cnt zs))
              rw [HQ.out, ← HAT.out, hW6]
              have h := HO5.out.base hsz
              exact ⟨h.1, h.2.1, ownsRow_setCell_below h.2.2 (a := ⟨S, 8, none⟩) hSl _⟩)
          have HV : Hid (segV (dec zs) A k ck A5 (n - at_) x5 = .agg #[.int .i64 s0, .int .i64 s1, .int .i64 s2, .bool g0, .bool g1, .bool g2, .bool g3, .slice A k ck, .slice A5 (n - at_) x5]) := Lib.hid (by
            have h1 := HSS.out; have h2 := HGG.out; have h3 := HX6.out
            unfold segV dec
            simp only
            rw [← h3, ← h1.1, ← h1.2.1, ← h1.2.2, ← h2.1, ← h2.2.1, ← h2.2.2.1, ← h2.2.2.2])
          have h6bd := x61
          rw [← hW6]
          clear hW6 hb6 hx5 U8 Uf8 T8 Tf8 hxr
          obtain ⟨lV, V0, V1, V2, V3, V4, V5, V6, V7, V8, Vs⟩ := (HX6b.out).cells; have Vf0 := Vs 0; have Vf1 := Vs 1; have Vf2 := Vs 2; have Vf3 := Vs 3; have Vf4 := Vs 4; have Vf5 := Vs 5; have Vf6 := Vs 6; have Vf7 := Vs 7; have Vf8 := Vs 8; clear Vs
          have hvx := cell_of_one HX6c.out
          by_cases hft : fault (dec zs) = 0
          · have HE : Hid (Calls Try.prog 10 #[.agg #[.int .i64 s0, .int .i64 s1, .int .i64 s2, .bool g0, .bool g1, .bool g2, .bool g3, .slice A k ck, .slice A5 (n - at_) x5]] W6 (RetE W6 n (bytesOf (dec zs)))) := Lib.hid (by
              have := refenc_ok (dec zs) A k ck A5 (n - at_) x5 n W6 HSO.out.is hft (by have := HAT.out; omega)
              rwa [HV.out] at this)
            by_cases h15 : x6 ≤ 15
            · exact absurd h15 (by have := HHhC.out; have := HX6.out; omega)
            · have HRB : Hid (readB zs = false) := Lib.hid (by rw [readB, ← HX6.out]; simp; intro; omega)
              have HK : Hid (codeD zs = 4) := Lib.hid (codeD_form (by rw [HN.out]; omega) HS8.out (.inl HRB.out))
              have hne : bytesOf (dec zs) ≠ zs := bytes_dec_ne zs HB.out.1 (by rw [HN.out]; omega) (by rw [HQ.out, HN.out]; exact hlen) (by rw [← HX6.out]; omega)
              obtain ⟨X, hX⟩ : ∃ X, X = bytesOf (dec zs) := ⟨_, rfl⟩
              rw [← hX] at HE hne
              have HNE := Lib.hid hne
              clear hft hX hne
              go_upto_region 19 with (go_at_call 10; refine HE.out.mono ?_; rintro e w7 ⟨A7, c7, rfl, ho7, hb7⟩; obtain ⟨g7, rfl, hg7, hg7l⟩ := ho7.some_ (by omega); have HO7 := Lib.hid ho7; have HB7 := Lib.hid hb7; clear ho7 hb7)
              have hb7w := HWW.out.trans (HB7.out.mono HWW.out.size)
              have HB7w := Lib.hid hb7w
              have HR7 := Lib.hid (box9_below HR6.out HB7.out)
              have hvx7 := (HB7.out.cell (p := ⟨w.heap.size, 0, none⟩) (lt_of_block HX6c.out)).trans hvx
              have q1 := run_convert_bytes_arg (P := Try.prog) w7 23 5 Try.underlying23 Try.underlying5 g7 0 n c7 X HO7.out.2.1 (bs_cells HO7.out.bs HO7.out.2.1) 9 Try.underlying9
              have q2 := run_convert_bytes_arg (P := Try.prog) w7 23 5 Try.underlying23 Try.underlying5 b o n c zs HN.out (bs_cells (HB.out.below hb7w) HN.out) 9 Try.underlying9
              have d1 : ((strOfNums X).toList == (strOfNums zs).toList) = false := by
                rw [beq_eq_false_iff_ne, ByteArray.toList_eq, ByteArray.toList_eq]
                exact fun e => HNE.out (strOfNums_inj HO7.out.1 HB.out.1 e)
              clear hb7w V0 V1 V2 V3 V4 V5 V6 V7 V8 Vf0 Vf1 Vf2 Vf3 Vf4 Vf5 Vf6 Vf7 Vf8 hvx
              go_upto_if 119 with (fail)
              clear q1 q2 HX6 HGG HWD HFB HS8 zeq n8 n9 HBX HRc HXc hc6 HSS HE HAT HBD HDL HOR HO5 HX5 HB5 HR2 HX2 HBXr HBWr hRr HX6b HR6 HX6c HBW HB6
              obtain ⟨lR, R0, R1, R2, R3, R4, R5, R6, R7, R8, Rs⟩ := (HR7.out).cells; have Rf0 := Rs 0; have Rf1 := Rs 1; have Rf2 := Rs 2; have Rf3 := Rs 3; have Rf4 := Rs 4; have Rf5 := Rs 5; have Rf6 := Rs 6; have Rf7 := Rs 7; have Rf8 := Rs 8; clear Rs
              go_wp2
              obtain ⟨wf, hwf⟩ : ∃ wf, wf = (((((((((w7.setCell ⟨(w.heap.size + 1), 0, none⟩ (.int .i64 0)).setCell ⟨(w.heap.size + 1), 1, none⟩ (.int .i64 0)).setCell ⟨(w.heap.size + 1), 2, none⟩ (.int .i64 0)).setCell ⟨(w.heap.size + 1), 3, none⟩ (.bool false)).setCell ⟨(w.heap.size + 1), 4, none⟩ (.bool false)).setCell ⟨(w.heap.size + 1), 5, none⟩ (.bool false)).setCell ⟨(w.heap.size + 1), 6, none⟩ (.bool false)).setCell ⟨(w.heap.size + 1), 7, none⟩ (.slice none 0 0)).setCell ⟨(w.heap.size + 1), 8, none⟩ (.slice none 0 0)) := ⟨_, rfl⟩
              have hf : Box9 wf (w.heap.size + 1) (.int .i64 0) (.int .i64 0) (.int .i64 0) (.bool false) (.bool false) (.bool false) (.bool false) (.slice none 0 0) (.slice none 0 0) := by rw [hwf]; exact box9_store HR7.out _ _ _ _ _ _ _ _ _
              have hbf : Below w.heap.size w wf := by rw [hwf]; exact below_store HB7w.out (Nat.le_succ _) _ _ _ _ _ _ _ _ _
              obtain ⟨-, r0, r1, r2, r3, r4, r5, r6, r7, r8, -⟩ := hf.cells
              rw [← hwf]
              refine end_ret (v := .tuple #[.agg #[.int .i64 0, .int .i64 0, .int .i64 0, .bool false, .bool false, .bool false, .bool false, .slice none 0 0, .slice none 0 0], .int .i64 4]) (by simp [results, Try.results13, go_sem, r0, r1, r2, r3, r4, r5, r6, r7, r8]) ?_
              exact ret_bad hbf HK.out (by decide)
          · exact absurd HHhF.out hft
    · exact absurd (by rw [← HQ.out]; exact HHhL.out) hlen

end Go.Proofs.Ytgmpablmkpamaaa
