/-
  The document's SegDecoded with the sum right: where more Sacks are told than there are bytes.
-/
import Derived.Test.YtgmpablmkpamaaaDecRef2
namespace Go.Proofs.Ytgmpablmkpamaaa
open Go.RowKit Go.Shelf
set_option linter.unusedVariables false
set_option linter.unusedSimpArgs false

set_option maxRecDepth 100000 in
set_option maxHeartbeats 8000000 in
theorem refdec_len (b o n c : Nat) (zs : List Int) (w : World) (hb : Bs w (some ⟨b, o, none⟩) zs) (hn : zs.length = n) (h10 : 10 ≤ n) (hc : n ≤ c) (h47 : n ≤ 140737488355328) (hs : wd zs 8 = 65535 - fo (tot 0 (bare zs))) (hC : ¬ 10 + 4 * cnt zs ≤ n) :
    Calls Try.prog 13 #[.slice (some ⟨b, o, none⟩) n c] w (RetDec w zs) := by
  have HHhC := Lib.hid hC
  clear hC
  obtain ⟨x6, hx6⟩ : ∃ v, v = zs.getD 6 0 := ⟨_, rfl⟩
  obtain ⟨b', o', x', he, hc6, x60, x61, hx'⟩ := hb.at 6 (by omega)
  injection he with he; injection he with e1 e2; subst e1; subst e2
  rw [hx', ← hx6] at hc6
  rw [hx', ← hx6] at x60 x61
  have HX6 := Lib.hid hx6
  obtain ⟨s0, hs0⟩ : ∃ s, s = wd zs 0 := ⟨_, rfl⟩
  obtain ⟨s1, hs1⟩ : ∃ s, s = wd zs 2 := ⟨_, rfl⟩
  obtain ⟨s2, hs2⟩ : ∃ s, s = wd zs 4 := ⟨_, rfl⟩
  obtain ⟨g0, hg0⟩ : ∃ g, g = bit x6 1 := ⟨_, rfl⟩
  obtain ⟨g1, hg1⟩ : ∃ g, g = bit x6 2 := ⟨_, rfl⟩
  obtain ⟨g2, hg2⟩ : ∃ g, g = bit x6 4 := ⟨_, rfl⟩
  obtain ⟨g3, hg3⟩ : ∃ g, g = bit x6 8 := ⟨_, rfl⟩
  have y0 : (x6 % 2 == 1) = g0 := by rw [hg0, ← bit_eq, Int.ediv_one]
  have y1 : (x6 / 2 % 2 == 1) = g1 := by rw [hg1, ← bit_eq]
  have y2 : (x6 / 4 % 2 == 1) = g2 := by rw [hg2, ← bit_eq]
  have y3 : (x6 / 8 % 2 == 1) = g3 := by rw [hg3, ← bit_eq]
  have HGG := Lib.hid (And.intro hg0 (And.intro hg1 (And.intro hg2 hg3)))
  have n6 : (6 : Int) < (n : Int) := by omega
  clear hx' hx6 hg0 hg1 hg2 hg3
  have HB := Lib.hid hb; have HN := Lib.hid hn
  obtain ⟨v8, hv8⟩ : ∃ v, v = zs.getD 8 0 := ⟨_, rfl⟩
  obtain ⟨v9, hv9⟩ : ∃ v, v = zs.getD 9 0 := ⟨_, rfl⟩
  have b8 := getD_bd zs hb.1 8; have b9 := getD_bd zs hb.1 9
  rw [← hv8] at b8; rw [← hv9] at b9
  obtain ⟨fb, hfb⟩ : ∃ v, v = fo (tot 0 (bare zs)) := ⟨_, rfl⟩
  obtain ⟨b', o', x, he, hc8, _, _, hx8⟩ := hb.at 8 (by omega)
  injection he with he; injection he with e1 e2; subst e1; subst e2
  obtain ⟨b', o', y, he, hc9, _, _, hy9⟩ := hb.at 9 (by omega)
  injection he with he; injection he with e1 e2; subst e1; subst e2
  rw [hx8, ← hv8] at hc8
  rw [hy9, ← hv9] at hc9
  have hbl : b < w.heap.size := block_lt_of_cell hc8
  have hfbb : 0 ≤ fb ∧ fb ≤ 65535 := by
    rw [hfb]
    have hbb : ∀ z ∈ bare zs, 0 ≤ z ∧ z ≤ 255 := by
      unfold bare
      exact mem_set_bd _ (mem_set_bd zs hb.1 8 0 (by omega)) 9 0 (by omega)
    exact fo_bd _ (tot_bd0 _ hbb).1
  have HWD : Hid (256 * v8 + v9 = wd zs 8) := Lib.hid (by rw [hv8, hv9]; rfl)
  have HFB := Lib.hid hfb
  have zw1 : IntKind.i64.wrap v8 = v8 := wraps_i64 _ (by omega) (by omega)
  have zw2 : IntKind.i64.wrap v9 = v9 := wraps_i64 _ (by omega) (by omega)
  have zw3 : IntKind.i64.wrap (256 * v8) = 256 * v8 := wraps_i64 _ (by omega) (by omega)
  have zw4 : IntKind.i64.wrap (256 * v8 + v9) = 256 * v8 + v9 := wraps_i64 _ (by omega) (by omega)
  have zw5 : IntKind.i64.wrap (65535 - fb) = 65535 - fb := wraps_i64 _ (by omega) (by omega)
  have n8 : (8 : Int) < (n : Int) := by omega
  have n9 : (9 : Int) < (n : Int) := by omega
  have HS8 := Lib.hid hs
  have zeq : (256 * v8 + v9 == 65535 - fb) = true := by rw [beq_iff_eq, HWD.out, HFB.out]; exact hs
  clear hb hn hv8 hv9 hfb hx8 hy9 b8 b9 hfbb hs
  go_enter Try.func13, Try.ntmps13
  go_upto_region 3 with fail
  obtain ⟨W0, hW0⟩ : ∃ W0, W0 = (w.alloc (.cells #[.slice (some ⟨b, o, none⟩) n c] 23)).alloc (.cells #[.int .i64 0, .int .i64 0, .int .i64 0, .bool false, .bool false, .bool false, .bool false, .slice none 0 0, .slice none 0 0] 25) := ⟨_, rfl⟩
  have HB0 : Hid (Below w.heap.size w W0) := Lib.hid (by rw [hW0]; exact ba2 _ _ _)
  have HX0 : Hid (W0.heap[w.heap.size]? = some (.cells #[.slice (some ⟨b, o, none⟩) n c] 23 (0, 0))) := Lib.hid (by
    rw [hW0, Below.heap_alloc _ _ _ (by simp)]; exact World.alloc_heap_new w _)
  have HR0 : Hid (Box9 W0 (w.heap.size + 1) (.int .i64 0) (.int .i64 0) (.int .i64 0) (.bool false) (.bool false) (.bool false) (.bool false) (.slice none 0 0) (.slice none 0 0)) := Lib.hid (by
    rw [hW0]
    have := World.alloc_heap_new (w.alloc (.cells #[.slice (some ⟨b, o, none⟩) n c] 23)) (.cells #[.int .i64 0, .int .i64 0, .int .i64 0, .bool false, .bool false, .bool false, .bool false, .slice none 0 0, .slice none 0 0] 25)
    simp only [World.size_alloc] at this
    exact this)
  have hz0 : W0.heap.size = w.heap.size + 2 := by rw [hW0]; simp
  have hcb0 := cell_of_one HX0.out
  rw [← hW0]
  clear hW0
  go_upto_region 4 with (at_builtin; refine wpList_appB rfl _ (.const (.slice none 0 0)) (.tmp 15) rfl W0.heap.size none 0 0 [] rfl (OwnB.nil _ _) (some ⟨b, o, none⟩) n c zs rfl (HB.out.below HB0.out) HN.out n (by omega) (by omega) (Nat.le_refl _) ?_; intro A4 x4 w4 ho4 hb4 _; obtain ⟨g, rfl, hg0, hg1⟩ := ho4.some_ (by omega); have y8 := ho4.cell 8 (by omega); have y9 := ho4.cell 9 (by omega); have s8 := ho4.soft 8; have s9 := ho4.soft 9; have HO4 : Hid (OwnB ((w4.setCell ⟨g, 8, none⟩ (.int .u8 0)).setCell ⟨g, 9, none⟩ (.int .u8 0)) W0.heap.size (some ⟨g, 0, none⟩) n x4 (bare zs)) := Lib.hid ((ho4.put 8 0 (by omega)).1.put 9 0 (by omega)).1; have HBB4 : Hid (Below W0.heap.size W0 ((w4.setCell ⟨g, 8, none⟩ (.int .u8 0)).setCell ⟨g, 9, none⟩ (.int .u8 0))) := Lib.hid ((hb4.trans (ho4.put 8 0 (by omega)).2).trans ((ho4.put 8 0 (by omega)).1.put 9 0 (by omega)).2); clear ho4 hb4)
  go_upto_region 6 with fail
  obtain ⟨W1, hW1⟩ : ∃ W1, W1 = ((w4.setCell ⟨g, 8, none⟩ (.int .u8 0)).setCell ⟨g, 9, none⟩ (.int .u8 0)) := ⟨_, rfl⟩
  rw [← hW1] at HO4 HBB4
  have hcb := (HBB4.out.cell (p := ⟨w.heap.size, 0, none⟩) (by simp only; omega)).trans (cell_of_one HX0.out)
  have hd8 := (HBB4.out.cell (p := ⟨b, o + 8, none⟩) (by simp only; omega)).trans ((HB0.out.cell (p := ⟨b, o + 8, none⟩) hbl).trans hc8)
  have hd9 := (HBB4.out.cell (p := ⟨b, o + 9, none⟩) (by simp only; omega)).trans ((HB0.out.cell (p := ⟨b, o + 9, none⟩) hbl).trans hc9)
  have HR1 : Hid (Box9 W1 (w.heap.size + 1) (.int .i64 0) (.int .i64 0) (.int .i64 0) (.bool false) (.bool false) (.bool false) (.bool false) (.slice none 0 0) (.slice none 0 0)) := Lib.hid ((HBB4.out.block _ (by omega)).trans HR0.out)
  have HX1 : Hid (W1.heap[w.heap.size]? = some (.cells #[.slice (some ⟨b, o, none⟩) n c] 23 (0, 0))) := Lib.hid ((HBB4.out.block _ (by omega)).trans HX0.out)
  have HB1 : Hid (Below w.heap.size w W1) := Lib.hid (bthen HB0.out HBB4.out)
  rw [← hW1]
  clear hW1 y8 y9 s8 s9 hc8 hc9
  have HFO : Hid (∀ k, Calls Try.prog 28 #[.slice (some ⟨g, 0, none⟩) n x4] (W1.drewN k) fun e w' => e = .returned (.int .i64 fb) ∧ w' = W1.drewN k) := Lib.hid (fun k => by
    rw [HFB.out]
    exact (reffold_any _ n x4 (bare zs) _ (HO4.out.bs.below (below_drewN (Below.refl _ _) k)) HO4.out.2.1 (by omega)).mono (fun e w' h => ⟨h.1, h.2.symm⟩))
  go_quiet ((go_at_call 28; exact Calls.quiet_of_same (HFO.out _)))
  obtain ⟨wd1, hwd1⟩ : ∃ wd1, wd1 = W1.drewN nq := ⟨_, rfl⟩
  have hbd : Below W1.heap.size W1 wd1 := by rw [hwd1]; exact below_drewN (Below.refl _ _) _
  have HB2 : Hid (Below w.heap.size w wd1) := Lib.hid (bthen HB1.out hbd)
  have HR2 : Hid (Box9 wd1 (w.heap.size + 1) (.int .i64 0) (.int .i64 0) (.int .i64 0) (.bool false) (.bool false) (.bool false) (.bool false) (.slice none 0 0) (.slice none 0 0)) := Lib.hid (box9_below HR1.out hbd)
  have HX2 : Hid (wd1.heap[w.heap.size]? = some (.cells #[.slice (some ⟨b, o, none⟩) n c] 23 (0, 0))) := Lib.hid ((hbd.block _ (lt_of_block HX1.out)).trans HX1.out)
  rw [← hwd1]
  have hd6 := ((bthen HB0.out HBB4.out).trans ((hbd.mono (bthen HB0.out HBB4.out).size))).cell (p := ⟨b, o + 6, none⟩) hbl |>.trans hc6
  clear hwd1 hcb hd8 hd9 zw1 zw2 zw3 zw4 zw5 hcb0 hbd
  have HP0 : Hid (∀ w', Below wd1.heap.size wd1 w' → Calls Try.prog 32 #[.int .i64 0, .pointer (some ⟨w.heap.size, 0, none⟩)] w' fun e w'' => e = .returned (.int .i64 s0) ∧ Below w'.heap.size w' w'' ∧ w''.cell? ⟨w.heap.size, 0, none⟩ = some (.slice (some ⟨b, o, none⟩) n c) ∧ w''.cell? ⟨b, o + 6, none⟩ = some (.int .u8 x6)) := Lib.hid (fun w' h => by
    have hbs := (HB.out.below HB2.out).below h
    have hbx : w'.cell? ⟨w.heap.size, 0, none⟩ = some (.slice (some ⟨b, o, none⟩) n c) := (h.cell (p := ⟨w.heap.size, 0, none⟩) (lt_of_block HX2.out)).trans (cell_of_one HX2.out)
    have h6' : w'.cell? ⟨b, o + 6, none⟩ = some (.int .u8 x6) := (h.cell (p := ⟨b, o + 6, none⟩) (by simp only; have := HB2.out.size; omega)).trans hd6
    refine (at_any w.heap.size b o n c 0 zs w' hbx hbs HN.out (by omega) h47).mono ?_
    rintro e w'' ⟨h1, k, rfl⟩
    exact ⟨by rw [h1, hs0], below_drewN (Below.refl _ _) _, (drewN_cell _ _ _).trans hbx, (drewN_cell _ _ _).trans h6'⟩)
  have HP1 : Hid (∀ w', Below wd1.heap.size wd1 w' → Calls Try.prog 32 #[.int .i64 2, .pointer (some ⟨w.heap.size, 0, none⟩)] w' fun e w'' => e = .returned (.int .i64 s1) ∧ Below w'.heap.size w' w'' ∧ w''.cell? ⟨w.heap.size, 0, none⟩ = some (.slice (some ⟨b, o, none⟩) n c) ∧ w''.cell? ⟨b, o + 6, none⟩ = some (.int .u8 x6)) := Lib.hid (fun w' h => by
    have hbs := (HB.out.below HB2.out).below h
    have hbx : w'.cell? ⟨w.heap.size, 0, none⟩ = some (.slice (some ⟨b, o, none⟩) n c) := (h.cell (p := ⟨w.heap.size, 0, none⟩) (lt_of_block HX2.out)).trans (cell_of_one HX2.out)
    have h6' : w'.cell? ⟨b, o + 6, none⟩ = some (.int .u8 x6) := (h.cell (p := ⟨b, o + 6, none⟩) (by simp only; have := HB2.out.size; omega)).trans hd6
    refine (at_any w.heap.size b o n c 2 zs w' hbx hbs HN.out (by omega) h47).mono ?_
    rintro e w'' ⟨h1, k, rfl⟩
    exact ⟨by rw [h1, hs1], below_drewN (Below.refl _ _) _, (drewN_cell _ _ _).trans hbx, (drewN_cell _ _ _).trans h6'⟩)
  have HP2 : Hid (∀ w', Below wd1.heap.size wd1 w' → Calls Try.prog 32 #[.int .i64 4, .pointer (some ⟨w.heap.size, 0, none⟩)] w' fun e w'' => e = .returned (.int .i64 s2) ∧ Below w'.heap.size w' w'' ∧ w''.cell? ⟨w.heap.size, 0, none⟩ = some (.slice (some ⟨b, o, none⟩) n c) ∧ w''.cell? ⟨b, o + 6, none⟩ = some (.int .u8 x6)) := Lib.hid (fun w' h => by
    have hbs := (HB.out.below HB2.out).below h
    have hbx : w'.cell? ⟨w.heap.size, 0, none⟩ = some (.slice (some ⟨b, o, none⟩) n c) := (h.cell (p := ⟨w.heap.size, 0, none⟩) (lt_of_block HX2.out)).trans (cell_of_one HX2.out)
    have h6' : w'.cell? ⟨b, o + 6, none⟩ = some (.int .u8 x6) := (h.cell (p := ⟨b, o + 6, none⟩) (by simp only; have := HB2.out.size; omega)).trans hd6
    refine (at_any w.heap.size b o n c 4 zs w' hbx hbs HN.out (by omega) h47).mono ?_
    rintro e w'' ⟨h1, k, rfl⟩
    exact ⟨by rw [h1, hs2], below_drewN (Below.refl _ _) _, (drewN_cell _ _ _).trans hbx, (drewN_cell _ _ _).trans h6'⟩)
  have hmf : ∀ (fn : Fn) (first cap : Array Value) (w : World), (Instr.makeFunc fn first cap).run Try.prog w = .ok (.func fn first cap) w := fun _ _ _ _ => rfl
  have hcb2 := cell_of_one HX2.out
  have HSS := Lib.hid (And.intro hs0 (And.intro hs1 hs2))
  have HD1 : Hid (Below wd1.heap.size wd1 wd1.drew) := Lib.hid ((Below.refl _ _).drew)
  have lB1 : w.heap.size < wd1.heap.size := lt_of_block HX2.out
  have lb1 : b < wd1.heap.size := by omega
  clear hs0 hs1 hs2
  go_upto_region 9 with fail
  go_cut [6] (fun t wc => Read2 wd1 s0 s1 s2 g0 g1 g2 g3 t wc)
  case first =>
    have u1 : IntKind.u8.wrap (x6.tdiv 2) = x6 / 2 := by rw [Int.tdiv_eq_ediv_of_nonneg x60]; exact wraps_u8 _ (by omega) (by omega)
    have u2 : IntKind.u8.wrap (x6.tdiv 4) = x6 / 4 := by rw [Int.tdiv_eq_ediv_of_nonneg x60]; exact wraps_u8 _ (by omega) (by omega)
    have u3 : IntKind.u8.wrap (x6.tdiv 8) = x6 / 8 := by rw [Int.tdiv_eq_ediv_of_nonneg x60]; exact wraps_u8 _ (by omega) (by omega)
    have Y0 : Hid ((x6.tmod 2 == 1) = g0) := Lib.hid (by rw [Int.tmod_eq_emod_of_nonneg (by omega)]; exact y0)
    have Y1 : Hid (((IntKind.u8.wrap (x6.tdiv 2)).tmod 2 == 1) = g1) := Lib.hid (by rw [u1, Int.tmod_eq_emod_of_nonneg (by omega)]; exact y1)
    have Y2 : Hid (((IntKind.u8.wrap (x6.tdiv 4)).tmod 2 == 1) = g2) := Lib.hid (by rw [u2, Int.tmod_eq_emod_of_nonneg (by omega)]; exact y2)
    have Y3 : Hid (((IntKind.u8.wrap (x6.tdiv 8)).tmod 2 == 1) = g3) := Lib.hid (by rw [u3, Int.tmod_eq_emod_of_nonneg (by omega)]; exact y3)
    clear u1 u2 u3 y0 y1 y2 y3
    rename_i q0 K0 q2 J0 K1 q3 q4
    clear q2 K0 q0 HX6 HGG HB HN HWD HFB HS8 zeq n8 n9 HB0 HX0 HR0 hz0 HBB4 HO4 HR1 HX1 HB1 HFO HB2 HR2 HX2 HSS hc6 hmf
    have hcb3 := cell_drew1 hcb2
    have hd63 := cell_drew1 hd6
    go_region_held3 (fun w' => w'.cell? ⟨w.heap.size, 0, none⟩ = some (.slice (some ⟨b, o, none⟩) n c) ∧ w'.cell? ⟨b, o + 6, none⟩ = some (.int .u8 x6)) (first | (with_reducible exact ⟨m1, m2⟩) | (with_reducible exact ⟨hcb3, hd63⟩) | (with_reducible exact ⟨cell_alloc1 m1, cell_alloc1 m2⟩) | (with_reducible exact ⟨cell_alloc1 hcb3, cell_alloc1 hd63⟩) | (with_reducible exact ⟨cell_drew1 (cell_alloc1 hcb2), cell_drew1 (cell_alloc1 hd6)⟩) | (refine ⟨(cell_store9 ?_ _ _ _ _ _ _ _ _ _).trans m1, (cell_store9 ?_ _ _ _ _ _ _ _ _ _).trans m2⟩ <;> (simp only; omega))) (first
      | (go_at_call 32; (with_reducible refine (HP0.out (wd1.alloc (.cells #[.int .i64 0, .int .i64 0, .int .i64 0, .bool false, .bool false, .bool false, .bool false, .slice none 0 0, .slice none 0 0] 25)).drew ((ba1 wd1 _).drew)).mono ?_); rintro e w2 ⟨rfl, hb, m1, m2⟩; have HB2 : Hid (Below wd1.heap.size wd1 w2) := Lib.hid (bthen (ba1 wd1 _).drew hb); have HX2 : Hid (Box9 w2 wd1.heap.size (.int .i64 0) (.int .i64 0) (.int .i64 0) (.bool false) (.bool false) (.bool false) (.bool false) (.slice none 0 0) (.slice none 0 0)) := Lib.hid (box9_below (show Box9 (wd1.alloc (.cells #[.int .i64 0, .int .i64 0, .int .i64 0, .bool false, .bool false, .bool false, .bool false, .slice none 0 0, .slice none 0 0] 25)).drew wd1.heap.size _ _ _ _ _ _ _ _ _ from World.alloc_heap_new wd1 _) hb); have LE2 := HB2.out.size; clear hb)
      | (go_at_call 32; (with_reducible refine (HP0.out wd1.drew (HD1.out)).mono ?_); rintro e w2 ⟨rfl, hb, m1, m2⟩; have HB2 : Hid (Below wd1.heap.size wd1 w2) := Lib.hid (bthen HD1.out hb); have LE2 := HB2.out.size; clear hb)
      | (go_at_call 32; (with_reducible refine (HP1.out w2 (HB2.out)).mono ?_); rintro e w3 ⟨rfl, hb, m1, m2⟩; have HB3 : Hid (Below wd1.heap.size wd1 w3) := Lib.hid (bthen HB2.out hb); have HX3 := Lib.hid (box9_below HX2.out hb); have LE3 := HB3.out.size; clear hb)
      | (go_at_call 32; (with_reducible refine (HP1.out (w2.alloc (.cells #[.int .i64 0, .int .i64 0, .int .i64 0, .bool false, .bool false, .bool false, .bool false, .slice none 0 0, .slice none 0 0] 25)) (HB2.out.alloc HB2.out.size _)).mono ?_); rintro e w3 ⟨rfl, hb, m1, m2⟩; have HB3 : Hid (Below wd1.heap.size wd1 w3) := Lib.hid (bthen (HB2.out.alloc HB2.out.size _) hb); have HX3 : Hid (Box9 w3 w2.heap.size (.int .i64 0) (.int .i64 0) (.int .i64 0) (.bool false) (.bool false) (.bool false) (.bool false) (.slice none 0 0) (.slice none 0 0)) := Lib.hid (box9_below (World.alloc_heap_new _ _) hb); have LE3 := HB3.out.size; clear hb)
      | (go_at_call 32; (with_reducible refine (HP1.out w2 (HB2.out)).mono ?_); rintro e w3 ⟨rfl, hb, m1, m2⟩; have HB3 : Hid (Below wd1.heap.size wd1 w3) := Lib.hid (bthen HB2.out hb); have LE3 := HB3.out.size; clear hb)
      | (go_at_call 32; (with_reducible refine (HP2.out w3 (HB3.out)).mono ?_); rintro e w4 ⟨rfl, hb, m1, m2⟩; have HB4 : Hid (Below wd1.heap.size wd1 w4) := Lib.hid (bthen HB3.out hb); have HX4 := Lib.hid (box9_below HX3.out hb); obtain ⟨lS, k0, k1, k2, k3, k4, k5, k6, k7, k8, ks⟩ := HX4.out.cells; have f0 := ks 0; have f1 := ks 1; have f2 := ks 2; have f3 := ks 3; have f4 := ks 4; have f5 := ks 5; have f6 := ks 6; have f7 := ks 7; have f8 := ks 8; clear ks; clear hb)
      | (go_at_call 32; (with_reducible refine (HP2.out (w3.alloc (.cells #[.int .i64 0, .int .i64 0, .int .i64 0, .bool false, .bool false, .bool false, .bool false, .slice none 0 0, .slice none 0 0] 25)) (HB3.out.alloc HB3.out.size _)).mono ?_); rintro e w4 ⟨rfl, hb, m1, m2⟩; have HB4 : Hid (Below wd1.heap.size wd1 w4) := Lib.hid (bthen (HB3.out.alloc HB3.out.size _) hb); have HX4 : Hid (Box9 w4 w3.heap.size (.int .i64 0) (.int .i64 0) (.int .i64 0) (.bool false) (.bool false) (.bool false) (.bool false) (.slice none 0 0) (.slice none 0 0)) := Lib.hid (box9_below (World.alloc_heap_new _ _) hb); obtain ⟨lS, k0, k1, k2, k3, k4, k5, k6, k7, k8, ks⟩ := HX4.out.cells; have f0 := ks 0; have f1 := ks 1; have f2 := ks 2; have f3 := ks 3; have f4 := ks 4; have f5 := ks 5; have f6 := ks 6; have f7 := ks 7; have f8 := ks 8; clear ks; clear hb)
      | (go_at_call 32; (with_reducible refine (HP2.out w3 (HB3.out)).mono ?_); rintro e w4 ⟨rfl, hb, m1, m2⟩; have HB4 : Hid (Below wd1.heap.size wd1 w4) := Lib.hid (bthen HB3.out hb); have LE4 := HB4.out.size; clear hb))
    all_goals
      simp only [Y0.out, Y1.out, Y2.out, Y3.out]
      go_wp2_with fail
      go_meet
      unfold Read2
      first
        | (have LE := Nat.le_refl wd1.heap.size; with_reducible exact ⟨_, rfl, LE, box9_store HX4.out _ _ _ _ _ _ _ _ _, below_store HB4.out LE _ _ _ _ _ _ _ _ _⟩)
        | (have LE := HB2.out.size; with_reducible exact ⟨_, rfl, LE, box9_store HX4.out _ _ _ _ _ _ _ _ _, below_store HB4.out LE _ _ _ _ _ _ _ _ _⟩)
        | (have LE := HB3.out.size; with_reducible exact ⟨_, rfl, LE, box9_store HX4.out _ _ _ _ _ _ _ _ _, below_store HB4.out LE _ _ _ _ _ _ _ _ _⟩)
        | (have LE := HB4.out.size; have HXn : Box9 (w4.alloc (.cells #[.int .i64 s0, .int .i64 s1, .int .i64 s2, .bool g0, .bool g1, .bool g2, .bool g3, .slice none 0 0, .slice none 0 0] 25)) w4.heap.size (.int .i64 s0) (.int .i64 s1) (.int .i64 s2) (.bool g0) (.bool g1) (.bool g2) (.bool g3) (.slice none 0 0) (.slice none 0 0) := World.alloc_heap_new w4 _; have HBn := HB4.out.alloc LE (.cells #[.int .i64 s0, .int .i64 s1, .int .i64 s2, .bool g0, .bool g1, .bool g2, .bool g3, .slice none 0 0, .slice none 0 0] 25); with_reducible exact ⟨_, rfl, LE, HXn, HBn⟩)
  case rest =>
    obtain ⟨S, rfl, hS, hbox, hbel⟩ := hcut
    obtain ⟨b', o', y, he, hc7, y0, y1, hy⟩ := ((HB.out.below HB2.out).below hbel).at 7 (by rw [HN.out]; omega)
    injection he with he; injection he with e1 e2; subst e1; subst e2
    obtain ⟨q, rfl⟩ : ∃ q : Nat, y = (q : Int) := ⟨y.toNat, by omega⟩
    have HQ : Hid (cnt zs = q) := Lib.hid (by rw [cnt, ← hy]; rfl)
    have hq255 : q ≤ 255 := by omega
    have n7 : (7 : Int) < (n : Int) := by omega
    have hRl : w.heap.size + 1 < wd1.heap.size := lt_of_block HR2.out
    have HXc : Hid (wc.heap[w.heap.size]? = some (.cells #[.slice (some ⟨b, o, none⟩) n c] 23 (0, 0))) := Lib.hid ((hbel.block _ lB1).trans HX2.out)
    have HRc : Hid (Box9 wc (w.heap.size + 1) (.int .i64 0) (.int .i64 0) (.int .i64 0) (.bool false) (.bool false) (.bool false) (.bool false) (.slice none 0 0) (.slice none 0 0)) := Lib.hid ((hbel.block _ hRl).trans HR2.out)
    have hxc := cell_of_one HXc.out
    have HBX := Lib.hid hbox; have HBE := Lib.hid hbel
    have HBW : Hid (Below w.heap.size w wc) := Lib.hid (HB2.out.trans (hbel.mono HB2.out.size))
    clear hbox hbel hy hcb2 hd6 HP0 HP1 HP2 hmf HD1 HB0 HX0 HR0 HBB4 HO4 HR1 HX1 HB1 HFO
    obtain ⟨lR, R0, R1, R2, R3, R4, R5, R6, R7, R8, Rs⟩ := (HRc.out).cells; have Rf0 := Rs 0; have Rf1 := Rs 1; have Rf2 := Rs 2; have Rf3 := Rs 3; have Rf4 := Rs 4; have Rf5 := Rs 5; have Rf6 := Rs 6; have Rf7 := Rs 7; have Rf8 := Rs 8; clear Rs
    by_cases hlen : 10 + 4 * q ≤ n
    · exact absurd (by rw [HQ.out]; exact hlen) HHhC.out
    · have hrb : Hid (readB zs = false) := Lib.hid (by rw [readB, HQ.out, HN.out]; simp; intro; omega)
      have HK : Hid (codeD zs = 4) := Lib.hid (codeD_form (by rw [HN.out]; omega) HS8.out (.inl hrb.out))
      go_wp2
      obtain ⟨wf, hwf⟩ : ∃ wf, wf = (((((((((wc.setCell ⟨(w.heap.size + 1), 0, none⟩ (.int .i64 0)).setCell ⟨(w.heap.size + 1), 1, none⟩ (.int .i64 0)).setCell ⟨(w.heap.size + 1), 2, none⟩ (.int .i64 0)).setCell ⟨(w.heap.size + 1), 3, none⟩ (.bool false)).setCell ⟨(w.heap.size + 1), 4, none⟩ (.bool false)).setCell ⟨(w.heap.size + 1), 5, none⟩ (.bool false)).setCell ⟨(w.heap.size + 1), 6, none⟩ (.bool false)).setCell ⟨(w.heap.size + 1), 7, none⟩ (.slice none 0 0)).setCell ⟨(w.heap.size + 1), 8, none⟩ (.slice none 0 0)) := ⟨_, rfl⟩
      have hf : Box9 wf (w.heap.size + 1) (.int .i64 0) (.int .i64 0) (.int .i64 0) (.bool false) (.bool false) (.bool false) (.bool false) (.slice none 0 0) (.slice none 0 0) := by rw [hwf]; exact box9_store HRc.out _ _ _ _ _ _ _ _ _
      have hbf : Below w.heap.size w wf := by rw [hwf]; exact below_store HBW.out (Nat.le_succ _) _ _ _ _ _ _ _ _ _
      obtain ⟨-, r0, r1, r2, r3, r4, r5, r6, r7, r8, -⟩ := hf.cells
      rw [← hwf]
      refine end_ret (v := .tuple #[.agg #[.int .i64 0, .int .i64 0, .int .i64 0, .bool false, .bool false, .bool false, .bool false, .slice none 0 0, .slice none 0 0], .int .i64 4]) (by simp [results, Try.results13, go_sem, r0, r1, r2, r3, r4, r5, r6, r7, r8]) ?_
      exact ret_bad hbf HK.out (by decide)

end Go.Proofs.Ytgmpablmkpamaaa
