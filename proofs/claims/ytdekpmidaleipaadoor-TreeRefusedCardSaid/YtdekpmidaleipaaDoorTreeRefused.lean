/-
  packthreadkeep.TreeRefused.
-/
import Derived.Test.YtdekpmidaleipaaDoorTJobs
import Derived.Test.YtdekpmidaleipaaDoorTGrown
import Derived.Deep.DeepCutAuto
import Derived.Deep.CutBlock
import Derived.Deep.RegionHeld3
import Derived.BigRegion
import Derived.RegionTactic
namespace Go.Proofs.YtdekpmidaleipaaDoor
open Go.RowKit Go.Maps
set_option linter.unusedVariables false
set_option linter.unusedSimpArgs false

set_option maxRecDepth 100000 in
set_option maxHeartbeats 8000000 in
theorem treeRefused_any (L : Option Addr) (n c : Nat) (l : List Jv) (w : World) (hb : Ls jbS w L l) (hl : l.length = n) (hin : JIn w l) (hn : n ≤ 100000000000000) :
    Calls Tryd.prog 4 #[.slice L n c] w fun e w' => e = .returned (.bool true) ∧ Below w.heap.size w w' := by
  have HB := Lib.hid hb
  have HN := Lib.hid hl
  have HI := Lib.hid hin
  clear hb hl hin
  go_enter Tryd.func4, Tryd.ntmps4
  go_wp2_with (first
    | (go_at_call 9; refine (acts_any L n c 80 l w HB.out HN.out HI.out hn (by omega)).mono ?_; rintro e w1 ⟨k, A1, c1, xs, rfl, hk, ho1, hi1, hb1⟩; have HO1 := Lib.hid ho1; have HI1 := Lib.hid hi1; have HB1 := Lib.hid hb1; clear ho1 hi1 hb1)
    | (go_at_call 15; refine (grown_any A1 k c1 xs w1 (by omega) HO1.out.ls HO1.out.1 HI1.out.acin).mono ?_; rintro e w2 ⟨A2, c2, m2, ys, rfl, hm2, ho2, hs2, he2, hb2⟩; have HM2 := Lib.hid hm2; have HO2 := Lib.hid ho2; have HS2 := Lib.hid hs2; have HE2 := Lib.hid he2; have HB2 := Lib.hid hb2; clear hm2 ho2 hs2 he2 hb2))
  obtain rfl : m2 = k := by rw [HM2.out, seenT_len, List.length_map, HO1.out.1]
  go_loopw [6, 7, 8] (fun f g i wr => ∃ (j : Nat) (Af : Option Addr) (cf m : Nat) (Ag : Option Addr) (cg : Nat), j ≤ m2 ∧ i = .int .i64 (j : Int) ∧ f = .slice Af m cf ∧ g = .slice Ag m cg ∧ OwnL acS 36 wr w2.heap.size Af m cf ((okK xs ys j).map Prod.fst) ∧ OwnL seS 32 wr w2.heap.size Ag m cg ((okK xs ys j).map Prod.snd) ∧ Apart (.slice Af m cf) (.slice Ag m cg) ∧ Below w2.heap.size w2 wr) (fun _ _ i _ => m2 - (intOf i).toNat)
  case atStart => exact ⟨0, none, 0, 0, none, 0, Nat.zero_le _, rfl, rfl, rfl, OwnL.nil _ _, OwnL.nil _ _, Apart.nil _ _ _, Below.refl _ _⟩
  case round =>
    obtain ⟨j, Af, cf, m, Ag, cg, hj, rfl, rfl, rfl, hof, hog, hap, hbw⟩ := hrel
    have HOF := Lib.hid hof
    have HOG := Lib.hid hog
    have HAP := Lib.hid hap
    have HBW := Lib.hid hbw
    have hmj : m ≤ j := by have := okK_len xs ys j; have h2 := hof.1; rw [List.length_map] at h2; omega
    clear hof hog hap hbw
    by_cases hlt : j < m2
    · have hji : (j : Int) < (m2 : Int) := by omega
      obtain ⟨x, hx⟩ : ∃ x, xs[j]? = some x := ⟨_, List.getElem?_eq_getElem (by rw [HO1.out.1]; exact hlt)⟩
      obtain ⟨y, hy⟩ : ∃ y, ys[j]? = some y := ⟨_, List.getElem?_eq_getElem (by rw [HO2.out.1]; exact hlt)⟩
      obtain ⟨b1, o1, rfl, hl1, hc1⟩ := (HO1.out.ls.below (HB2.out)).at j x hx
      obtain ⟨b2, o2, rfl, hl2, hc2⟩ := HO2.out.ls.at j y hy
      have f0 := (HBW.out.cell (p := ⟨b1, o1 + j * 6 + 0, none⟩) hl1).trans (hc1 0 (.int .i64 x.a.kind) rfl)
      have f1 := (HBW.out.cell (p := ⟨b1, o1 + j * 6 + 1, none⟩) hl1).trans (hc1 1 (.string (tx x.a.path)) rfl)
      have f2 := (HBW.out.cell (p := ⟨b1, o1 + j * 6 + 2, none⟩) hl1).trans (hc1 2 (.string (tx x.a.to)) rfl)
      have f3 := (HBW.out.cell (p := ⟨b1, o1 + j * 6 + 3, none⟩) hl1).trans (hc1 3 (.int .i64 x.a.at_) rfl)
      have f4 := (HBW.out.cell (p := ⟨b1, o1 + j * 6 + 4, none⟩) hl1).trans (hc1 4 (.int .i64 x.a.count) rfl)
      have f5 := (HBW.out.cell (p := ⟨b1, o1 + j * 6 + 5, none⟩) hl1).trans (hc1 5 (.slice x.D x.m x.d) rfl)
      simp only [Nat.add_zero] at f0
      have lb1 := Nat.lt_of_lt_of_le hl1 HBW.out.size
      have hK := okK_succ hx hy
      have HY : Hid (∀ wx : World, Below w2.heap.size w2 wx → (b2 < wx.heap.size) ∧ wx.cell? ⟨b2, o2 + j * 5, none⟩ = some (.int .i64 y.s.code) ∧ wx.cell? ⟨b2, o2 + j * 5 + 1, none⟩ = some (.int .i64 y.s.kind) ∧ wx.cell? ⟨b2, o2 + j * 5 + 2, none⟩ = some (.int .i64 y.s.size) ∧ wx.cell? ⟨b2, o2 + j * 5 + 3, none⟩ = some (.slice y.A y.n y.c) ∧ wx.cell? ⟨b2, o2 + j * 5 + 4, none⟩ = some (.slice y.N y.m y.d)) := Lib.hid (fun wx hw => ⟨Nat.lt_of_lt_of_le hl2 hw.size, (hw.cell (p := ⟨b2, o2 + j * 5, none⟩) hl2).trans (hc2 0 (.int .i64 y.s.code) rfl), (hw.cell (p := ⟨b2, o2 + j * 5 + 1, none⟩) hl2).trans (hc2 1 (.int .i64 y.s.kind) rfl), (hw.cell (p := ⟨b2, o2 + j * 5 + 2, none⟩) hl2).trans (hc2 2 (.int .i64 y.s.size) rfl), (hw.cell (p := ⟨b2, o2 + j * 5 + 3, none⟩) hl2).trans (hc2 3 (.slice y.A y.n y.c) rfl), (hw.cell (p := ⟨b2, o2 + j * 5 + 4, none⟩) hl2).trans (hc2 4 (.slice y.N y.m y.d) rfl)⟩)
      obtain ⟨lb2, g0, g1, g2, g3, g4⟩ := HY.out wr HBW.out
      clear hc1 hc2 hx hy hl1 hl2
      by_cases hcode : y.s.code = 0
      · rw [if_pos hcode] at hK
        have hci : (y.s.code == 0) = true := by simp [hcode]
        have HK1 : Hid ((okK xs ys (j + 1)).map Prod.fst = (okK xs ys j).map Prod.fst ++ [x]) := Lib.hid (by rw [hK, List.map_append]; rfl)
        have HK2 : Hid ((okK xs ys (j + 1)).map Prod.snd = (okK xs ys j).map Prod.snd ++ [y]) := Lib.hid (by rw [hK, List.map_append]; rfl)
        clear hK hcode
        go_wp2_with (first
          | (at_builtin; refine wpList_appL (F := acS) rfl _ (.tmp 33) (.tmp 38) 24 rfl _ 80 Tryd.underlying24 acInfo rfl w2.heap.size Af m cf _ rfl (HOF.out.below (ba1 _ _)) (some ⟨wr.heap.size, 0, none⟩) 1 1 [x] rfl (ls_new wr _ _ _ rfl _ rfl) rfl (m + 1) rfl (by omega) (by omega) (by have := HBW.out.size; simp; omega) ?_; intro A8 c8 w8 ho8 hb8 hs8; have HO8 := Lib.hid ho8; have HA8 := Lib.hid (HAP.out.symm.grow hs8 (fun q hq => Nat.lt_of_lt_of_le (HOG.out.lt q hq).2 (ba1 wr _).size)); have HG8 := Lib.hid ((HOG.out.below (ba1 _ _)).beside hs8 HAP.out.symm); have HB8 := Lib.hid ((HBW.out.alloc HBW.out.size _).trans hb8); clear ho8 hb8 hs8; obtain ⟨ub2, u0, u1, u2, u3, u4⟩ := HY.out w8 HB8.out)
          | (at_builtin; refine wpList_appL (F := seS) rfl _ (.tmp 40) (.tmp 45) 39 rfl _ 72 Tryd.underlying39 seInfo rfl w2.heap.size Ag m cg _ rfl (HG8.out.below (ba1 _ _)) (some ⟨w8.heap.size, 0, none⟩) 1 1 [y] rfl (ls_new w8 _ _ _ rfl _ rfl) rfl (m + 1) rfl (by omega) (by omega) (by have := HB8.out.size; simp; omega) ?_; intro A9 c9 w9 ho9 hb9 hs9; have HO9 := Lib.hid ho9; have HA9 := Lib.hid (HA8.out.symm.grow hs9 (fun q hq => Nat.lt_of_lt_of_le (HO8.out.lt q hq).2 (ba1 w8 _).size)); have HF9 := Lib.hid ((HO8.out.below (ba1 _ _)).beside hs9 HA8.out.symm); have HB9 := Lib.hid ((HB8.out.alloc HB8.out.size _).trans hb9); clear ho9 hb9 hs9))
        exact ⟨⟨j + 1, A8, c8, m + 1, A9, c9, by omega, by go_num, rfl, rfl, by rw [HK1.out]; exact HF9.out, by rw [HK2.out]; exact HO9.out, HA9.out, HB9.out⟩, by simp [intOf]; omega⟩
      · rw [if_neg hcode, List.append_nil] at hK
        have hci : (y.s.code == 0) = false := by simp [hcode]
        clear hcode
        go_wp2_with fail
        exact ⟨⟨j + 1, Af, cf, m, Ag, cg, by omega, by go_num, rfl, rfl, by rw [hK]; exact HOF.out, by rw [hK]; exact HOG.out, HAP.out, HBW.out⟩, by simp [intOf]; omega⟩
    · obtain rfl : j = m2 := by omega
      have hji : ¬ (j : Int) < (j : Int) := by omega
      have hall := okK_all (ys := ys) HO1.out.1
      rw [hall] at HOF HOG
      have hmlen : ((okP xs ys).map Prod.snd).length = m := HOG.out.1
      have HML := Lib.hid hmlen
      have HAC : Hid (AcIn wr ((okP xs ys).map Prod.fst)) := Lib.hid (fun a ha => by
        obtain ⟨p, hp, rfl⟩ := List.mem_map.1 ha
        rw [← hall] at hp
        exact ((HI1.out.acin.below HB2.out).below (HBW.out)) p.1 (okK_mem hp).1)
      have HSV : Hid (∀ y ∈ (okP xs ys).map Prod.snd, SvIn wr y) := Lib.hid (fun y hy => by
        obtain ⟨p, hp, rfl⟩ := List.mem_map.1 hy
        rw [← hall] at hp
        exact (HE2.out.svin HS2.out (by rw [List.length_map, HO1.out.1]; omega) p.2 (okK_mem hp).2).below HBW.out)
      have HSE : Hid (seenT root0 (((okP xs ys).map Prod.fst).map Acv.a) = ((okP xs ys).map Prod.snd).map Sv.s) := Lib.hid (by
        have := seen_ok xs ys root0 HS2.out
        rw [List.map_map, List.map_map]; exact this)
      clear hall hmlen
      generalize (okP xs ys).map Prod.fst = fs at HOF HAC HSE
      generalize (okP xs ys).map Prod.snd = gs at HOG HSV HSE HML
      go_wp2_with (go_at_call 15; refine (grown_any Af m cf fs wr (by omega) HOF.out.ls HOF.out.1 HAC.out).mono ?_; rintro e w5 ⟨A5, c5, m5, zs, rfl, hm5, ho5, hs5, he5, hb5⟩; have HM5 := Lib.hid hm5; have HO5 := Lib.hid ho5; have HS5 := Lib.hid hs5; have HE5 := Lib.hid he5; have HB5 := Lib.hid hb5; clear hm5 ho5 hs5 he5 hb5)
      obtain rfl : m5 = m := by rw [HM5.out, seenT_len, List.length_map, HOF.out.1]
      have HZV : Hid (∀ z ∈ zs, SvIn w5 z) := Lib.hid (fun z hz => HE5.out.svin HS5.out (by rw [List.length_map, HOF.out.1]; omega) z hz)
      have HGV : Hid (∀ y ∈ gs, SvIn w5 y) := Lib.hid (fun y hy => (HSV.out y hy).below HB5.out)
      have HSS : Hid (zs.map Sv.s = gs.map Sv.s) := Lib.hid (by rw [HS5.out, HSE.out])
      have HOG5 := Lib.hid (HOG.out.below HB5.out)
      go_loopw [11] (fun i wx => ∃ q : Nat, i = .int .i64 (q : Int) ∧ q ≤ m5 ∧ Below w5.heap.size w5 wx) (fun i _ => m5 - (intOf i).toNat)
      case atStart => exact ⟨0, rfl, Nat.zero_le _, Below.refl _ _⟩
      case round =>
        obtain ⟨q, rfl, hq, hbx⟩ := hrel
        have HBX := Lib.hid hbx
        clear hbx
        by_cases hlq : q < m5
        · have hqi : (q : Int) < (m5 : Int) := by omega
          obtain ⟨a, ha⟩ : ∃ a, zs[q]? = some a := ⟨_, List.getElem?_eq_getElem (by rw [HO5.out.1]; exact hlq)⟩
          obtain ⟨b, hb⟩ : ∃ b, gs[q]? = some b := ⟨_, List.getElem?_eq_getElem (by rw [HML.out]; exact hlq)⟩
          have hss : a.s = b.s := by
            have h1 : (zs.map Sv.s)[q]? = some a.s := by rw [List.getElem?_map, ha]; rfl
            rw [HSS.out, List.getElem?_map, hb] at h1
            injection h1 with h1; exact h1.symm
          obtain ⟨b1, o1, rfl, hl1, hc1⟩ := HO5.out.ls.at q a ha
          obtain ⟨b2, o2, rfl, hl2, hc2⟩ := HOG5.out.ls.at q b hb
          have va := (HZV.out a (List.mem_of_getElem? ha)).below HBX.out
          have vb := (HGV.out b (List.mem_of_getElem? hb)).below HBX.out
          obtain ⟨s, A6, n6, c6, N6, m6, d6⟩ := a
          obtain ⟨s', A7, n7, c7, N7, m7, d7⟩ := b
          simp only at hss
          subst hss
          obtain rfl : n6 = n7 := va.2.1.symm.trans vb.2.1
          obtain rfl : m6 = m7 := va.2.2.2.1.symm.trans vb.2.2.2.1
          have f0 := (HBX.out.cell (p := ⟨b1, o1 + q * 5 + 0, none⟩) hl1).trans (hc1 0 (.int .i64 s.code) rfl)
          have f1 := (HBX.out.cell (p := ⟨b1, o1 + q * 5 + 1, none⟩) hl1).trans (hc1 1 (.int .i64 s.kind) rfl)
          have f2 := (HBX.out.cell (p := ⟨b1, o1 + q * 5 + 2, none⟩) hl1).trans (hc1 2 (.int .i64 s.size) rfl)
          have f3 := (HBX.out.cell (p := ⟨b1, o1 + q * 5 + 3, none⟩) hl1).trans (hc1 3 (.slice A6 n6 c6) rfl)
          have f4 := (HBX.out.cell (p := ⟨b1, o1 + q * 5 + 4, none⟩) hl1).trans (hc1 4 (.slice N6 m6 d6) rfl)
          have g0 := (HBX.out.cell (p := ⟨b2, o2 + q * 5 + 0, none⟩) hl2).trans (hc2 0 (.int .i64 s.code) rfl)
          have g1 := (HBX.out.cell (p := ⟨b2, o2 + q * 5 + 1, none⟩) hl2).trans (hc2 1 (.int .i64 s.kind) rfl)
          have g2 := (HBX.out.cell (p := ⟨b2, o2 + q * 5 + 2, none⟩) hl2).trans (hc2 2 (.int .i64 s.size) rfl)
          have g3 := (HBX.out.cell (p := ⟨b2, o2 + q * 5 + 3, none⟩) hl2).trans (hc2 3 (.slice A7 n6 c7) rfl)
          have g4 := (HBX.out.cell (p := ⟨b2, o2 + q * 5 + 4, none⟩) hl2).trans (hc2 4 (.slice N7 m6 d7) rfl)
          simp only [Nat.add_zero] at f0 g0
          have lb1 := Nat.lt_of_lt_of_le hl1 HBX.out.size
          have lb2 := Nat.lt_of_lt_of_le hl2 HBX.out.size
          have VA := Lib.hid (va.below (Below.refl _ _).drew)
          have VB := Lib.hid (vb.below (Below.refl _ _).drew)
          clear va vb hc1 hc2 ha hb hl1 hl2
          go_wp2_with fail
          go_cut [69] (fun v wx => v = .bool false ∧ Below wr.heap.size wr wx)
          case first =>
            go_region_law (go_simp; go_at_call 16; (with_reducible refine (sameSeen_ok s A6 A7 N6 N7 n6 c6 m6 d6 c7 d7 wr.drew VA.out VB.out).mono ?_); rintro e w6 ⟨rfl, hb6⟩; have HB6 : Hid (Below wr.heap.size wr w6) := Lib.hid ((Below.refl _ _).drew.trans hb6); clear hb6)
            all_goals
              go_wp2_with fail
              go_meet
              exact ⟨rfl, HB6.out⟩
          case rest =>
            obtain ⟨rfl, hb6⟩ := hcut
            have HB6 := Lib.hid hb6
            clear hb6
            go_wp2_with fail
            exact ⟨⟨q + 1, by go_num, by omega, HBX.out.trans (HB6.out.mono HBX.out.size)⟩, by simp [intOf]; omega⟩
        · obtain rfl : q = m5 := by omega
          have hqi : ¬ (q : Int) < (q : Int) := by omega
          go_wp2_with fail
          go_ret
          exact ⟨rfl, bthen (bthen (bthen (bthen HB1.out HB2.out) HBW.out) HB5.out) HBX.out⟩
theorem walkTreeRefused (A : Option Addr) (n c : Nat) (z : List Jv) (w : World) (hb : Ls jbS w A z) (hn : z.length = n) (hc : n ≤ c) (hr : c ≤ 3518437208782) (hi : JIn w z) :
    Calls Tryd.prog 4 #[.slice A n c] w fun e w' => e = .returned (.bool true) ∧ Below w.heap.size w w' := treeRefused_any A n c z w hb hn hi (by omega)

end Go.Proofs.YtdekpmidaleipaaDoor
