/-
  The document's DeltaPatch.
-/
import Derived.Test.YtdilpebhecmjmaaDelPatch
import Derived.Test.YtdilpebhecmjmaaAppG
namespace Go.Proofs.Ytdilpebhecmjmaa
open Go.RowKit
set_option linter.unusedVariables false
set_option linter.unusedSimpArgs false

theorem refP_size (A : Option Addr) (n c : Nat) (L : Option Addr) (m d : Nat) (old : List Int) (l : List Pc) (w : World) (hn : old.length = n) (hm : l.length = m) (h : 2048 < n ∨ 2048 < m) :
    Calls Try.prog 12 #[.slice A n c, .slice L m d] w (RetPt w (patchT old l)) := by
  have HR : Hid (patchT old l = (1, [])) := Lib.hid (by unfold patchT; rw [if_pos (by rw [hn, hm]; exact h)])
  clear hn hm
  by_cases h1 : 2048 < n
  · have h2 : (2048 : Int) < (n : Int) := by omega
    go_enter Try.func12, Try.ntmps12
    go_wp2
    go_ret2
    exact .bad HR.out (Below.refl _ _)
  · have h2 : ¬ (2048 : Int) < (n : Int) := by omega
    have h3 : (2048 : Int) < (m : Int) := by omega
    go_enter Try.func12, Try.ntmps12
    go_wp2
    go_ret2
    exact .bad HR.out (Below.refl _ _)

/-- how far the walk has come -/
def RPx (w : World) (m : Nat) (old : List Int) (l : List Pc) (rt : Int × List Int) (o i : Value) (wr : World) : Prop :=
  ∃ (k q : Nat) (A : Option Addr) (c : Nat) (now : List Int), k ≤ m ∧ i = .int .i64 k ∧ o = .slice A q c ∧ OwnL byS 5 wr w.heap.size A q c now ∧ q ≤ 2048 ∧ rt = goP old (l.drop k) now ∧ Below w.heap.size w wr

set_option maxRecDepth 100000 in
set_option maxHeartbeats 16000000 in
theorem refP_ok (A : Option Addr) (n c : Nat) (L : Option Addr) (m d : Nat) (old : List Int) (l : List Pv) (w : World) (ha : Ls byS w A old) (hn : old.length = n) (hl : Ls pcS w L l) (hm : l.length = m)
    (hin : PIn w l) (hnum : PNum l) (h1 : n ≤ 2048) (h2 : m ≤ 2048) :
    Calls Try.prog 12 #[.slice A n c, .slice L m d] w (RetPt w (patchT old (l.map Pv.p))) := by
  have HA := Lib.hid ha
  have HN := Lib.hid hn
  have HL := Lib.hid hl
  have HM := Lib.hid hm
  have HI := Lib.hid hin
  have HU := Lib.hid hnum
  obtain ⟨rt, hrt⟩ : ∃ r, r = patchT old (l.map Pv.p) := ⟨_, rfl⟩
  have HR0 : Hid (rt = goP old (l.map Pv.p) []) := Lib.hid (by rw [hrt]; unfold patchT; rw [if_neg (by rw [List.length_map, hn, hm]; omega)])
  rw [← hrt]
  have k1 : ¬ (2048 : Int) < (n : Int) := by omega
  have k2 : ¬ (2048 : Int) < (m : Int) := by omega
  clear ha hn hl hm hin hnum hrt
  go_enter Try.func12, Try.ntmps12
  go_wp2
  go_loopw [6, 20] (fun o i wr => RPx w m old (l.map Pv.p) rt o i wr) (fun _ i _ => m - (intOf i).toNat)
  case atStart => exact ⟨0, 0, none, 0, [], Nat.zero_le _, rfl, rfl, OwnL.nil _ _, Nat.zero_le _, HR0.out, Below.refl _ _⟩
  case round =>
    obtain ⟨k, q, A1, c1, now, hk, rfl, rfl, hown, hq, hrt, hbw⟩ := hrel
    have HO := Lib.hid hown
    have HRT := Lib.hid hrt
    have HBW := Lib.hid hbw
    clear hown hrt hbw
    by_cases hlt : k < m
    · obtain ⟨wo, rfl⟩ : ∃ wo, wo = wr := ⟨_, rfl⟩
      obtain ⟨x, hx⟩ : ∃ x, l[k]? = some x := ⟨_, List.getElem?_eq_getElem (by rw [HM.out]; exact hlt)⟩
      obtain ⟨bL, oL, rfl, hbl, hcc⟩ := (HL.out.below HBW.out).at k x hx
      obtain ⟨hi1, hi2, hi3⟩ := HI.out x (List.mem_of_getElem? hx)
      obtain ⟨⟨hf1, hf2⟩, hl1, hl2⟩ := HU.out x (List.mem_of_getElem? hx)
      have HST := Lib.hid (goP_at old (l.map Pv.p) k x.p (by rw [List.getElem?_map, hx]; rfl) now)
      obtain ⟨⟨cp, fr, ln, da⟩, XA, xn, xc⟩ := x
      have g0 := hcc 0 (.bool cp) rfl
      have g1 := hcc 1 (.int .i64 fr) rfl
      have g2 := hcc 2 (.int .i64 ln) rfl
      have g3 := hcc 3 (.slice XA xn xc) rfl
      simp only [pcS, Nat.add_zero] at g0 g1 g2 g3
      simp only at hi1 hi2 hi3 hf1 hf2 hl1 hl2
      have hki : (k : Int) < (m : Int) := by omega
      have HD1 := Lib.hid hi1
      have HD2 := Lib.hid hi2
      have HBX : Hid (Below w.heap.size w (wo.alloc (.cells #[.bool cp, .int .i64 fr, .int .i64 ln, .slice XA xn xc] 39))) := Lib.hid (bthen HBW.out (ba1 _ _))
      have hda : da = [] ↔ xn = 0 := by rw [← hi2]; simp
      clear hcc hx hi1 hi2
      rcases cp with _ | _
      · by_cases hz : fr = 0 ∧ ln = 0
        · obtain ⟨rfl, rfl⟩ := hz
          have HMD : Hid (madeT old ⟨false, 0, 0, da⟩ = (0, da)) := Lib.hid (by simp [madeT])
          obtain ⟨qx, hqx⟩ : ∃ qx, qx = q + xn := ⟨_, rfl⟩
          have hA8 : qx ≤ 140737488355328 := by omega
          have HQX := Lib.hid hqx
          clear hda
          by_cases h9 : 2048 < qx
          · have HE : Hid (rt = (11, [])) := Lib.hid (by rw [HRT.out, HST.out, HMD.out, if_neg (by simp), if_pos (by rw [HO.out.1, HD2.out, ← hqx]; exact h9)])
            have h9i : (2048 : Int) < (qx : Int) := by omega
            clear hqx h9
            go_wp2_with (at_builtin; refine wpList_appG (F := byS) rfl _ (.tmp 86) (.tmp 88) 22 rfl _ 1 Try.underlying22 byInfo rfl w.heap.size A1 q c1 now rfl (HO.out.below (ba1 _ _)) XA xn xc da rfl (HD1.out.below HBX.out) HD2.out qx HQX.out.symm (by omega) (by omega) HBX.out.size ?_; intro A8 c8 w8 ho8 hb8 hs8; have HO8 := Lib.hid ho8; have HB8 := Lib.hid hb8; clear ho8 hb8 hs8)
            go_ret2
            exact .bad HE.out (HBX.out.trans HB8.out)
          · have HE : Hid (rt = goP old ((l.map Pv.p).drop (k + 1)) (now ++ da)) := Lib.hid (by rw [HRT.out, HST.out, HMD.out, if_neg (by simp), if_neg (by rw [HO.out.1, HD2.out, ← hqx]; exact h9)])
            have h9i : ¬ (2048 : Int) < (qx : Int) := by omega
            have hq9' : qx ≤ 2048 := by omega
            clear hqx h9
            go_wp2_with (at_builtin; refine wpList_appG (F := byS) rfl _ (.tmp 86) (.tmp 88) 22 rfl _ 1 Try.underlying22 byInfo rfl w.heap.size A1 q c1 now rfl (HO.out.below (ba1 _ _)) XA xn xc da rfl (HD1.out.below HBX.out) HD2.out qx HQX.out.symm (by omega) (by omega) HBX.out.size ?_; intro A8 c8 w8 ho8 hb8 hs8; have HO8 := Lib.hid ho8; have HB8 := Lib.hid hb8; clear ho8 hb8 hs8)
            refine ⟨⟨k + 1, qx, A8, c8, now ++ da, by omega, by first | rfl | go_num, rfl, HO8.out, hq9', HE.out, HBX.out.trans HB8.out⟩, by simp [intOf]; omega⟩
        · have HMD : Hid (madeT old ⟨false, fr, ln, da⟩ = (4, [])) := Lib.hid (by
            unfold madeT; rw [if_pos]; right; refine ⟨rfl, ?_⟩; simp only
            by_cases h0 : fr = 0
            · exact .inr fun h => hz ⟨h0, h⟩
            · exact .inl h0)
          have HE : Hid (rt = (4, [])) := Lib.hid (by rw [HRT.out, HST.out, HMD.out, if_pos (by simp)])
          clear hda
          by_cases h0 : fr = 0
          · have h3 : ¬ ln = 0 := fun h => hz ⟨h0, h⟩
            subst h0
            clear hz
            go_wp2
            go_ret2
            exact .bad HE.out HBX.out
          · clear hz
            go_wp2
            go_ret2
            exact .bad HE.out HBX.out
      · by_cases hx0 : xn = 0
        · obtain rfl : da = [] := hda.2 hx0
          subst hx0
          clear hda
          by_cases hbad : fr < 0 ∨ ln < 0 ∨ (n : Int) - fr < ln
          · have HMD : Hid (madeT old ⟨true, fr, ln, []⟩ = (2, [])) := Lib.hid (by unfold madeT; rw [if_neg (by simp), if_pos (by rw [HN.out]; exact hbad)])
            have HE : Hid (rt = (2, [])) := Lib.hid (by rw [HRT.out, HST.out, HMD.out, if_pos (by simp)])
            by_cases b1 : fr < 0
            · clear hbad
              go_wp2
              go_ret2
              exact .bad HE.out HBX.out
            by_cases b2 : ln < 0
            · clear hbad
              go_wp2
              go_ret2
              exact .bad HE.out HBX.out
            by_cases b3 : (n : Int) < fr
            · clear hbad
              go_wp2
              go_ret2
              exact .bad HE.out HBX.out
            by_cases b4 : (n : Int) < ln
            · clear hbad
              go_wp2
              go_ret2
              exact .bad HE.out HBX.out
            · have b5 : (n : Int) < fr + ln := by omega
              have hw : IntKind.i64.wrap (fr + ln) = fr + ln := by rw [IntKind.wrap_i64]; omega
              clear hbad
              go_wp2
              go_ret2
              exact .bad HE.out HBX.out
          · obtain ⟨f, rfl⟩ : ∃ f : Nat, fr = (f : Int) := ⟨fr.toNat, by omega⟩
            obtain ⟨j, rfl⟩ : ∃ j : Nat, ln = (j : Int) := ⟨ln.toNat, by omega⟩
            have hfj : f + j ≤ n := by omega
            clear hbad
            have HMD : Hid (madeT old ⟨true, (f : Int), (j : Int), []⟩ = (0, (old.drop f).take j)) := Lib.hid (by unfold madeT; rw [if_neg (by simp), if_neg (by rw [HN.out]; simp only; omega)]; simp)
            obtain ⟨bs, hbs⟩ : ∃ bs, bs = (old.drop f).take j := ⟨_, rfl⟩
            have HBL : Hid (bs.length = j) := Lib.hid (by rw [hbs, List.length_take, List.length_drop, HN.out]; omega)
            rw [← hbs] at HMD
            have HBS := Lib.hid hbs
            clear hbs
            have b1 : ¬ (f : Int) < 0 := by omega
            have b2 : ¬ (j : Int) < 0 := by omega
            have b3 : ¬ (n : Int) < (f : Int) := by omega
            have b4 : ¬ (n : Int) < (j : Int) := by omega
            have hw : IntKind.i64.wrap ((f : Int) + (j : Int)) = (f : Int) + (j : Int) := by rw [IntKind.wrap_i64]; omega
            have b5 : ¬ (n : Int) < (f : Int) + (j : Int) := by omega
            obtain ⟨q9, hq9⟩ : ∃ q, q = wo.heap.size := ⟨_, rfl⟩
            obtain ⟨w6, hw6⟩ : ∃ w6, w6 = wo.alloc (.cells #[.bool true, .int .i64 (f : Int), .int .i64 (j : Int), .slice XA ((0 : Nat)) xc] 39) := ⟨_, rfl⟩
            have HX9 : Hid (Bx 39 w6 q9 #[.bool true, .int .i64 (f : Int), .int .i64 (j : Int), .slice XA ((0 : Nat)) xc]) := Lib.hid (by rw [hw6, hq9]; exact bx_new _ _ _)
            have HB6 : Hid (Below w.heap.size w w6) := Lib.hid (by rw [hw6]; exact HBX.out)
            have HO6 : Hid (OwnL byS 5 w6 w.heap.size A1 q c1 now) := Lib.hid (by rw [hw6]; exact HO.out.below (ba1 _ _))
            have HOF : Hid (Off q9 (.slice A1 q c1)) := Lib.hid (Off.over (fun k hk => (HO.out.lt k hk).2) (by rw [hq9]; exact Nat.le_refl _))
            go_wp2
            rw [← hw6, ← hq9]
            clear hw6 hq9 g0 g1 g2 g3
            go_loopw [6, 9] (fun o i wr => ∃ (t qt : Nat) (A : Option Addr) (c : Nat), t ≤ j ∧ i = .int .i64 t ∧ qt = q + t ∧ o = .slice A qt c ∧ OwnL byS 5 wr w.heap.size A qt c (now ++ bs.take t) ∧ Bx 39 wr q9 #[.bool true, .int .i64 (f : Int), .int .i64 (j : Int), .slice XA ((0 : Nat)) xc] ∧ Off q9 (.slice A qt c) ∧ Below w.heap.size w wr) (fun _ i _ => j - (intOf i).toNat)
            case atStart => exact ⟨0, q, A1, c1, Nat.zero_le _, rfl, rfl, rfl, by simpa using HO6.out, HX9.out, HOF.out, HB6.out⟩
            case round =>
              obtain ⟨t, qt, A2, c2, ht, rfl, hqt, rfl, ho2, hx2, hf2', hb2⟩ := hrel
              have HQT := Lib.hid hqt
              have hqt4 : qt ≤ 4096 := by omega
              have HO2 := Lib.hid ho2
              have HX2 := Lib.hid hx2
              have HF2 := Lib.hid hf2'
              have HB2 := Lib.hid hb2
              have a1 := hx2.cell 1 _ rfl
              have a2 := hx2.cell 2 _ rfl
              have hq9l := hx2.lt
              clear ho2 hx2 hf2' hb2 hqt
              by_cases htj : t < j
              · have hti : (t : Int) < (j : Int) := by omega
                obtain ⟨z, hz⟩ : ∃ z, old[f + t]? = some z := ⟨_, List.getElem?_eq_getElem (by rw [HN.out]; omega)⟩
                obtain ⟨bO, oO, rfl, hbO, hcO⟩ := (HA.out.below HB2.out).one (f + t) z hz rfl (.int .u8 z) rfl
                have HTK : Hid (bs.take (t + 1) = bs.take t ++ [z]) := Lib.hid (by
                  rw [List.take_add_one]
                  have : bs[t]? = some z := by rw [HBS.out, List.getElem?_take, if_pos htj, List.getElem?_drop]; exact hz
                  rw [this]; rfl)
                have hwi : IntKind.i64.wrap ((f : Int) + (t : Int)) = (f : Int) + (t : Int) := by rw [IntKind.wrap_i64]; omega
                have hft1 : (0 : Int) ≤ (f : Int) + (t : Int) := by omega
                have hft2 : (f : Int) + (t : Int) < (n : Int) := by omega
                clear hz
                go_wp2_with (at_builtin; refine wpList_appL (F := byS) rfl _ (.tmp 68) (.tmp 76) 22 rfl _ 1 Try.underlying22 byInfo rfl w.heap.size A2 qt c2 (now ++ bs.take t) rfl (HO2.out.below (ba1 _ _)) (some ⟨wr.heap.size, 0, none⟩) 1 1 [z] rfl (ls_new wr _ _ _ rfl _ rfl) rfl (qt + 1) rfl (by omega) (by omega) (by have := HB2.out.size; simp; omega) ?_; intro A8 c8 w8 ho8 hb8 hs8; have HO8 := Lib.hid ho8; have HB8 := Lib.hid hb8; have HS8 := Lib.hid hs8; clear ho8 hb8 hs8)
                refine ⟨⟨t + 1, qt + 1, A8, c8, by omega, by first | rfl | go_num, by have := HQT.out; omega, rfl, ?_, ?_, ?_, (bthen HB2.out (ba1 _ _)).trans HB8.out⟩, by simp [intOf]; omega⟩
                · rw [HTK.out, ← List.append_assoc]; exact HO8.out
                · exact (HX2.out.below (ba1 _ _)).beside HS8.out HF2.out
                · exact HF2.out.grow HS8.out (by have := HX2.out.lt; simp; omega)
              · obtain rfl : t = j := by omega
                have hti : ¬ (t : Int) < (t : Int) := by omega
                have HAL : Hid (bs.take t = bs) := Lib.hid (List.take_of_length_le (by rw [HBL.out]; exact Nat.le_refl _))
                have hqt' := HQT.out
                by_cases h9 : 2048 < qt
                · have HE : Hid (rt = (11, [])) := Lib.hid (by rw [HRT.out, HST.out, HMD.out, if_neg (by simp), if_pos (by rw [HO.out.1, HBL.out, ← hqt']; exact h9)])
                  have h9i : (2048 : Int) < (qt : Int) := by omega
                  clear hqt' h9
                  go_wp2
                  go_ret2
                  exact .bad HE.out HB2.out
                · have HE : Hid (rt = goP old ((l.map Pv.p).drop (k + 1)) (now ++ bs)) := Lib.hid (by rw [HRT.out, HST.out, HMD.out, if_neg (by simp), if_neg (by rw [HO.out.1, HBL.out, ← hqt']; exact h9)])
                  have h9i : ¬ (2048 : Int) < (qt : Int) := by omega
                  have h9n : qt ≤ 2048 := by omega
                  clear hqt' h9
                  go_wp2
                  refine ⟨⟨k + 1, qt, A2, c2, now ++ bs, by omega, by first | rfl | go_num, rfl, by have := HO2.out; rw [HAL.out] at this; exact this, h9n, HE.out, HB2.out⟩, by simp [intOf]; omega⟩
        · have HMD : Hid (madeT old ⟨true, fr, ln, da⟩ = (4, [])) := Lib.hid (by unfold madeT; rw [if_pos]; left; exact ⟨rfl, fun h => hx0 (hda.1 h)⟩)
          have HE : Hid (rt = (4, [])) := Lib.hid (by rw [HRT.out, HST.out, HMD.out, if_pos (by simp)])
          clear hda
          have hx1 : ¬ (xn : Int) = 0 := by omega
          go_wp2
          go_ret2
          exact .bad HE.out HBX.out
    · obtain rfl : k = m := by omega
      have hki : ¬ (k : Int) < (k : Int) := by omega
      have HE : Hid (rt = (0, now)) := Lib.hid (by rw [HRT.out, List.drop_of_length_le (by rw [List.length_map, HM.out]; exact Nat.le_refl _)]; rfl)
      go_wp2_with fail
      go_ret2
      exact ⟨A1, q, c1, by rw [HE.out]; rfl, by rw [HE.out]; exact HO.out.1.symm, by rw [HE.out]; exact HO.out, HBW.out⟩
theorem refP_any (A : Option Addr) (n c : Nat) (L : Option Addr) (m d : Nat) (old : List Int) (l : List Pv) (w : World) (ha : Ls byS w A old) (hn : old.length = n) (hl : Ls pcS w L l) (hm : l.length = m)
    (hin : PIn w l) (hnum : PNum l) : Calls Try.prog 12 #[.slice A n c, .slice L m d] w (RetPt w (patchT old (l.map Pv.p))) := by
  by_cases h : 2048 < n ∨ 2048 < m
  · exact refP_size A n c L m d old _ w hn (by rw [List.length_map]; exact hm) h
  · exact refP_ok A n c L m d old l w ha hn hl hm hin hnum (by omega) (by omega)

end Go.Proofs.Ytdilpebhecmjmaa
