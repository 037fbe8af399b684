/-
  The document's FrameWrapped and FrameFed.
-/
import Derived.Test.YtmeppeedbnnmjaaRetF
import Derived.Test.YtmeppeedbnnmjaaTool
namespace Go.Proofs.Ytmeppeedbnnmjaa
open Go.RowKit
set_option linter.unusedVariables false
set_option linter.unusedSimpArgs false

theorem wrapped_size (A : Option Addr) (n c : Nat) (w : World) (h : 1024 < n) :
    Calls Try.prog 9 #[.slice A n c] w fun e w' => e = .returned (.tuple #[.slice none 0 0, .int .i64 1]) ∧ w' = w := by
  have h1 : (1024 : Int) < (n : Int) := by omega
  go_enter Try.func9, Try.ntmps9
  go_wp2
  go_ret2
  exact ⟨rfl, rfl⟩
theorem wrapped_ok (A : Option Addr) (n c : Nat) (zs : List Int) (w : World) (hb : Ls byS w A zs) (hn : zs.length = n) (hm : n ≤ 1024) :
    Calls Try.prog 9 #[.slice A n c] w fun e w' => ∃ A' c', e = .returned (.tuple #[.slice A' (4 + n) c', .int .i64 0]) ∧ OwnL byS 5 w' w.heap.size A' (4 + n) c' (wrap1 zs) ∧ Below w.heap.size w w' := by
  have HB := Lib.hid hb
  have HN := Lib.hid hn
  clear hb hn
  have h1 : ¬ (1024 : Int) < (n : Int) := by omega
  have HW : Hid ([0, 0, (n : Int) / 256, (n : Int) % 256] ++ zs = wrap1 zs) := Lib.hid (by rw [wrap1, HN.out])
  go_enter Try.func9, Try.ntmps9
  go_wp2_with (at_builtin; refine wpList_appL (F := byS) rfl _ (.tmp 15) (.tmp 16) 22 rfl _ 1 Try.underlying22 byInfo rfl w.heap.size (some ⟨w.heap.size, 0, none⟩) 4 4 [0, 0, (n : Int) / 256, (n : Int) % 256] rfl (ownL_new w w.heap.size (Nat.le_refl _) _ 4 _ rfl rfl (by omega) _ rfl) A n c zs rfl (HB.out.below (ba1 _ _)) HN.out (4 + n) (by omega) (by omega) (by omega) (by simp) ?_; intro A4 c4 w4 ho4 hb4 hs4; rw [HW.out] at ho4; have O4 := Lib.hid ho4; have HB4 : Hid (Below w.heap.size w w4) := Lib.hid ((ba1 w _).trans hb4); clear ho4 hb4 hs4)
  go_ret2
  exact ⟨A4, c4, rfl, O4.out, HB4.out⟩

theorem fed_state (A : Option Addr) (n c : Nat) (B : Option Addr) (m d : Nat) (w : World) (h : 1027 < n) :
    Calls Try.prog 12 #[.slice A n c, .slice B m d] w fun e w' => e = .returned (.tuple #[.slice none 0 0, .slice none 0 0, .int .i64 10]) ∧ w' = w := by
  have h1 : (1027 : Int) < (n : Int) := by omega
  go_enter Try.func12, Try.ntmps12
  go_wp2
  go_ret3
  exact ⟨rfl, rfl⟩

/-- how far the walk has come -/
def FdX (w : World) (z0 : List Int) (s r i : Value) (wr : World) : Prop :=
  ∃ (j k n : Nat) (fs : List (List Int)) (now : List Int) (A : Option Addr) (c : Nat) (ls : List Lv) (B : Option Addr) (q : Nat), j ≤ z0.length ∧ i = .int .i64 j ∧ s = .slice A k c ∧ r = .slice B n q ∧ k = fs.length ∧ n = now.length ∧ pars (z0.take j) = some (fs, now) ∧
    4 * k + n ≤ j ∧ OwnL byS 5 wr w.heap.size B n q now ∧ Apart (.slice A k c) (.slice B n q) ∧
    OwnL lvS 22 wr w.heap.size A k c ls ∧ ls.map Lv.l = fs ∧ LI wr (fun j => (j < w.heap.size ∨ (Value.slice A k c).ownBlock = some j) ∨ (Value.slice B n q).ownBlock = some j) ls ∧ Below w.heap.size w wr

set_option maxRecDepth 100000 in
set_option maxHeartbeats 2000000 in
theorem fed_any (A : Option Addr) (n c : Nat) (B : Option Addr) (m d : Nat) (ys zs : List Int) (w : World) (ha : Ls byS w A ys) (hb : Ls byS w B zs) (hn : ys.length = n) (hm : zs.length = m) (h : n ≤ 1027) (hmb : m ≤ 10000000) (hoy : octs ys) (hoz : octs zs) :
    Calls Try.prog 12 #[.slice A n c, .slice B m d] w (RetF w (pars (ys ++ zs))) := by
  have h1 : ¬ (1027 : Int) < (n : Int) := by omega
  have HA := Lib.hid ha
  have HB := Lib.hid hb
  have HN := Lib.hid hn
  have HM := Lib.hid hm
  have HO : Hid (octs (ys ++ zs)) := Lib.hid (hoy.app hoz)
  obtain ⟨z0, hz0⟩ : ∃ z, z = ys ++ zs := ⟨_, rfl⟩
  have HZL : Hid (z0.length = n + m) := Lib.hid (by rw [hz0, List.length_append, hn, hm])
  rw [← hz0] at HO ⊢
  have HZ := Lib.hid hz0
  clear ha hb hn hm hoy hoz hz0
  go_enter Try.func12, Try.ntmps12
  go_wp2
  go_loopw [7, 8, 9] (fun s r i wr => FdX w z0 s r i wr) (fun _ _ i _ => n + m - (intOf i).toNat)
  case atStart =>
    exact ⟨0, 0, 0, [], [], none, 0, [], none, 0, Nat.zero_le _, rfl, rfl, rfl, rfl, rfl, by rw [List.take_zero, pars_short (by decide)], Nat.le_refl _, OwnL.nil _ _, Apart.nil _ _ _, OwnL.nil _ _, rfl, LI.nil _ _, Below.refl _ _⟩
  case round =>
    obtain ⟨j, k, r, fs, now, A2, c2, ls, B2, q, hj, rfl, rfl, rfl, hk, hr, hp, hfl, how, hap, howl, hls, hli, hbw⟩ := hrel
    rw [HZL.out] at hj
    have hrest := pars_rest _ _ (Nat.le_refl _) _ _ hp
    have hr27 : r ≤ 1027 := by rw [hr]; exact hrest.2.1
    have HK := Lib.hid hk
    have HR := Lib.hid hr
    have HP := Lib.hid hp
    have HREST := Lib.hid hrest
    have HOW := Lib.hid how
    have HAP := Lib.hid hap
    have HOL := Lib.hid howl
    have HLS := Lib.hid hls
    have HLI := Lib.hid hli
    have HBW := Lib.hid hbw
    clear hk hr hp hrest how hap howl hls hli hbw
    by_cases hlt : j < n + m
    · have hlti : (j : Int) < (n : Int) + (m : Int) := by omega
      obtain ⟨x, hx⟩ : ∃ x, x = z0.getD j 0 := ⟨_, rfl⟩
      have HX : Hid (z0.take (j + 1) = z0.take j ++ [x]) := Lib.hid (by
        rw [List.take_add_one, hx, List.getD_eq_getElem?_getD, List.getElem?_eq_getElem (by rw [HZL.out]; exact hlt)]; rfl)
      have hx0 : 0 ≤ x ∧ x ≤ 255 := by rw [hx]; exact HO.out.get j
      obtain ⟨hx0, hx1⟩ := hx0
      by_cases hjn : j < n
      · have hjni : (j : Int) < (n : Int) := by omega
        obtain ⟨bh, oh, rfl, hbl, hc⟩ := (HA.out.below HBW.out).byte j (by rw [HN.out]; exact hjn)
        have hxe : ys.getD j 0 = x := by rw [hx, HZ.out, List.getD_eq_getElem?_getD, List.getD_eq_getElem?_getD, List.getElem?_append_left (by rw [HN.out]; exact hjn)]
        rw [hxe] at hc
        clear hxe hx
        go_upto_region 11 with (at_builtin; refine wpList_appL (F := byS) rfl _ (.tmp 27) (.tmp 32) 22 rfl _ 1 Try.underlying22 byInfo rfl w.heap.size B2 r q now rfl (HOW.out.below (ba1 _ _)) (some ⟨wr.heap.size, 0, none⟩) 1 1 [x] rfl (ls_new wr _ _ _ rfl _ rfl) rfl (r + 1) rfl (by omega) (by omega) (by have := HBW.out.size; simp; omega) ?_; intro B5 c5 w5 ho5 hb5 hs5; have HAP5 := Lib.hid (HAP.out.grow hs5 (fun j hj => by have := (HOL.out.lt j hj).2; simp; omega)); have HOL5 := Lib.hid ((HOL.out.below (ba1 wr _)).beside hs5 HAP.out); have HLI5 := Lib.hid ((HLI.out.new (ba1 wr _)).grown hb5 hs5); have O5 := Lib.hid ho5; have HB5 : Hid (Below w.heap.size w w5) := Lib.hid ((HBW.out.trans ((ba1 wr _).mono HBW.out.size)).trans hb5); clear ho5 hb5 hs5)
        have hv5 := O5.out.cap
        have hrv : Hid ((now ++ [x]).length = r + 1) := Lib.hid (by rw [List.length_append, ← HR.out]; rfl)
        by_cases h4 : r + 1 < 4
        · have h4i : (r : Int) + 1 < 4 := by omega
          have HPV : Hid (pars (z0.take (j + 1)) = some (fs, now ++ [x])) := Lib.hid (by
            rw [HX.out, pars_app' HP.out, pars_short (by rw [hrv.out]; exact h4)]; simp)
          go_wp2
          go_roundw
          case rel => exact ⟨j + 1, k, r + 1, fs, now ++ [x], A2, c2, ls, B5, c5, by rw [HZL.out]; omega, by go_num, rfl, rfl, HK.out, hrv.out.symm, HPV.out, by omega, O5.out, HAP5.out, HOL5.out, HLS.out, HLI5.out, HB5.out⟩
          case measure => simp [intOf]; omega
        · have h4i : ¬ (r : Int) + 1 < 4 := by omega
          rcases O5.out.addr with ⟨-, g, -⟩ | ⟨g, rfl, hg⟩
          · omega
          have hgb : Hid (w.heap.size ≤ g) := Lib.hid (O5.out.lt g rfl).1
          have y0 := O5.out.ls.bytes 0 (by rw [hrv.out]; omega)
          have y1 := O5.out.ls.bytes 1 (by rw [hrv.out]; omega)
          have y2 := O5.out.ls.bytes 2 (by rw [hrv.out]; omega)
          have y3 := O5.out.ls.bytes 3 (by rw [hrv.out]; omega)
          have hov : Hid (octs (now ++ [x])) := Lib.hid (HREST.out.2.2.2.2.2 (HO.out.take j) |>.app (fun z hz => by simp at hz; subst hz; exact ⟨hx0, hx1⟩))
          obtain ⟨x0, e0⟩ : ∃ y, y = (now ++ [x]).getD 0 0 := ⟨_, rfl⟩
          obtain ⟨x1, e1⟩ : ∃ y, y = (now ++ [x]).getD 1 0 := ⟨_, rfl⟩
          obtain ⟨x2, e2⟩ : ∃ y, y = (now ++ [x]).getD 2 0 := ⟨_, rfl⟩
          obtain ⟨x3, e3⟩ : ∃ y, y = (now ++ [x]).getD 3 0 := ⟨_, rfl⟩
          obtain ⟨b00, b01⟩ := hov.out.get 0
          obtain ⟨b10, b11⟩ := hov.out.get 1
          obtain ⟨b20, b21⟩ := hov.out.get 2
          obtain ⟨b30, b31⟩ := hov.out.get 3
          rw [← e0] at y0 b00 b01
          rw [← e1] at y1 b10 b11
          rw [← e2] at y2 b20 b21
          rw [← e3] at y3 b30 b31
          simp only [Nat.zero_add] at y0 y1 y2 y3
          obtain ⟨nn, hnn⟩ : ∃ nn : Nat, (nn : Int) = ((x0 * 256 + x1) * 256 + x2) * 256 + x3 := ⟨(((x0 * 256 + x1) * 256 + x2) * 256 + x3).toNat, by omega⟩
          have hnb : (nn : Int) ≤ 4294967295 := by omega
          have HV : Hid (len4 (now ++ [x]) = (nn : Int)) := Lib.hid (by rw [hnn, e0, e1, e2, e3]; rfl)
          have HNN := Lib.hid hnn
          have HBY := Lib.hid (pars_byte x (HREST.out.1) hov.out)
          clear e0 e1 e2 e3 hnn
          go_upto_region 12 with fail
          go_quiet (fail)
          generalize hwd : World.drewN w5 _ = wd
          have O6 : Hid (OwnL byS 5 wd w.heap.size (some ⟨g, 0, none⟩) (r + 1) c5 (now ++ [x])) := Lib.hid (by rw [← hwd]; exact O5.out.below (below_drewN (Below.refl _ _) _))
          have HOL6 : Hid (OwnL lvS 22 wd w.heap.size A2 k c2 ls) := Lib.hid (by rw [← hwd]; exact HOL5.out.below (below_drewN (Below.refl _ _) _))
          have HB6 : Hid (Below w.heap.size w wd) := Lib.hid (by rw [← hwd]; exact below_drewN HB5.out _)
          have HLI6 : Hid (LI wd (fun j => (j < w.heap.size ∨ (Value.slice A2 k c2).ownBlock = some j) ∨ g = j) ls) := Lib.hid (by
            rw [← hwd]; exact (HLI5.out.mono (fun j hj => by
              rcases hj with hj | hj
              · exact .inl (.inl hj)
              · exact .inl (.inr (by rw [← hj]; rfl)))).new (below_drewN (Below.refl _ _) _))
          clear hwd y0 y1 y2 y3
          rw [← HNN.out]
          clear b00 b01 b10 b11 b20 b21 b30 b31
          by_cases hlong : 1024 < nn
          · have hli : (1024 : Int) < (nn : Int) := by omega
            have HN0 : Hid (pars z0 = none) := Lib.hid (by
              have := pars_none (z0.drop (j + 1)) (y := z0.take (j + 1)) (by rw [HX.out, pars_app' HP.out, pars_long (by rw [hrv.out]; omega) (by rw [HV.out]; exact hli)])
              rwa [List.take_append_drop] at this)
            go_wp2
            go_ret3
            rw [HN0.out]
            exact ⟨HB6.out, rfl⟩
          · have hli : ¬ (1024 : Int) < (nn : Int) := by omega
            have hle : r + 1 ≤ 4 + nn := by
              have := HBY.out (by rw [hrv.out]; omega) (by rw [HV.out]; exact hli)
              rw [hrv.out, HV.out] at this; omega
            by_cases hfull : r + 1 = 4 + nn
            · have HPV : Hid (pars (z0.take (j + 1)) = some (fs ++ [(now ++ [x]).drop 4], [])) := Lib.hid (by
                rw [HX.out, pars_app' HP.out, pars_full (by rw [hrv.out]; omega) (by rw [HV.out]; exact hli) (by rw [hrv.out, HV.out]; omega)])
              have hfi : ((r : Int) + 1 == 4 + (nn : Int)) = true := by rw [beq_iff_eq]; omega
              have HFL : Hid (((now ++ [x]).drop 4).length = nn) := Lib.hid (by rw [List.length_drop, hrv.out]; omega)
              have HNX : Hid (∀ (w8 : World) (A8 : Option Addr) (c8 : Nat) (ob : Obj) (og : Nat) (cg : Nat), OwnL lvS 22 w8 w.heap.size A8 (k + 1) c8 (ls ++ [⟨(now ++ [x]).drop 4, some ⟨g, og, none⟩, nn, cg⟩]) → Below w.heap.size (wd.alloc ob) w8 → Beside (.slice A2 k c2) (.slice A8 (k + 1) c8) (wd.alloc ob) w8 → (og = 4 ∨ nn = 0) →
                  FdX w z0 (.slice A8 (k + 1) c8) (.slice none 0 0) (.int .i64 ((j + 1 : Nat) : Int)) w8) := Lib.hid (by
                intro w8 A8 c8 ob og cg ho8 hb8 hs8 hog
                have z1 := HB6.out.size
                have hg6 := (O6.out.lt g rfl).2
                refine ⟨j + 1, k + 1, 0, fs ++ [(now ++ [x]).drop 4], [], A8, c8, _, none, 0, by rw [HZL.out]; omega, rfl, rfl, rfl, by rw [List.length_append, ← HK.out]; rfl, rfl, HPV.out, by omega, OwnL.nil _ _, (Apart.nil _ _ _).symm, ho8, by rw [List.map_append, HLS.out]; rfl, ?_, HB6.out.trans ((Below.trans ((ba1 wd ob).mono z1)) hb8)⟩
                refine LI.mono (S := fun j => j < w.heap.size ∨ (Value.slice A8 (k + 1) c8).ownBlock = some j) ?_ (fun j hj => by
                  rcases hj with hj | hj
                  · exact .inl hj
                  · cases hj)
                refine LI.grown (w := wd.alloc ob) ?_ hb8 hs8
                refine LI.new ?_ (ba1 wd ob)
                refine (HLI6.out.mono fun j hj => .inl (.inl hj)).app (LI.one HFL.out ?_ ?_)
                · rcases hog with rfl | h0
                  · have := O6.out.ls.drop1 rfl 4
                    simpa using this
                  · have e0 : (now ++ [x]).drop 4 = [] := List.eq_nil_of_length_eq_zero (by rw [HFL.out]; exact h0)
                    rw [e0]; exact Ls.nil _ _
                · intro a ha hj
                  injection ha with ha; subst ha
                  rcases hj with (hj | hj) | hj
                  · exact absurd hgb.out (by simp only at hj; omega)
                  · exact HAP5.out g g hj rfl rfl
                  · simp only at hj; omega)
              by_cases hq4 : c5 = 4
              · obtain rfl : nn = 0 := by omega
                subst hq4
                go_wp2_with (at_builtin; refine wpList_appL (F := lvS) rfl _ (.tmp 76) (.tmp 79) 28 rfl _ 24 Try.underlying28 lvInfo rfl w.heap.size A2 k c2 ls rfl (HOL6.out.below (ba1 _ _)) (some ⟨wd.heap.size, 0, none⟩) 1 1 [⟨(now ++ [x]).drop 4, some ⟨g, 0, none⟩, 0, 0⟩] rfl (ls_new wd _ _ _ rfl _ rfl) rfl (k + 1) rfl (by omega) (by omega) (by have := HB6.out.size; simp; omega) ?_; intro A8 c8 w8 ho8 hb8 hs8; have HN8 := Lib.hid (HNX.out w8 A8 c8 _ _ _ ho8 hb8 hs8 (.inr rfl)); clear ho8 hb8 hs8)
                go_roundw
                case rel => exact HN8.out
                case measure => simp [intOf]; omega
              · go_wp2_with (at_builtin; refine wpList_appL (F := lvS) rfl _ (.tmp 76) (.tmp 79) 28 rfl _ 24 Try.underlying28 lvInfo rfl w.heap.size A2 k c2 ls rfl (HOL6.out.below (ba1 _ _)) (some ⟨wd.heap.size, 0, none⟩) 1 1 [⟨(now ++ [x]).drop 4, some ⟨g, 4, none⟩, nn, c5 - 4⟩] rfl (ls_new wd _ _ _ rfl _ rfl) rfl (k + 1) rfl (by omega) (by omega) (by have := HB6.out.size; simp; omega) ?_; intro A8 c8 w8 ho8 hb8 hs8; have HN8 := Lib.hid (HNX.out w8 A8 c8 _ _ _ ho8 hb8 hs8 (.inl rfl)); clear ho8 hb8 hs8)
                go_roundw
                case rel => exact HN8.out
                case measure => simp [intOf]; omega
            · have hfi : ((r : Int) + 1 == 4 + (nn : Int)) = false := by rw [beq_eq_false_iff_ne]; omega
              have HPV : Hid (pars (z0.take (j + 1)) = some (fs, now ++ [x])) := Lib.hid (by
                rw [HX.out, pars_app' HP.out, pars_part (by rw [hrv.out]; omega) (by rw [HV.out]; exact hli) (by rw [hrv.out, HV.out]; omega)]; simp)
              go_wp2
              go_roundw
              case rel => exact ⟨j + 1, k, r + 1, fs, now ++ [x], A2, c2, ls, some ⟨g, 0, none⟩, c5, by rw [HZL.out]; omega, by go_num, rfl, rfl, HK.out, hrv.out.symm, HPV.out, by omega, O6.out, HAP5.out, HOL6.out, HLS.out, HLI6.out.mono (fun j hj => by
                rcases hj with hj | hj
                · exact .inl (.inl hj)
                · exact .inl (.inr (by injection hj))), HB6.out⟩
              case measure => simp [intOf]; omega
      · have hjni : ¬ (j : Int) < (n : Int) := by omega
        obtain ⟨bh, oh, rfl, hbl, hc⟩ := (HB.out.below HBW.out).byte (j - n) (by rw [HM.out]; omega)
        have hxe : zs.getD (j - n) 0 = x := by rw [hx, HZ.out, List.getD_eq_getElem?_getD, List.getD_eq_getElem?_getD, List.getElem?_append_right (by rw [HN.out]; omega), HN.out]
        rw [hxe] at hc
        clear hxe hx
        go_upto_region 11 with (at_builtin; refine wpList_appL (F := byS) rfl _ (.tmp 34) (.tmp 42) 22 rfl _ 1 Try.underlying22 byInfo rfl w.heap.size B2 r q now rfl (HOW.out.below (ba1 _ _)) (some ⟨wr.heap.size, 0, none⟩) 1 1 [x] rfl (ls_new wr _ _ _ rfl _ rfl) rfl (r + 1) rfl (by omega) (by omega) (by have := HBW.out.size; simp; omega) ?_; intro B5 c5 w5 ho5 hb5 hs5; have HAP5 := Lib.hid (HAP.out.grow hs5 (fun j hj => by have := (HOL.out.lt j hj).2; simp; omega)); have HOL5 := Lib.hid ((HOL.out.below (ba1 wr _)).beside hs5 HAP.out); have HLI5 := Lib.hid ((HLI.out.new (ba1 wr _)).grown hb5 hs5); have O5 := Lib.hid ho5; have HB5 : Hid (Below w.heap.size w w5) := Lib.hid ((HBW.out.trans ((ba1 wr _).mono HBW.out.size)).trans hb5); clear ho5 hb5 hs5)
        have hv5 := O5.out.cap
        have hrv : Hid ((now ++ [x]).length = r + 1) := Lib.hid (by rw [List.length_append, ← HR.out]; rfl)
        by_cases h4 : r + 1 < 4
        · have h4i : (r : Int) + 1 < 4 := by omega
          have HPV : Hid (pars (z0.take (j + 1)) = some (fs, now ++ [x])) := Lib.hid (by
            rw [HX.out, pars_app' HP.out, pars_short (by rw [hrv.out]; exact h4)]; simp)
          go_wp2
          go_roundw
          case rel => exact ⟨j + 1, k, r + 1, fs, now ++ [x], A2, c2, ls, B5, c5, by rw [HZL.out]; omega, by go_num, rfl, rfl, HK.out, hrv.out.symm, HPV.out, by omega, O5.out, HAP5.out, HOL5.out, HLS.out, HLI5.out, HB5.out⟩
          case measure => simp [intOf]; omega
        · have h4i : ¬ (r : Int) + 1 < 4 := by omega
          rcases O5.out.addr with ⟨-, g, -⟩ | ⟨g, rfl, hg⟩
          · omega
          have hgb : Hid (w.heap.size ≤ g) := Lib.hid (O5.out.lt g rfl).1
          have y0 := O5.out.ls.bytes 0 (by rw [hrv.out]; omega)
          have y1 := O5.out.ls.bytes 1 (by rw [hrv.out]; omega)
          have y2 := O5.out.ls.bytes 2 (by rw [hrv.out]; omega)
          have y3 := O5.out.ls.bytes 3 (by rw [hrv.out]; omega)
          have hov : Hid (octs (now ++ [x])) := Lib.hid (HREST.out.2.2.2.2.2 (HO.out.take j) |>.app (fun z hz => by simp at hz; subst hz; exact ⟨hx0, hx1⟩))
          obtain ⟨x0, e0⟩ : ∃ y, y = (now ++ [x]).getD 0 0 := ⟨_, rfl⟩
          obtain ⟨x1, e1⟩ : ∃ y, y = (now ++ [x]).getD 1 0 := ⟨_, rfl⟩
          obtain ⟨x2, e2⟩ : ∃ y, y = (now ++ [x]).getD 2 0 := ⟨_, rfl⟩
          obtain ⟨x3, e3⟩ : ∃ y, y = (now ++ [x]).getD 3 0 := ⟨_, rfl⟩
          obtain ⟨b00, b01⟩ := hov.out.get 0
          obtain ⟨b10, b11⟩ := hov.out.get 1
          obtain ⟨b20, b21⟩ := hov.out.get 2
          obtain ⟨b30, b31⟩ := hov.out.get 3
          rw [← e0] at y0 b00 b01
          rw [← e1] at y1 b10 b11
          rw [← e2] at y2 b20 b21
          rw [← e3] at y3 b30 b31
          simp only [Nat.zero_add] at y0 y1 y2 y3
          obtain ⟨nn, hnn⟩ : ∃ nn : Nat, (nn : Int) = ((x0 * 256 + x1) * 256 + x2) * 256 + x3 := ⟨(((x0 * 256 + x1) * 256 + x2) * 256 + x3).toNat, by omega⟩
          have hnb : (nn : Int) ≤ 4294967295 := by omega
          have HV : Hid (len4 (now ++ [x]) = (nn : Int)) := Lib.hid (by rw [hnn, e0, e1, e2, e3]; rfl)
          have HNN := Lib.hid hnn
          have HBY := Lib.hid (pars_byte x (HREST.out.1) hov.out)
          clear e0 e1 e2 e3 hnn
          go_upto_region 12 with fail
          go_quiet (fail)
          generalize hwd : World.drewN w5 _ = wd
          have O6 : Hid (OwnL byS 5 wd w.heap.size (some ⟨g, 0, none⟩) (r + 1) c5 (now ++ [x])) := Lib.hid (by rw [← hwd]; exact O5.out.below (below_drewN (Below.refl _ _) _))
          have HOL6 : Hid (OwnL lvS 22 wd w.heap.size A2 k c2 ls) := Lib.hid (by rw [← hwd]; exact HOL5.out.below (below_drewN (Below.refl _ _) _))
          have HB6 : Hid (Below w.heap.size w wd) := Lib.hid (by rw [← hwd]; exact below_drewN HB5.out _)
          have HLI6 : Hid (LI wd (fun j => (j < w.heap.size ∨ (Value.slice A2 k c2).ownBlock = some j) ∨ g = j) ls) := Lib.hid (by
            rw [← hwd]; exact (HLI5.out.mono (fun j hj => by
              rcases hj with hj | hj
              · exact .inl (.inl hj)
              · exact .inl (.inr (by rw [← hj]; rfl)))).new (below_drewN (Below.refl _ _) _))
          clear hwd y0 y1 y2 y3
          rw [← HNN.out]
          clear b00 b01 b10 b11 b20 b21 b30 b31
          by_cases hlong : 1024 < nn
          · have hli : (1024 : Int) < (nn : Int) := by omega
            have HN0 : Hid (pars z0 = none) := Lib.hid (by
              have := pars_none (z0.drop (j + 1)) (y := z0.take (j + 1)) (by rw [HX.out, pars_app' HP.out, pars_long (by rw [hrv.out]; omega) (by rw [HV.out]; exact hli)])
              rwa [List.take_append_drop] at this)
            go_wp2
            go_ret3
            rw [HN0.out]
            exact ⟨HB6.out, rfl⟩
          · have hli : ¬ (1024 : Int) < (nn : Int) := by omega
            have hle : r + 1 ≤ 4 + nn := by
              have := HBY.out (by rw [hrv.out]; omega) (by rw [HV.out]; exact hli)
              rw [hrv.out, HV.out] at this; omega
            by_cases hfull : r + 1 = 4 + nn
            · have HPV : Hid (pars (z0.take (j + 1)) = some (fs ++ [(now ++ [x]).drop 4], [])) := Lib.hid (by
                rw [HX.out, pars_app' HP.out, pars_full (by rw [hrv.out]; omega) (by rw [HV.out]; exact hli) (by rw [hrv.out, HV.out]; omega)])
              have hfi : ((r : Int) + 1 == 4 + (nn : Int)) = true := by rw [beq_iff_eq]; omega
              have HFL : Hid (((now ++ [x]).drop 4).length = nn) := Lib.hid (by rw [List.length_drop, hrv.out]; omega)
              have HNX : Hid (∀ (w8 : World) (A8 : Option Addr) (c8 : Nat) (ob : Obj) (og : Nat) (cg : Nat), OwnL lvS 22 w8 w.heap.size A8 (k + 1) c8 (ls ++ [⟨(now ++ [x]).drop 4, some ⟨g, og, none⟩, nn, cg⟩]) → Below w.heap.size (wd.alloc ob) w8 → Beside (.slice A2 k c2) (.slice A8 (k + 1) c8) (wd.alloc ob) w8 → (og = 4 ∨ nn = 0) →
                  FdX w z0 (.slice A8 (k + 1) c8) (.slice none 0 0) (.int .i64 ((j + 1 : Nat) : Int)) w8) := Lib.hid (by
                intro w8 A8 c8 ob og cg ho8 hb8 hs8 hog
                have z1 := HB6.out.size
                have hg6 := (O6.out.lt g rfl).2
                refine ⟨j + 1, k + 1, 0, fs ++ [(now ++ [x]).drop 4], [], A8, c8, _, none, 0, by rw [HZL.out]; omega, rfl, rfl, rfl, by rw [List.length_append, ← HK.out]; rfl, rfl, HPV.out, by omega, OwnL.nil _ _, (Apart.nil _ _ _).symm, ho8, by rw [List.map_append, HLS.out]; rfl, ?_, HB6.out.trans ((Below.trans ((ba1 wd ob).mono z1)) hb8)⟩
                refine LI.mono (S := fun j => j < w.heap.size ∨ (Value.slice A8 (k + 1) c8).ownBlock = some j) ?_ (fun j hj => by
                  rcases hj with hj | hj
                  · exact .inl hj
                  · cases hj)
                refine LI.grown (w := wd.alloc ob) ?_ hb8 hs8
                refine LI.new ?_ (ba1 wd ob)
                refine (HLI6.out.mono fun j hj => .inl (.inl hj)).app (LI.one HFL.out ?_ ?_)
                · rcases hog with rfl | h0
                  · have := O6.out.ls.drop1 rfl 4
                    simpa using this
                  · have e0 : (now ++ [x]).drop 4 = [] := List.eq_nil_of_length_eq_zero (by rw [HFL.out]; exact h0)
                    rw [e0]; exact Ls.nil _ _
                · intro a ha hj
                  injection ha with ha; subst ha
                  rcases hj with (hj | hj) | hj
                  · exact absurd hgb.out (by simp only at hj; omega)
                  · exact HAP5.out g g hj rfl rfl
                  · simp only at hj; omega)
              by_cases hq4 : c5 = 4
              · obtain rfl : nn = 0 := by omega
                subst hq4
                go_wp2_with (at_builtin; refine wpList_appL (F := lvS) rfl _ (.tmp 76) (.tmp 79) 28 rfl _ 24 Try.underlying28 lvInfo rfl w.heap.size A2 k c2 ls rfl (HOL6.out.below (ba1 _ _)) (some ⟨wd.heap.size, 0, none⟩) 1 1 [⟨(now ++ [x]).drop 4, some ⟨g, 0, none⟩, 0, 0⟩] rfl (ls_new wd _ _ _ rfl _ rfl) rfl (k + 1) rfl (by omega) (by omega) (by have := HB6.out.size; simp; omega) ?_; intro A8 c8 w8 ho8 hb8 hs8; have HN8 := Lib.hid (HNX.out w8 A8 c8 _ _ _ ho8 hb8 hs8 (.inr rfl)); clear ho8 hb8 hs8)
                go_roundw
                case rel => exact HN8.out
                case measure => simp [intOf]; omega
              · go_wp2_with (at_builtin; refine wpList_appL (F := lvS) rfl _ (.tmp 76) (.tmp 79) 28 rfl _ 24 Try.underlying28 lvInfo rfl w.heap.size A2 k c2 ls rfl (HOL6.out.below (ba1 _ _)) (some ⟨wd.heap.size, 0, none⟩) 1 1 [⟨(now ++ [x]).drop 4, some ⟨g, 4, none⟩, nn, c5 - 4⟩] rfl (ls_new wd _ _ _ rfl _ rfl) rfl (k + 1) rfl (by omega) (by omega) (by have := HB6.out.size; simp; omega) ?_; intro A8 c8 w8 ho8 hb8 hs8; have HN8 := Lib.hid (HNX.out w8 A8 c8 _ _ _ ho8 hb8 hs8 (.inl rfl)); clear ho8 hb8 hs8)
                go_roundw
                case rel => exact HN8.out
                case measure => simp [intOf]; omega
            · have hfi : ((r : Int) + 1 == 4 + (nn : Int)) = false := by rw [beq_eq_false_iff_ne]; omega
              have HPV : Hid (pars (z0.take (j + 1)) = some (fs, now ++ [x])) := Lib.hid (by
                rw [HX.out, pars_app' HP.out, pars_part (by rw [hrv.out]; omega) (by rw [HV.out]; exact hli) (by rw [hrv.out, HV.out]; omega)]; simp)
              go_wp2
              go_roundw
              case rel => exact ⟨j + 1, k, r + 1, fs, now ++ [x], A2, c2, ls, some ⟨g, 0, none⟩, c5, by rw [HZL.out]; omega, by go_num, rfl, rfl, HK.out, hrv.out.symm, HPV.out, by omega, O6.out, HAP5.out, HOL6.out, HLS.out, HLI6.out.mono (fun j hj => by
                rcases hj with hj | hj
                · exact .inl (.inl hj)
                · exact .inl (.inr (by injection hj))), HB6.out⟩
              case measure => simp [intOf]; omega
    · have hlti : ¬ (j : Int) < (n : Int) + (m : Int) := by omega
      have HE : Hid (pars z0 = some (fs, now)) := Lib.hid (by
        have := HP.out
        rwa [List.take_of_length_le (by rw [HZL.out]; omega)] at this)
      go_wp2
      go_ret3
      rw [HE.out]
      exact ⟨HBW.out, A2, c2, ls, B2, q, by rw [← HK.out, ← HR.out]; rfl, by rw [← HK.out]; exact HOL.out, HLS.out, by rw [← HK.out]; exact HLI.out.mono fun j hj => .inl (.inl hj), by rw [← HR.out]; exact HOW.out⟩

end Go.Proofs.Ytmeppeedbnnmjaa
