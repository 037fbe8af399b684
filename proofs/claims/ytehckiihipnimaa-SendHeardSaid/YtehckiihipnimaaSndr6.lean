/-
  The program's sender: hear.
-/
import Derived.Test.YtehckiihipnimaaSndr5
import Derived.Test.YtehckiihipnimaaOutlet4
import Derived.Test.YtehckiihipnimaaSAdd
namespace Go.Proofs.Ytehckiihipnimaa
open Go.RowKit
set_option linter.unusedVariables false
set_option linter.unusedSimpArgs false

theorem may_add {d : Int} {l : List Rg} {r : Rg} (hm : mayB d l = true) (hr : 0 ≤ r.1 ∧ r.1 ≤ r.2 ∧ r.2 ≤ 1048576) (h16 : (addL d l r).length ≤ 16) : mayB (addD d l r) (addL d l r) = true := by
  simp only [mayB, Bool.and_eq_true, decide_eq_true_eq] at hm ⊢
  obtain ⟨m1, m2, m3, m4⟩ := hm
  obtain ⟨g1, g2, g3, g4⟩ := add_good d l r m1 m2 m4 hr.1 hr.2.1 hr.2.2
  exact ⟨by omega, g2, h16, g3⟩
theorem adds_drop (l : List Rg) (k : Nat) (r : Rg) (h : l[k]? = some r) (s : Int × List Rg) : adds s (l.drop k) = if 16 < (addL s.1 s.2 r).length then none else adds (addD s.1 s.2 r, addL s.1 s.2 r) (l.drop (k + 1)) := by
  have hd : l.drop k = r :: l.drop (k + 1) := by
    have hk := (List.getElem?_eq_some_iff.1 h).1
    rw [List.drop_eq_getElem_cons hk, (List.getElem?_eq_some_iff.1 h).2]
  rw [hd]; rfl
/-- what is answered, and who sends behind it -/
def HearX (w : World) (T : Nat → Prop) (B : Nat) (dt : List Int) (cl : Bool) (sn ag : Nat) (ed aw : Int) (s : Int × List Rg) (o : Option (Int × List Rg)) (e : Ending) (w' : World) : Prop :=
  (o = none ∧ e = .returned (.int .i64 9) ∧ Below w.heap.size w w') ∨ ∃ D L, o = some (D, L) ∧ e = .returned (.int .i64 0) ∧ SM w' T B dt cl sn ag D L (max ed aw) ∧ Eff T B w w'
def HrI (w : World) (n4 : Nat) (rs : List Rg) (o : Option (Int × List Rg)) (Y0 : Option Addr) (w4 : World) (d b i : Value) (wr : World) : Prop :=
  ∃ (k : Nat) (dn : Int) (bt : List Rg) (Y : Option Addr) (n yc : Nat), k ≤ n4 ∧ i = .int .i64 k ∧ d = .int .i64 dn ∧ b = .slice Y n yc ∧ bt.length = n ∧ Ls rgS wr Y bt ∧ o = adds (dn, bt) (rs.drop k) ∧ mayB dn bt = true ∧ (0 < k → ∀ a, Y = some a → w.heap.size ≤ a.block ∧ a.block < wr.heap.size) ∧ Below w4.heap.size w4 wr

set_option maxRecDepth 100000 in
set_option maxHeartbeats 8000000 in
theorem hear_main (w : World) (T : Nat → Prop) (B : Nat) (dt : List Int) (cl : Bool) (sn ag : Nat) (dn : Int) (bt : List Rg) (ed : Int) (h : SM w T B dt cl sn ag dn bt ed) (hsn : sn ≤ 1048576) (hmay : mayB dn bt = true) (he0 : 0 ≤ ed) (he1 : ed ≤ 1114112) (hT : ∀ k, T k → k < w.heap.size) (kd ack win : Int) (A : Option Addr) (n c : Nat) (S : Option Addr) (m e : Nat) (sk : List Rg) (hS : Ls rgS w S sk) (hm : sk.length = m)
    (hr : ¬ (ack < 0 ∨ (sn : Int) < ack ∨ win < 0 ∨ 65535 < win)) (hm3 : ¬ 3 < m) (hall : sk.all (okS sn) = true) (o : Option (Int × List Rg)) (ho : o = adds (dn, bt) ((0, ack) :: sk)) :
    Calls Try.prog 48 #[.pointer (some ⟨B, 0, none⟩), .agg #[.int .i64 kd, .slice A n c, .int .i64 ack, .int .i64 win, .slice S m e]] w (HearX w T B dt cl sn ag ed (ack + win) (dn, bt) o) := by
  obtain ⟨D, dc, Y, yc, ⟨c0, c1, c2, c3, c4, c5, c6⟩, -, -, hY⟩ := h.cells
  have hB := h.lt
  have hBn : ¬ w.heap.size = B := by omega
  have hBn1 : ¬ w.heap.size + 1 = B := by omega
  have C2 := Lib.hid c2
  have HS := Lib.hid hS
  have HM := Lib.hid hm
  have H := Lib.hid h
  have HY := Lib.hid hY
  have HMAY := Lib.hid hmay
  have HTT := Lib.hid hT
  have HO := Lib.hid ho
  have hbl := (may_parts hmay).2.2.1
  have HRS : Hid (∀ (k : Nat) (r : Rg), ((0, ack) :: sk)[k]? = some r → 0 ≤ r.1 ∧ r.1 ≤ r.2 ∧ r.2 ≤ (sn : Int)) := Lib.hid (rs_good (by omega) (by omega) (fun r hr => (okS_bad sn r).1 (by rw [List.all_eq_true] at hall; exact hall r hr)))
  have HRL : Hid (((0, ack) :: sk).length = 1 + m) := Lib.hid (by rw [List.length_cons, hm]; omega)
  have hv : Hid (false = !sk.all (okS sn)) := Lib.hid (by rw [hall]; rfl)
  have e0 : decide (ack < 0) = false := by simp; omega
  have e1 : decide ((sn : Int) < ack) = false := by simp; omega
  have e2 : decide (win < 0) = false := by simp; omega
  have e3 : decide (65535 < win) = false := by simp; omega
  have hm3i : ¬ (3 : Int) < (m : Int) := by omega
  have k0 : 0 ≤ ack ∧ ack ≤ 1048576 ∧ 0 ≤ win ∧ win ≤ 65535 := by omega
  clear c0 c1 c3 c4 c5 c6 h hS hm hY hmay hT ho hall hr
  go_enter Try.func48, Try.ntmps48
  go_wp2_with fail
  go_quiet (fail)
  obtain ⟨w1, hw1⟩ : ∃ w1, w1 = World.drewN ((w.alloc (.cells #[.pointer (some ⟨B, 0, none⟩)] 105)).alloc (.cells #[.int .i64 kd, .slice A n c, .int .i64 ack, .int .i64 win, .slice S m e] 39)) nq := ⟨_, rfl⟩
  have HB1 : Hid (Below w.heap.size w w1) := Lib.hid (by rw [hw1]; exact below_drewN (ba2 _ _ _) _)
  have HX2 : Hid (Bx 105 w1 w.heap.size #[.pointer (some ⟨B, 0, none⟩)]) := Lib.hid (by rw [hw1]; exact ((bx_new _ _ _).below (ba1 _ _)).below (below_drewN (Below.refl _ _) _))
  have HX3 : Hid (Bx 39 w1 (w.heap.size + 1) #[.int .i64 kd, .slice A n c, .int .i64 ack, .int .i64 win, .slice S m e]) := Lib.hid (by
    rw [hw1]
    have := bx_new (w.alloc (.cells #[.pointer (some ⟨B, 0, none⟩)] 105)) 39 #[.int .i64 kd, .slice A n c, .int .i64 ack, .int .i64 win, .slice S m e]
    rw [World.size_alloc] at this
    exact this.below (below_drewN (Below.refl _ _) _))
  have HOD : Hid (Odd w1 w.heap.size B sn) := Lib.hid ⟨HX2.out.cell 0 _ rfl, HX2.out.lt, (HB1.out.cell (p := ⟨B, 2, none⟩) hB).trans C2.out, Nat.lt_of_lt_of_le hB HB1.out.size⟩
  rw [← hw1]
  clear hw1 c2
  have d4 := HX3.out.cell 4 (.slice S m e) rfl
  go_wp2_with (go_at_call 67; refine (scontains_any S m e sk w.heap.size B sn w1 HOD.out (HS.out.below HB1.out) HM.out (by omega) false hv.out).mono ?_; rintro e w6 ⟨rfl, hb6⟩; have HB6 : Hid (Below w.heap.size w w6) := Lib.hid (bthen HB1.out hb6); have HX2b := Lib.hid (HX2.out.below hb6); have HX3b := Lib.hid (HX3.out.below hb6); clear hb6 d4)
  have H6 := Lib.hid (H.out.new HB6.out)
  obtain ⟨D, dc, Y', yc', ⟨c0, c1, c2, c3, c4, c5, c6⟩, -, -, hY6⟩ := H6.out.cells
  have HY6 := Lib.hid hY6
  clear hY6
  have lB := H6.out.lt
  have q0 := HX2b.out.cell 0 (.pointer (some ⟨B, 0, none⟩)) rfl
  have l2 := HX2b.out.lt
  obtain ⟨bn, hbn⟩ : ∃ x, x = bt.length := ⟨_, rfl⟩
  rw [← hbn] at c5 hbl
  have HBN := Lib.hid hbn
  clear hbn
  go_quiet (fail)
  generalize hwd : World.drewN w6 _ = wd
  have HWD : Hid (Below w6.heap.size w6 wd) := Lib.hid (by rw [← hwd]; exact below_drewN (Below.refl _ _) _)
  have HX3d := Lib.hid (HX3b.out.below HWD.out)
  have HX2d := Lib.hid (HX2b.out.below HWD.out)
  have Hd := Lib.hid (H6.out.new HWD.out)
  have HBd : Hid (Below w.heap.size w wd) := Lib.hid (bthen HB6.out HWD.out)
  have HYd : Hid (Ls rgS wd Y' bt) := Lib.hid (HY6.out.below HWD.out)
  clear hwd c0 c1 c2 c3 c4 c5 c6 q0 l2 lB
  have d2 := HX3d.out.cell 2 (.int .i64 ack) rfl
  have d4 := HX3d.out.cell 4 (.slice S m e) rfl
  have l3 := HX3d.out.lt
  obtain ⟨n4, hn4⟩ : ∃ n, 1 + m = n := ⟨_, rfl⟩
  rw [hn4] at HRL
  go_wp2_with (at_builtin; refine wpList_appL (F := rgS) rfl _ (.tmp 56) (.tmp 58) 37 rfl _ 16 Try.underlying37 rgSInfo rfl wd.heap.size (some ⟨wd.heap.size, 0, none⟩) 1 1 [(0, ack)] rfl (ownL_new wd _ (Nat.le_refl _) [(0, ack)] 1 _ rfl rfl (by omega) _ rfl) S m e sk rfl ((HS.out.below HBd.out).below (ba1 _ _)) HM.out n4 (by omega) (by omega) (by omega) (by simp) ?_; intro A4 cp4 w4 ho4 hb4 hs4; have HO4 := Lib.hid ho4; have HN4 := Lib.hid ((ba1 wd _).trans hb4); clear ho4 hb4 hs4)
  have HB4 : Hid (Below w.heap.size w w4) := Lib.hid (bthen HBd.out HN4.out)
  have HL4 : Hid (Ls rgS w4 A4 ((0, ack) :: sk)) := Lib.hid HO4.out.ls
  have HX34 := Lib.hid (HX3d.out.below HN4.out)
  have HX24 := Lib.hid (HX2d.out.below HN4.out)
  have H4 := Lib.hid (Hd.out.new HN4.out)
  have HY4 : Hid (Ls rgS w4 Y' bt) := Lib.hid (HYd.out.below HN4.out)
  obtain ⟨rs, hrs⟩ : ∃ l, l = (0, ack) :: sk := ⟨_, rfl⟩
  rw [← hrs] at HL4 HRS HRL HO
  clear hrs d2 d4 l3
  obtain ⟨wo, rfl⟩ : ∃ wo, wo = w4 := ⟨_, rfl⟩
  go_loopw [6, 7, 61] (fun d b i wr => HrI w n4 rs o Y' wo d b i wr) (fun _ _ i _ => n4 - (intOf i).toNat)
  case atStart => exact ⟨0, dn, bt, Y', bn, yc', Nat.zero_le _, rfl, rfl, rfl, HBN.out.symm, HY4.out, HO.out, HMAY.out, fun h => absurd h (by omega), Below.refl _ _⟩
  case round =>
    obtain ⟨k, dk, bk, Yk, nk, yk, hk, rfl, rfl, rfl, hnk, hlk, hok, hmk, hyk, hbw⟩ := hrel
    have HNK := Lib.hid hnk
    have HLK := Lib.hid hlk
    have HOK := Lib.hid hok
    have HMK := Lib.hid hmk
    have HYK := Lib.hid hyk
    have HBW := Lib.hid hbw
    have hnk16 : nk ≤ 16 := by rw [← hnk]; exact (may_parts hmk).2.2.1
    clear hnk hlk hok hmk hyk hbw
    by_cases hlt : k < n4
    · obtain ⟨⟨r1, r2⟩, hrk⟩ : ∃ r, rs[k]? = some r := ⟨_, List.getElem?_eq_getElem (by rw [HRL.out]; exact hlt)⟩
      obtain ⟨b, o', rfl, hbs, hcc⟩ := (HL4.out.below HBW.out).at k _ hrk
      have g1 := hcc 0 (.int .i64 r1) rfl
      have g2 := hcc 1 (.int .i64 r2) rfl
      simp only [rgS, Nat.add_zero] at g1 g2
      have hki : (k : Int) < (n4 : Int) := by omega
      have hg := HRS.out k _ hrk
      have HG : Hid (0 ≤ r1 ∧ r1 ≤ r2 ∧ r2 ≤ 1048576) := Lib.hid (by simp only at hg; omega)
      have HST := Lib.hid (adds_drop rs k _ hrk (dk, bk))
      obtain ⟨L, hL⟩ : ∃ L, L = addL dk bk (r1, r2) := ⟨_, rfl⟩
      obtain ⟨Dk, hDk⟩ : ∃ D, D = addD dk bk (r1, r2) := ⟨_, rfl⟩
      obtain ⟨N, hN⟩ : ∃ N, L.length = N := ⟨_, rfl⟩
      simp only at HST
      rw [← hL, ← hDk, hN] at HST
      have HLL := Lib.hid hL
      have HDD := Lib.hid hDk
      have HNN := Lib.hid hN
      clear hcc hrk hg hL hDk hN
      by_cases h16 : N ≤ 16
      · have HA : Hid (∀ wk, Below wr.heap.size wr wk → Calls Try.prog 68 #[.int .i64 dk, .slice Yk nk yk, .agg #[.int .i64 r1, .int .i64 r2]] wk (RetA wk Dk N L)) := Lib.hid (fun wk hwk => (add_ok dk Yk nk yk bk (r1, r2) wk (ls_rs.1 (HLK.out.below hwk)) HNK.out hnk16 HMK.out HG.out Dk N L HDD.out HLL.out HNN.out).mono fun e w' g => g.1 h16)
        go_wp2_with (go_at_call 68; refine (HA.out _ (ba1 _ _)).mono ?_; rintro e w7 ⟨A7, c7, rfl, ho7, hb7⟩; have HO7 := Lib.hid ho7; have HB7 : Hid (Below wr.heap.size wr w7) := Lib.hid (bthen (ba1 _ _) hb7); clear ho7 hb7)
        have hz7 := HB4.out.size
        have hz8 := HBW.out.size
        exact ⟨⟨k + 1, Dk, L, A7, N, c7, by omega, by go_num, rfl, rfl, HNN.out, ls_rs.2 HO7.out.rs, by rw [HOK.out, HST.out, if_neg (by omega)], by rw [HDD.out, HLL.out]; exact may_add HMK.out HG.out (by rw [← HLL.out, HNN.out]; exact h16),
          fun _ a ha => by
            have := HO7.out.lt a.block (by rw [ha]; rfl)
            simp only [World.size_alloc] at this
            omega, HBW.out.trans (HB7.out.mono hz8)⟩, by simp [intOf]; omega⟩
      · have HA : Hid (∀ wk, Below wr.heap.size wr wk → Calls Try.prog 68 #[.int .i64 dk, .slice Yk nk yk, .agg #[.int .i64 r1, .int .i64 r2]] wk fun e w' => e = .returned (.tuple #[.int .i64 0, .slice none 0 0, .int .i64 9]) ∧ Below wk.heap.size wk w') := Lib.hid (fun wk hwk => (add_ok dk Yk nk yk bk (r1, r2) wk (ls_rs.1 (HLK.out.below hwk)) HNK.out hnk16 HMK.out HG.out Dk N L HDD.out HLL.out HNN.out).mono fun e w' g => g.2 (by omega))
        have HON : Hid (o = none) := Lib.hid (by rw [HOK.out, HST.out, if_pos (by omega)])
        go_wp2_with (go_at_call 68; refine (HA.out _ (ba1 _ _)).mono ?_; rintro e w7 ⟨rfl, hb7⟩; have HB7 : Hid (Below wr.heap.size wr w7) := Lib.hid (bthen (ba1 _ _) hb7); clear hb7)
        go_ret
        exact .inl ⟨HON.out, rfl, bthen (bthen HB4.out HBW.out) HB7.out⟩
    · obtain rfl : k = n4 := by omega
      have hki : ¬ (k : Int) < (k : Int) := by omega
      have HON : Hid (o = some (dk, bk)) := Lib.hid (by rw [HOK.out, List.drop_eq_nil_of_le (by rw [HRL.out]; exact Nat.le_refl _)]; rfl)
      have HBr : Hid (Below w.heap.size w wr) := Lib.hid (bthen HB4.out HBW.out)
      have Hr := Lib.hid (H4.out.new HBW.out)
      have HX2r := Lib.hid (HX24.out.below HBW.out)
      have HX3r := Lib.hid (HX34.out.below HBW.out)
      obtain ⟨D, dc, Y9, yc9, ⟨c0, c1, c2, c3, c4, c5, c6⟩, hf, hD9, -⟩ := Hr.out.cells
      have C0 := Lib.hid c0
      have f4 := hf 4
      have f5 := hf 5
      have lB := Hr.out.lt
      have q0 := HX2r.out.cell 0 (.pointer (some ⟨B, 0, none⟩)) rfl
      have l2 := HX2r.out.lt
      have hb1 : ¬ w.heap.size = B := by omega
      obtain ⟨Dw, dcw, hCw⟩ : ∃ D dc, w.cell? ⟨B, 0, none⟩ = some (.slice D dt.length dc) := by obtain ⟨D, dc, Y, yc, ⟨c0, -, -, -, -, -, -⟩, -, -, -⟩ := H.out.cells; exact ⟨D, dc, c0⟩
      have HOWN : Hid (∀ (D : Option Addr) (dc : Nat), wr.cell? ⟨B, 0, none⟩ = some (.slice D dt.length dc) → ∀ j, (Value.slice D dt.length dc).ownBlock = some j → j < w.heap.size) := Lib.hid (by
        obtain ⟨D, dc, Y, yc, ⟨c0, -, -, -, -, -, -⟩, -, hD, -⟩ := H.out.cells
        intro D' dc' h' j hj
        have e := (HBr.out.cell (p := ⟨B, 0, none⟩) hB).trans c0
        rw [h'] at e
        injection e with e
        injection e with e1 _ e3
        subst e1; subst e3
        exact (hD.lt j hj).2)
      clear hf hD9 hCw
      have HS1 : Hid (SM ((wr.setCell ⟨B, 4, none⟩ (.int .i64 dk)).setCell ⟨B, 5, none⟩ (.slice Yk nk yk)) T B dt cl sn ag dk bk ed) := Lib.hid (by
        have h1 : SM (wr.setCell ⟨B, 4, none⟩ (.int .i64 dk)) T B dt cl sn ag dk bt ed := Hr.out.set 4 _ _ _ _ _ _ (fun _ _ _ _ => rfl)
        have hcell : ∀ (D : Option Addr) (dc : Nat), (wr.setCell ⟨B, 4, none⟩ (.int .i64 dk)).cell? ⟨B, 0, none⟩ = some (.slice D dt.length dc) → wr.cell? ⟨B, 0, none⟩ = some (.slice D dt.length dc) := fun D dc h => by
          rw [C0.out]
          obtain ⟨D1, dc1, Y1, yc1, hx1, -, -, -, -, -⟩ := Hr.out
          have e1 := (hx1.set 4 (.int .i64 dk)).cell 0 (.slice D1 dt.length dc1) rfl
          rw [h] at e1
          have e2 := hx1.cell 0 (.slice D1 dt.length dc1) rfl
          rw [C0.out] at e2
          rw [e2, ← e1]
        refine h1.setBeyond Yk bk nk yk HNK.out (HLK.out.only (only_set wr B 4 _) (fun a ha hb => ?_)) w.heap.size (fun a ha => ?_) hB HTT.out (fun D dc h => HOWN.out D dc (hcell D dc h))
        · have := HYK.out (by omega) a ha; omega
        · have := HYK.out (by omega) a ha; rw [size_set]; exact this)
      go_upto_region 17 with fail
      go_cut [6] (fun v wx => v = .int .i64 dk ∧ Below wr.heap.size ((wr.setCell ⟨B, 4, none⟩ (.int .i64 dk)).setCell ⟨B, 5, none⟩ (.slice Yk nk yk)) wx)
      case first =>
        go_region
        all_goals
          go_wp2
        all_goals
          go_meet
        all_goals
          exact ⟨rfl, (Below.refl _ _).drew⟩
      case rest =>
        obtain ⟨rfl, hbc⟩ := hcut
        have hsz : ((wr.setCell ⟨B, 4, none⟩ (.int .i64 dk)).setCell ⟨B, 5, none⟩ (.slice Yk nk yk)).heap.size = wr.heap.size := by rw [size_set, size_set]
        obtain ⟨wy, hwy⟩ : ∃ wy, wy = (wr.setCell ⟨B, 4, none⟩ (.int .i64 dk)).setCell ⟨B, 5, none⟩ (.slice Yk nk yk) := ⟨_, rfl⟩
        rw [← hwy] at hbc hsz HS1
        rw [← hsz] at hbc
        have HSc : Hid (SM wc T B dt cl sn ag dk bk ed) := Lib.hid (HS1.out.new hbc)
        have hoy : Only (fun j => j = B) wr wy := by rw [hwy]; exact ((Only.refl (fun j => j = B) wr).set' rfl _ _).set' rfl _ _
        have HX2c := Lib.hid ((HX2r.out.only hoy hb1).below hbc)
        have HX3c := Lib.hid ((HX3r.out.only hoy hBn1).below hbc)
        have HEc : Hid (Eff T B w wc) := Lib.hid (((Eff.new HBr.out).trans (Eff.of hoy (fun j hj => by subst hj; exact ⟨Nat.le_refl _, H.out.notT⟩))).trans (Eff.new hbc))
        clear hwy hbc hoy c0 c1 c2 c3 c4 c5 c6 f4 f5 q0 l2 lB
        obtain ⟨D, dc, Y9, yc9, ⟨-, -, -, -, -, -, c6⟩, hf, -, -⟩ := HSc.out.cells
        have f6 := hf 6
        have lB := HSc.out.lt
        have q0 := HX2c.out.cell 0 (.pointer (some ⟨B, 0, none⟩)) rfl
        have l2 := HX2c.out.lt
        have l3 := HX3c.out.lt
        have d2 := HX3c.out.cell 2 (.int .i64 ack) rfl
        have d3 := HX3c.out.cell 3 (.int .i64 win) rfl
        have hw1 : IntKind.i64.wrap (ack + win) = ack + win := by rw [IntKind.wrap_i64]; omega
        clear hf
        go_upto_region 18 with fail
        go_region
        all_goals
          go_wp2
        all_goals
          go_ret
        all_goals
          refine .inr ⟨dk, bk, HON.out, rfl, ?_, HEc.out.trans ((Eff.new (Below.refl _ _).drew).trans (Eff.set _ HSc.out.notT _ _))⟩
          refine (HSc.out.new (Below.refl _ _).drew).set 6 _ _ _ _ _ _ (fun _ _ _ _ => ?_)
          first
          | (rw [show max ed (ack + win) = ack + win by omega]; rfl)
          | (rw [show max ed (ack + win) = ed by omega]; rfl)

end Go.Proofs.Ytehckiihipnimaa
