/-
  The document's Outlet: hears (what is heard).
-/
import Derived.Test.YtehckiihipnimaaOutlet3
import Derived.Test.YtehckiihipnimaaOutletPut
import Derived.Laws.NewBlocks
namespace Go.Proofs.Ytehckiihipnimaa
open Go.RowKit
set_option linter.unusedVariables false
set_option linter.unusedSimpArgs false

theorem marks_drop (l : List Rg) (k : Nat) (r : Rg) (h : l[k]? = some r) (K : List Bool) : marks K (l.drop k) = if 16 < islands (mark K r) then none else marks (mark K r) (l.drop (k + 1)) := by
  have hd : l.drop k = r :: l.drop (k + 1) := by
    have hk := (List.getElem?_eq_some_iff.1 h).1
    rw [List.drop_eq_getElem_cons hk, (List.getElem?_eq_some_iff.1 h).2]
  rw [hd]; rfl
/-- what the walk behind the two loops knows -/
theorem hears_good (s : Sd) (d : Dd) (hr : ¬ (d.ack < 0 ∨ (s.sent : Int) < d.ack ∨ d.win < 0 ∨ 65535 < d.win)) (hm : ¬ 3 < d.sacks.length) :
    (∀ r ∈ d.sacks, badR s.sent r → hears s d = (2, s)) ∧
    ((∀ r ∈ d.sacks, ¬ badR s.sent r) → hears s d = hearK s d (marks (pad s.known s.sent) ((0, d.ack) :: d.sacks))) := by
  refine ⟨fun r h1 h2 => ?_, fun h => ?_⟩
  · unfold hears; rw [if_neg hr, if_neg hm, if_pos ⟨r, h1, h2⟩]
  · unfold hears; rw [if_neg hr, if_neg hm, if_neg (fun ⟨r, h1, h2⟩ => h r h1 h2)]

theorem rs_good {ack : Int} {sk : List Rg} {sn : Nat} (k0 : 0 ≤ ack) (k1 : ack ≤ (sn : Int)) (h : ∀ r ∈ sk, ¬ badR sn r) : ∀ (k : Nat) (r : Rg), ((0, ack) :: sk)[k]? = some r → 0 ≤ r.1 ∧ r.1 ≤ r.2 ∧ r.2 ≤ (sn : Int)
  | 0, r, hr => by simp at hr; subst hr; exact ⟨Int.le_refl _, k0, k1⟩
  | k + 1, r, hr => by
    have := h r (List.mem_of_getElem? (by simpa using hr))
    unfold badR at this
    omega
theorem mark_nat (l : List Bool) (a j : Nat) : mark l ((a : Int), ((a + j : Nat) : Int)) = fill l a j := by
  unfold mark; simp only; congr 1; omega
theorem mark_len (l : List Bool) (r : Rg) : (mark l r).length = l.length := fill_len _ _ _

set_option maxRecDepth 100000 in
set_option maxHeartbeats 8000000 in
theorem hears_main (w : World) (T : Nat → Prop) (B : Nat) (s : Sd) (d : Dd) (A : Option Addr) (n c : Nat) (S : Option Addr) (m e : Nat) (h : Outl w T B s) (hok : SdOk s) (hT : ∀ k, T k → k < w.heap.size) (hdd : DdIs w d A n S m)
    (hr : ¬ (d.ack < 0 ∨ (s.sent : Int) < d.ack ∨ d.win < 0 ∨ 65535 < d.win)) (hm : ¬ 3 < m) :
    Calls Try.prog 53 #[.pointer (some ⟨B, 0, none⟩), .agg (ddC d A n c S m e)] w (RetH w T B (hears s d)) := by
  obtain ⟨D, cd, K, ck, ⟨c0, c1, c2, c3, c4, c5⟩, -, -, -⟩ := h.cells
  obtain ⟨hg1, hg2⟩ := hears_good s d hr (by rw [hdd.slen]; exact hm)
  obtain ⟨q, hq⟩ : ∃ q, q = hears s d := ⟨_, rfl⟩
  rw [← hq] at hg1 hg2 ⊢
  have HG1 := Lib.hid hg1
  have HG2 := Lib.hid hg2
  have HSK := Lib.hid hdd.sacks
  have HSL := Lib.hid hdd.slen
  obtain ⟨sk, hsk⟩ : ∃ l, l = d.sacks := ⟨_, rfl⟩
  rw [← hsk] at HG1 HG2 HSK HSL
  obtain ⟨ack, hack⟩ : ∃ a, a = d.ack := ⟨_, rfl⟩
  obtain ⟨win, hwin⟩ : ∃ a, a = d.win := ⟨_, rfl⟩
  obtain ⟨sn, hsn⟩ : ∃ a, a = s.sent := ⟨_, rfl⟩
  unfold ddC
  have hsn1 : sn ≤ 1048576 := by have := hok.sent; have := hok.len; have := places_le s; omega
  rw [← hack, ← hwin, ← hsn] at hr
  rw [← hack] at HG2
  rw [← hack, ← hwin]
  have HAW := Lib.hid (And.intro hack hwin)
  rw [← hsn] at c3 HG1 HG2
  have hB := h.lt
  have hBn : ¬ w.heap.size = B := by omega
  have H := Lib.hid h
  have HOK := Lib.hid hok
  have e0 : decide (ack < 0) = false := by simp; omega
  have e1 : decide ((sn : Int) < ack) = false := by simp; omega
  have e2 : decide (win < 0) = false := by simp; omega
  have e3 : decide (65535 < win) = false := by simp; omega
  have k0 : 0 ≤ ack := by omega
  have k1 : ack ≤ (sn : Int) := by omega
  have k2 : 0 ≤ win := by omega
  have k3 : win ≤ 65535 := by omega
  have hm3 : ¬ (3 : Int) < (m : Int) := by omega
  have HSN := Lib.hid hsn
  clear hr h hack hwin hsn hg1 hg2 hq hsk hdd hok
  go_enter Try.func53, Try.ntmps53
  go_wp2_with fail
  go_quiet (fail)
  go_wp2
  obtain ⟨w1, hw1⟩ : ∃ w1, w1 = World.drewN (w.alloc (.cells #[.int .i64 d.kind, .slice A n c, .int .i64 ack, .int .i64 win, .slice S m e] 39)) nq := ⟨_, rfl⟩
  obtain ⟨q1, hq1⟩ : ∃ q1, q1 = w.heap.size := ⟨_, rfl⟩
  have HB1 : Hid (Below w.heap.size w w1) := Lib.hid (by rw [hw1]; exact below_drewN (ba1 _ _) _)
  have HX1 : Hid (Bx 39 w1 q1 #[.int .i64 d.kind, .slice A n c, .int .i64 ack, .int .i64 win, .slice S m e]) := Lib.hid (by rw [hw1, hq1]; exact (bx_new _ _ _).below (below_drewN (Below.refl _ _) _))
  rw [← hw1, ← hq1]
  have HO1 : Hid (Outl w1 T B s) := Lib.hid (H.out.new HB1.out)
  have HQ1 := Lib.hid hq1
  have hq1B : ¬ q1 = B := by omega
  clear hq1
  have HSK1 := Lib.hid (HSK.out.below HB1.out)
  clear hw1 c0 c1 c2 c3 c4 c5 hBn
  go_loopw [40] (fun i wr => ∃ k : Nat, k ≤ m ∧ i = .int .i64 k ∧ (∀ (j : Nat) (r : Rg), j < k → sk[j]? = some r → ¬ badR sn r) ∧ Below w1.heap.size w1 wr) (fun i _ => m - (intOf i).toNat)
  case atStart => exact ⟨0, Nat.zero_le _, rfl, fun j r hj => absurd hj (by omega), Below.refl _ _⟩
  case round =>
    obtain ⟨k, hk, rfl, hgood, hbw⟩ := hrel
    have HGD := Lib.hid hgood
    have HW := Lib.hid hbw
    have HOr := Lib.hid (HO1.out.new hbw)
    have HXr := Lib.hid (HX1.out.below hbw)
    obtain ⟨D, cd, K, ck, ⟨c0, c1, c2, c3, c4, c5⟩, -, -, hKn⟩ := HOr.out.cells
    rw [← HSN.out] at c3
    have HKN := Lib.hid hKn
    clear hKn
    have hBr := HOr.out.lt
    have hqr := HXr.out.lt
    clear hgood hbw
    by_cases hlt : k < m
    · obtain ⟨⟨r1, r2⟩, hr⟩ : ∃ r, sk[k]? = some r := ⟨_, List.getElem?_eq_getElem (by rw [HSL.out]; exact hlt)⟩
      obtain ⟨b, o, rfl, hb, hcc⟩ := (HSK1.out.below HW.out).at k _ hr
      have g1 := hcc 0 (.int .i64 r1) rfl
      have g2 := hcc 1 (.int .i64 r2) rfl
      simp only [rgS, Nat.add_zero] at g1 g2
      have hki : (k : Int) < (m : Int) := by omega
      have hmem := List.mem_of_getElem? hr
      have HR := Lib.hid hr
      have HB2 : Hid (badR sn (r1, r2) → q = (2, s)) := Lib.hid (fun hb => HG1.out _ hmem hb)
      have hc : r1 < 0 ∨ (0 ≤ r1 ∧ r2 ≤ r1) ∨ (0 ≤ r1 ∧ r1 < r2 ∧ (sn : Int) < r2) ∨ (0 ≤ r1 ∧ r1 < r2 ∧ r2 ≤ (sn : Int)) := by omega
      clear hcc hr hmem
      rcases hc with u0 | ⟨u0, u1⟩ | ⟨u0, u1, u2⟩ | ⟨u0, u1, u2⟩
      · have f0 : decide (r1 < 0) = true := by simp; omega
        go_wp2_with fail
        go_quiet (fail)
        go_wp2
        go_ret
        exact ⟨by rw [HB2.out (.inl u0)]; first | done | rfl, by rw [HB2.out (.inl u0)]; exact HOr.out.new (below_drewN (ba1 _ _) _), only_drewN (only_new (bthen (bthen HB1.out HW.out) (ba1 _ _))) _⟩
      · have f0 : decide (r1 < 0) = false := by simp; omega
        have f1 : decide (r2 ≤ r1) = true := by simp; omega
        go_wp2_with fail
        go_quiet (fail)
        go_wp2
        go_ret
        exact ⟨by rw [HB2.out (.inr (.inl u1))]; first | done | rfl, by rw [HB2.out (.inr (.inl u1))]; exact HOr.out.new (below_drewN (ba1 _ _) _), only_drewN (only_new (bthen (bthen HB1.out HW.out) (ba1 _ _))) _⟩
      · have f0 : decide (r1 < 0) = false := by simp; omega
        have f1 : decide (r2 ≤ r1) = false := by simp; omega
        have f2 : decide ((sn : Int) < r2) = true := by simp; omega
        go_wp2_with fail
        go_quiet (fail)
        go_wp2
        go_ret
        exact ⟨by rw [HB2.out (.inr (.inr u2))]; first | done | rfl, by rw [HB2.out (.inr (.inr u2))]; exact HOr.out.new (below_drewN (ba1 _ _) _), only_drewN (only_new (bthen (bthen HB1.out HW.out) (ba1 _ _))) _⟩
      · have f0 : decide (r1 < 0) = false := by simp; omega
        have f1 : decide (r2 ≤ r1) = false := by simp; omega
        have f2 : decide ((sn : Int) < r2) = false := by simp; omega
        go_wp2_with fail
        go_quiet (fail)
        go_wp2
        refine ⟨⟨k + 1, by omega, by go_num, fun j r hj hjr => ?_, below_drewN (HW.out.alloc HW.out.size _) _⟩, by simp [intOf]; omega⟩
        rcases Nat.lt_or_ge j k with g | g
        · exact HGD.out j r g hjr
        · rw [show j = k by omega, HR.out] at hjr
          injection hjr with hjr
          subst hjr
          unfold badR
          simp only
          omega
    · obtain rfl : m = k := by omega
      have hq := HG2.out (fun r hr hbad => by
        obtain ⟨j, hj⟩ := List.getElem?_of_mem hr
        exact HGD.out j r (by have := (List.getElem?_eq_some_iff.1 hj).1; rw [HSL.out] at this; exact this) hj hbad)
      have HQ := Lib.hid hq
      clear hq
      obtain ⟨kn, hkn⟩ : ∃ kn, kn = s.known.length := ⟨_, rfl⟩
      have hkn1 : kn ≤ sn := by rw [hkn, HSN.out]; exact HOK.out.known
      rw [← hkn] at c4
      have HKL := Lib.hid hkn
      clear hkn
      have HWw : Hid (Below w.heap.size w wr) := Lib.hid (bthen HB1.out HW.out)
      obtain ⟨g, hg⟩ : ∃ g, g = wr.heap.size := ⟨_, rfl⟩
      have HG := Lib.hid hg
      clear hg
      obtain ⟨n4, hn4⟩ : ∃ n, 1 + m = n := ⟨_, rfl⟩
      go_wp2_with (first
        | (at_make; refine wpList_makeW (F := blS) rfl wr (.tmp 67) (.tmp 67) 64 rfl (.bool false) 1 Try.underlying64 boolInfo (fun b => .bool b) (fun _ => rfl) false rfl _ _ _ _ sn rfl rfl rfl rfl (by omega) (by omega) ?_; rw [← HG.out]; intro w2 hw2 hb2 hs2; have HR2 := Lib.hid hw2; rw [HG.out] at hb2; have HB2 := Lib.hid hb2; have HO2 := Lib.hid (HOr.out.new hb2); have HK2 := Lib.hid (HKN.out.below hb2); have HX2 := Lib.hid (HXr.out.below hb2); have a4 := HX2.out.cell 4 (.slice S m e) rfl; have b4 := (hb2.cell (p := ⟨B, 4, none⟩) hBr).trans c4; clear hw2 hb2)
        | ((with_reducible show wpList _ _ _ (_ :: _) _ _); (refine wpList_copyW (F := blS) (o := ⟨some 74, _, _, _, _, _⟩) rfl w2 (.tmp 69) (.tmp 73) 64 64 rfl Try.underlying64 (by kernel_rfl) (fun b => .bool b) (fun _ => rfl) g sn sn (List.replicate sn false) rfl HR2.out (by simp) K kn ck s.known rfl HK2.out HKL.out.symm hkn1 ?_); intro w3 hw3 hb3; have HR3 := Lib.hid hw3; have hgr : wr.heap.size ≤ g := (by rw [HG.out]; exact Nat.le_refl _); have HB3 : Hid (Below wr.heap.size wr w3) := Lib.hid (HB2.out.trans (hb3.below (B := wr.heap.size) (fun k hk => by have hk' : k = g := hk; omega) HB2.out.size)); have HX3 := Lib.hid (HXr.out.below HB3.out); have a4 := HX3.out.cell 4 (.slice S m e) rfl; have a2 := HX3.out.cell 2 (.int .i64 ack) rfl; have hq3 := HX3.out.lt; have hg3 : g < w3.heap.size := hw3.lt; clear hw3 hb3)
        | (at_builtin; refine wpList_appL (F := rgS) rfl _ (.tmp 78) (.tmp 80) 37 rfl _ 16 Try.underlying37 rgSInfo rfl w3.heap.size (some ⟨w3.heap.size, 0, none⟩) 1 1 [(0, ack)] rfl (ownL_new w3 _ (Nat.le_refl _) [(0, ack)] 1 _ rfl rfl (by omega) _ rfl) S m e sk rfl ((HSK1.out.below (bthen' HW.out HW.out.size HB3.out)).below (ba1 _ _)) HSL.out n4 (by omega) (by omega) (by omega) (by simp) ?_; intro A4 cp4 w4 ho4 hb4 hs4; have HO4 := Lib.hid ho4; have HN4 := Lib.hid ((ba1 w3 _).trans hb4); clear ho4 hb4 hs4))
      have HB4 : Hid (Below wr.heap.size wr w4) := Lib.hid (HB3.out.trans (HN4.out.mono HB3.out.size))
      have HR4 : Hid (Wh blS 4 w4 g (pad s.known sn)) := Lib.hid (by
        have := HR3.out.below HN4.out
        rw [List.drop_replicate] at this
        unfold pad
        rw [← HKL.out]
        exact this)
      have HCR : Hid (Clear (fun k => k = g) A4) := Lib.hid (clear_of_own HO4.out.2 (fun k hk => .inl (by have hk' : k = g := hk; omega)))
      have HL4 : Hid (Ls rgS w4 A4 ((0, ack) :: sk)) := Lib.hid HO4.out.ls
      have hg4 := HR4.out.lt
      have hq3' : q1 < w4.heap.size := (HX3.out.below HN4.out).lt
      have HX4 : Hid (Bx 39 w4 q1 #[.int .i64 d.kind, .slice A n c, .int .i64 ack, .int .i64 win, .slice S m e]) := Lib.hid (HX3.out.below HN4.out)
      have HRS : Hid (∀ (k : Nat) (r : Rg), ((0, ack) :: sk)[k]? = some r → 0 ≤ r.1 ∧ r.1 ≤ r.2 ∧ r.2 ≤ (sn : Int)) := Lib.hid (rs_good k0 k1 (fun r hr hbad => by
        obtain ⟨j, hj⟩ := List.getElem?_of_mem hr
        exact HGD.out j r (by have := (List.getElem?_eq_some_iff.1 hj).1; rw [HSL.out] at this; exact this) hj hbad))
      have HRL : Hid (((0, ack) :: sk).length = n4) := Lib.hid (by rw [List.length_cons, HSL.out]; omega)
      obtain ⟨rs, hrs⟩ : ∃ l, l = (0, ack) :: sk := ⟨_, rfl⟩
      rw [← hrs] at HL4 HQ HRS HRL
      have HP : Hid ((pad s.known sn).length = sn) := Lib.hid (pad_len (by rw [← HKL.out]; exact hkn1))
      obtain ⟨k9, hk9⟩ : ∃ l, l = pad s.known sn := ⟨_, rfl⟩
      rw [← hk9] at HR4 HQ HP
      clear hrs hk9 a4 a2 c0 c1 c2 c3 c4 c5 b4 hq3
      obtain ⟨wo, rfl⟩ : ∃ wo, wo = wr := ⟨_, rfl⟩
      go_loopw [83] (fun i wr5 => ∃ (k : Nat) (ks : List Bool), k ≤ n4 ∧ i = .int .i64 k ∧ ks.length = sn ∧ marks k9 rs = marks ks (rs.drop k) ∧ Wh blS 4 wr5 g ks ∧ Only (fun j => j = g) w4 wr5) (fun i _ => n4 - (intOf i).toNat)
      case atStart => exact ⟨0, k9, Nat.zero_le _, rfl, HP.out, rfl, HR4.out, Only.refl _ _⟩
      case round =>
        obtain ⟨k, ks, hk, rfl, hlen, hmk, hwh, hon⟩ := hrel
        have HLN := Lib.hid hlen
        have HMK := Lib.hid hmk
        have HWH := Lib.hid hwh
        have HON := Lib.hid hon
        have HB5 : Hid (Below wo.heap.size wo wr) := Lib.hid (HB4.out.trans (hon.below (B := wo.heap.size) (fun j hj => by rw [hj, HG.out]; exact Nat.le_refl _) HB4.out.size))
        clear hlen hmk hwh hon
        by_cases hlt : k < n4
        · obtain ⟨⟨r1, r2⟩, hr⟩ : ∃ r, rs[k]? = some r := ⟨_, List.getElem?_eq_getElem (by rw [HRL.out]; exact hlt)⟩
          have HRk := Lib.hid hr
          obtain ⟨u0, u1, u2⟩ := HRS.out k _ hr
          simp only at u0 u1 u2
          obtain ⟨ra, rfl⟩ : ∃ a : Nat, r1 = (a : Int) := ⟨r1.toNat, by omega⟩
          obtain ⟨rn, rfl⟩ : ∃ a : Nat, r2 = ((ra + a : Nat) : Int) := ⟨(r2 - ra).toNat, by omega⟩
          obtain ⟨re, hre⟩ : ∃ e, ra + rn = e := ⟨_, rfl⟩
          have HRE := Lib.hid hre
          rw [hre] at hr HRk u1 u2
          have v1 : ra ≤ re := by omega
          have v2 : re ≤ sn := by omega
          obtain ⟨b4, o4, rfl, hb4, hcc⟩ := (HL4.out.only HON.out HCR.out).at k _ hr
          have g1 := hcc 0 (.int .i64 ra) rfl
          have g2 := hcc 1 (.int .i64 re) rfl
          simp only [rgS, Nat.add_zero] at g1 g2
          have hki : (k : Int) < (n4 : Int) := by omega
          clear hcc hr hre u0 u1 u2
          go_wp2_with fail
          obtain ⟨q6, hq6⟩ : ∃ q6, q6 = wr.heap.size := ⟨_, rfl⟩
          obtain ⟨w6, hw6⟩ : ∃ w6, w6 = wr.alloc (.cells #[.int .i64 ra, .int .i64 re] 44) := ⟨_, rfl⟩
          have HX6 : Hid (Bx 44 w6 q6 #[.int .i64 ra, .int .i64 re]) := Lib.hid (by rw [hw6, hq6]; exact bx_new _ _ _)
          have HB6 : Hid (Below wr.heap.size wr w6) := Lib.hid (by rw [hw6]; exact ba1 _ _)
          have HWH6 : Hid (Wh blS 4 w6 g ks) := Lib.hid (HWH.out.below HB6.out)
          have hqg : ¬ q6 = g := by have := HWH.out.lt; omega
          rw [← hw6, ← hq6]
          clear hw6 hq6 g1 g2
          obtain ⟨wp, rfl⟩ : ∃ wp, wp = wr := ⟨_, rfl⟩
          go_loopw [10] (fun i wr7 => ∃ j : Nat, j ≤ rn ∧ i = .int .i64 ((ra + j : Nat) : Int) ∧ Wh blS 4 wr7 g (fill ks ra j) ∧ Bx 44 wr7 q6 #[.int .i64 ra, .int .i64 re] ∧ Only (fun j => j = g) w6 wr7) (fun i _ => re - (intOf i).toNat)
          case atStart => exact ⟨0, Nat.zero_le _, rfl, HWH6.out, HX6.out, Only.refl _ _⟩
          case round =>
            obtain ⟨j, hj, rfl, hwh, hbx, hon⟩ := hrel
            have HW7 := Lib.hid hwh
            have HX7 := Lib.hid hbx
            have HO7 := Lib.hid hon
            have hlen7 : (fill ks ra j).length = sn := by rw [fill_len]; exact HLN.out
            have hc1 := hbx.cell 1 (.int .i64 re) rfl
            have hql := hbx.lt
            obtain ⟨x, hx⟩ : ∃ x, ra + j = x := ⟨_, rfl⟩
            rw [hx]
            have HXX := Lib.hid hx
            have hre' := HRE.out
            have hx1 : x ≤ re := by omega
            clear hwh hbx hon
            by_cases hjn : x < re
            · obtain ⟨y, hy⟩ : ∃ y, (fill ks ra j)[x]? = some y := ⟨_, List.getElem?_eq_getElem (by omega)⟩
              have hcx := HW7.out.cell (fun b => .bool b) (fun _ => rfl) x y hy
              have hfx := HW7.out.soft x
              have hgl := HW7.out.lt
              have hxi : (x : Int) < (re : Int) := by omega
              have hxs : (x : Int) < (sn : Int) := by omega
              clear hy hx hre'
              go_wp2_with fail
              refine ⟨⟨j + 1, by have := HXX.out; have := HRE.out; omega, congrArg (Value.int .i64) (by have := HXX.out; omega), ?_, HX7.out.other hqg _, HO7.out.setCell (.inl rfl) _⟩, by simp [intOf]; omega⟩
              rw [show fill ks ra (j + 1) = (fill ks ra j).set x true by rw [← HXX.out]; rfl]
              exact HW7.out.put (fun b => .bool b) (fun _ => rfl) x true
            · have hxi : ¬ (x : Int) < (re : Int) := by omega
              obtain ⟨kt, hkt⟩ : ∃ l, l = mark ks ((ra : Int), (re : Int)) := ⟨_, rfl⟩
              have hfk : fill ks ra j = kt := by rw [hkt, show re = ra + j by omega, mark_nat]
              rw [hfk] at HW7
              have HW8 := HW7
              have HL8 : Hid (kt.length = sn) := Lib.hid (by rw [← hfk]; exact hlen7)
              have HIS : Hid (marks k9 rs = if 16 < islands kt then none else marks kt (rs.drop (k + 1))) := Lib.hid (by rw [HMK.out, marks_drop rs k _ HRk.out ks, hkt])
              have HON8 : Hid (Only (fun j => j = g) w4 wr) := Lib.hid ((HON.out.new HB6.out).trans HO7.out (fun j hj => .inl hj))
              have HB8 : Hid (Below wo.heap.size wo wr) := Lib.hid (HB4.out.trans (HON8.out.below (B := wo.heap.size) (fun j hj => by rw [hj, HG.out]; exact Nat.le_refl _) HB4.out.size))
              obtain ⟨z, hz⟩ : ∃ z, z = islands kt := ⟨_, rfl⟩
              rw [← hz] at HIS
              clear hkt hfk hlen7 hre' hx HW7
              have HZ := Lib.hid hz
              clear hz
              by_cases h16 : 16 < z
              · have HQ9 : Hid (q = (9, s)) := Lib.hid (by rw [HQ.out, HIS.out, if_pos h16]; rfl)
                have h16i : (16 : Int) < (z : Int) := by omega
                go_wp2_with (go_at_call 72; refine (islands_any (some ⟨g, 0, none⟩) sn sn kt _ HW8.out.ls HL8.out (by omega)).mono ?_; rw [← HZ.out]; rintro e w8 ⟨rfl, rfl⟩)
                go_ret
                exact ⟨by rw [HQ9.out]; first | done | rfl, by rw [HQ9.out]; exact HOr.out.new HB8.out, only_new (bthen HWw.out HB8.out)⟩
              · have h16i : ¬ (16 : Int) < (z : Int) := by omega
                have HM9 : Hid (marks k9 rs = marks kt (rs.drop (k + 1))) := Lib.hid (by rw [HIS.out, if_neg h16])
                go_wp2_with (go_at_call 72; refine (islands_any (some ⟨g, 0, none⟩) sn sn kt _ HW8.out.ls HL8.out (by omega)).mono ?_; rw [← HZ.out]; rintro e w8 ⟨rfl, rfl⟩)
                exact ⟨⟨k + 1, kt, by omega, by go_num, HL8.out, HM9.out, HW8.out, HON8.out⟩, by simp [intOf]; omega⟩
        · have hki : ¬ (k : Int) < (n4 : Int) := by omega
          have HD : Hid (marks k9 rs = some ks) := Lib.hid (by rw [HMK.out, List.drop_eq_nil_of_le (by rw [HRL.out]; omega)]; rfl)
          obtain ⟨s1, hs1⟩ : ∃ s1 : Sd, s1 = { s with known := ks } := ⟨_, rfl⟩
          obtain ⟨ed, hed⟩ : ∃ x, x = s.edge := ⟨_, rfl⟩
          have hed0 : 0 ≤ ed ∧ ed ≤ 1114112 := by rw [hed]; exact ⟨HOK.out.e0, HOK.out.e1⟩
          have HQ9 : Hid (q = (0, { s1 with edge := max ed (ack + win) })) := Lib.hid (by rw [HQ.out, HD.out, hs1, hed, HAW.out.1, HAW.out.2]; rfl)
          have hs1e : s1.edge = ed := by rw [hs1, hed]
          have hqg1 : ¬ q1 = g := by rw [HG.out]; omega
          have HXw : Hid (Bx 39 wr q1 #[.int .i64 d.kind, .slice A n c, .int .i64 ack, .int .i64 win, .slice S m e]) := Lib.hid (HX4.out.only HON.out hqg1)
          have HOw : Hid (Outl wr T B s) := Lib.hid (HOr.out.new HB5.out)
          obtain ⟨D2, cd2, K2, ck2, ⟨c0, c1, c2, c3, c4, c5⟩, ⟨f0, f1, f2, f3, f4, f5⟩, -, -⟩ := HOw.out.cells
          have hBw := HOw.out.lt
          obtain ⟨w9, hw9⟩ : ∃ w9, w9 = wr.setCell ⟨B, 4, none⟩ (.slice (some ⟨g, 0, none⟩) sn sn) := ⟨_, rfl⟩
          have HO9 : Hid (Outl w9 T B s1) := Lib.hid (by
            rw [hw9, hs1]
            refine HOw.out.putKnown _ ks sn sn HLN.out HWH.out.ls (fun a ha hb => ?_)
            injection ha with ha
            subst ha
            have hgw := HWH.out.lt
            have hgo := HG.out
            have hww := HWw.out.size
            simp only at hb
            rcases hb with hb | hb | hb
            · omega
            · have := hT _ hb; omega
            · omega)
          have HX9 : Hid (Bx 39 w9 q1 #[.int .i64 d.kind, .slice A n c, .int .i64 ack, .int .i64 win, .slice S m e]) := Lib.hid (by rw [hw9]; exact HXw.out.other hq1B _)
          have HN9 : Hid (Only (fun j => j = B) w w9) := Lib.hid (by rw [hw9]; exact (only_new (S := fun j => j = B) (bthen HWw.out HB5.out)).setCell (.inl rfl) _)
          clear hs1 hed
          go_wp2_with fail
          rw [← hw9]
          clear hw9 c0 c1 c2 c3 c4 c5 f0 f1 f2 f3 f4 f5
          obtain ⟨D3, cd3, K3, ck3, ⟨c0, c1, c2, c3, c4, c5⟩, ⟨f0, f1, f2, f3, f4, f5⟩, -, -⟩ := HO9.out.cells
          rw [hs1e] at c2
          have hBw9 := HO9.out.lt
          have a2 := HX9.out.cell 2 (.int .i64 ack) rfl
          have a3 := HX9.out.cell 3 (.int .i64 win) rfl
          have hw1 : IntKind.i64.wrap (ack + win) = ack + win := by rw [IntKind.wrap_i64]; omega
          have hq9 := HX9.out.lt
          by_cases hE : ed < ack + win
          · have e4 : decide (ed < ack + win) = true := by simp; omega
            have HQ7 : Hid (q = (0, { s1 with edge := ack + win })) := Lib.hid (by rw [HQ9.out, show max ed (ack + win) = ack + win by omega])
            go_quiet (fail)
            go_wp2
            go_ret
            exact ⟨by rw [HQ7.out]; first | done | rfl, by rw [HQ7.out]; exact (HO9.out.new (below_drewN (Below.refl _ _) _)).set 2 _ _ rfl rfl (fun _ _ _ _ => rfl), (only_drewN HN9.out _).setCell (.inl rfl) _⟩
          · have e4 : decide (ed < ack + win) = false := by simp; omega
            have HQ7 : Hid (q = (0, s1)) := Lib.hid (by rw [HQ9.out, show max ed (ack + win) = ed by omega, ← hs1e])
            go_quiet (fail)
            go_wp2
            go_ret
            exact ⟨by rw [HQ7.out]; first | done | rfl, by rw [HQ7.out]; exact HO9.out.new (below_drewN (Below.refl _ _) _), only_drewN HN9.out _⟩

end Go.Proofs.Ytehckiihipnimaa
