/-
  The walk of SendTrue.
-/
import Derived.Test.YtehckiihipnimaaDeeds
import Derived.Test.YtehckiihipnimaaSender
import Derived.Test.YtehckiihipnimaaSendKeep
namespace Go.Proofs.Ytehckiihipnimaa
open Go.RowKit
set_option linter.unusedVariables false
set_option linter.unusedSimpArgs false

/-- what the law keeps while it goes through the deeds -/
def StrX (wz : World) (n : Nat) (s0 : Sd) (l : List Dd) (dv cv nv ev iv : Value) (wr : World) : Prop :=
  ∃ (k : Nat) (D : Option Addr) (dc : Nat) (ed : Int) (s : Sd) (dl : Nat), k ≤ n ∧ iv = .int .i64 k ∧ s = sds s0 (l.take k) ∧ dl = s.data.length ∧ dv = .slice D dl dc ∧ OwnL byS 5 wr wz.heap.size D dl dc s.data ∧ cv = .bool s.closed ∧ nv = .int .i64 s.sent ∧ ev = .int .i64 ed ∧ s.edge ≤ ed ∧ 0 ≤ ed ∧ ed ≤ 11000 ∧
    dl ≤ 90 * k ∧ Below wz.heap.size wz wr
/-- .. behind one deed -/
def StrY (w6 : World) (base : Nat) (s' : Sd) (D0 : Option Addr) (dc0 : Nat) (dl : Nat) (dv cv nv ev : Value) (wx : World) : Prop :=
  ∃ (D : Option Addr) (dc : Nat) (ed : Int) (dl' : Nat), dl' = s'.data.length ∧ dv = .slice D dl' dc ∧ OwnL byS 5 wx base D dl' dc s'.data ∧ cv = .bool s'.closed ∧ nv = .int .i64 s'.sent ∧ ev = .int .i64 ed ∧ s'.edge ≤ ed ∧ 0 ≤ ed ∧ ed ≤ 11000 ∧ dl' ≤ dl + 90 ∧
    Only (fun j => (Value.slice D0 dl dc0).ownBlock = some j) w6 wx

theorem sent_get : ∀ (l : List Dd) (s : Sd) (k : Nat) (d : Dd), l[k]? = some d → (sent s l)[k]? = some (deed (sds s (l.take k)) d).1
  | [], s, k, d, h => by simp at h
  | x :: t, s, 0, d, h => by simp at h; subst h; rfl
  | x :: t, s, k + 1, d, h => by
    have := sent_get t (deed s x).2 k d (by simpa using h)
    simpa [sent, sds] using this
theorem sds_take (s : Sd) (l : List Dd) (k : Nat) (d : Dd) (h : l[k]? = some d) : sds s (l.take (k + 1)) = (deed (sds s (l.take k)) d).2 := (sent_take s l k d h).2

set_option maxRecDepth 100000 in
set_option maxHeartbeats 20000000 in
theorem walkSendTrue (window : Int) (A : Option Addr) (n c : Nat) (l : List Wv) (w : World) (h1 : -9223372036854775808 ≤ window) (h2 : window ≤ 9223372036854775807) (hb : Ls whS w A l) (hn : l.length = n) (hc : n ≤ c) (hr : c ≤ 3518437208782) (hin : WIn w l) :
    Calls Try.prog 4 #[.int .i64 window, .slice A n c] w fun e w' => e = .returned (.bool true) ∧ Below w.heap.size w w' := by
  have HL := Lib.hid hb
  have HN := Lib.hid hn
  have HI := Lib.hid hin
  obtain ⟨pw, hpw, hpw2⟩ := pick_nat window 300 (by omega)
  have hp0 : (0 : Int) ≤ (pw : Int) := by omega
  clear hb hn hin
  go_enter Try.func4, Try.ntmps4
  go_wp2_with (first
    | (go_at_call 20; (with_reducible refine (picked_n window 300 pw _ hpw h1 h2 (by omega) (by omega)).mono ?_); rintro e w' ⟨rfl, rfl⟩)
    | (go_at_call 21; refine (deeds_any A n c 120 150 l w HL.out HN.out HI.out (by omega) (by omega) (by omega)).mono ?_; rintro e w1 ⟨kn, A1, c1, xs, rfl, hk1, ho1, he1, ht1, hb1⟩; have HO1 := Lib.hid ho1; have HE1 := Lib.hid he1; have HT1 := Lib.hid ht1; have HB1 := Lib.hid hb1; clear ho1 he1 ht1 hb1)
    | (go_at_call 22; refine (sender_any (pw : Int) A1 kn c1 xs w1 (by omega) (by omega) (by omega) HO1.out.ls HO1.out.1 HE1.out.din _ rfl).mono ?_; unfold RetSr; rw [sent_len, List.length_map, HO1.out.1]; rintro e w2 ⟨A2, c2, l2, rfl, ho2, hm2, he2, hb2⟩; have HO2 := Lib.hid ho2; have HM2 := Lib.hid hm2; have HE2 := Lib.hid he2; have HB2 := Lib.hid hb2; clear ho2 hm2 he2 hb2))
  obtain ⟨ds, hds⟩ : ∃ ds, ds = xs.map Dv.d := ⟨_, rfl⟩
  have HDS := Lib.hid hds
  rw [← hds] at HM2
  have HLd : Hid (ds.length = kn) := Lib.hid (by rw [hds, List.length_map, HO1.out.1])
  have HTd : Hid (∀ d ∈ ds, Tame 150 d) := Lib.hid (fun d hd => by rw [hds] at hd; obtain ⟨x, hx, rfl⟩ := List.mem_map.1 hd; exact HT1.out x hx)
  have HK0 : Hid (SdOk (sd0 (pw : Int))) := Lib.hid (sd0_ok (by omega) (by omega))
  obtain ⟨s0, hs0⟩ : ∃ s, s = sd0 (pw : Int) := ⟨_, rfl⟩
  have hs0e : s0.edge = (pw : Int) := by rw [hs0]; rfl
  have hs0d : s0.data = [] := by rw [hs0]; rfl
  have hs0c : s0.closed = false := by rw [hs0]; rfl
  have hs0s : s0.sent = 0 := by rw [hs0]; rfl
  have HS0 := Lib.hid (And.intro hs0e (And.intro hs0d (And.intro hs0c hs0s)))
  rw [← hs0] at HM2 HK0
  clear hds hs0 hs0e hs0d hs0c hs0s hpw
  go_loopw [9, 10, 11, 12, 13] (fun dv cv nv ev iv wr => StrX w2 kn s0 ds dv cv nv ev iv wr) (fun _ _ _ _ i _ => kn - (intOf i).toNat)
  case atStart =>
    obtain ⟨g1, g2, g3, g4⟩ := HS0.out
    exact ⟨0, none, 0, pw, s0, 0, Nat.zero_le _, rfl, rfl, by rw [g2]; rfl, rfl, by rw [g2]; exact OwnL.nil _ _, by rw [g3], by rw [g4]; rfl, rfl, by rw [g1]; exact Int.le_refl _, by omega, by omega, by omega, Below.refl _ _⟩
  case round =>
    obtain ⟨k, D, dc, ed, s, dl, hk, rfl, hs, hdl, rfl, hD, rfl, rfl, rfl, hed, hed0, hed1, hdl9, hbw⟩ := hrel
    have HS := Lib.hid hs
    have HDL := Lib.hid hdl
    have HD := Lib.hid hD
    have HBW := Lib.hid hbw
    have HOK : Hid (SdOk s) := Lib.hid (by rw [hs]; exact sds_ok _ HK0.out)
    clear hs hdl hD hbw
    by_cases hlt : k < kn
    · obtain ⟨y, hy⟩ : ∃ y, xs[k]? = some y := ⟨_, List.getElem?_eq_getElem (by rw [HO1.out.1]; exact hlt)⟩
      have hyd : ds[k]? = some y.d := by rw [HDS.out, List.getElem?_map, hy]; rfl
      have hty := HTd.out y.d (List.mem_of_getElem? hyd)
      obtain ⟨bL, oL, rfl, hbl, hcc⟩ := ((HO1.out.ls.below HB2.out).below HBW.out).at k y hy
      obtain ⟨z, hz, hze, hzd, hzn⟩ := told_at (HO2.out.below HBW.out) HM2.out (HE2.out.new HBW.out) k _ (sent_get ds s0 k y.d hyd)
      obtain ⟨bT, oT, rfl, hbt, hct⟩ := (HO2.out.below HBW.out).ls.at k z hz
      have hki : (k : Int) < (kn : Int) := by omega
      have hs' := sds_take s0 ds k y.d hyd
      rw [← HS.out] at hze hzd hzn hs'
      obtain ⟨⟨t, s'⟩, hd⟩ : ∃ r, r = deed s y.d := ⟨_, rfl⟩
      rw [← hd] at hze hzd hzn hs'
      simp only at hze hzd hzn hs'
      obtain ⟨zs, zA, zn, zc⟩ := z
      simp only at hze hzn hzd
      subst hze
      subst hzn
      obtain ⟨ml, hml⟩ : ∃ x, x = zs.data.length := ⟨_, rfl⟩
      rw [← hml] at hct
      have p0 := hct 0 (.int .i64 zs.code) rfl
      have p1 := hct 1 (.int .i64 zs.at_) rfl
      have p2 := hct 2 (.slice zA ml zc) rfl
      have p3 := hct 3 (.bool zs.fin) rfl
      have p4 := hct 4 (.bool zs.again) rfl
      have p5 := hct 5 (.bool zs.idle) rfl
      have p6 := hct 6 (.int .i64 zs.left) rfl
      simp only [seS, Nat.add_zero] at p0 p1 p2 p3 p4 p5 p6
      have q0 := hcc 0 (.int .i64 y.d.kind) rfl
      have q1 := hcc 1 (.slice y.A y.n y.c) rfl
      have q2 := hcc 2 (.int .i64 y.d.ack) rfl
      have q3 := hcc 3 (.int .i64 y.d.win) rfl
      simp only [deS, Nat.add_zero] at q0 q1 q2 q3
      obtain ⟨kd, hkd⟩ : ∃ x, x = y.d.kind := ⟨_, rfl⟩
      rw [← hkd] at q0
      have HKD := Lib.hid hkd
      clear hkd
      have HML := Lib.hid hml
      have HDE := Lib.hid hd
      have HS' := Lib.hid hs'
      have HTY := Lib.hid hty
      have HZD := Lib.hid hzd
      obtain ⟨hyA, hyn, -, -, hyn47, -, -, -⟩ := (HE1.out.new HB2.out).new HBW.out y (List.mem_of_getElem? hy)
      have HYA := Lib.hid hyA
      have HYN := Lib.hid hyn
      have HHY := Lib.hid hy
      clear hcc hct hml hd hs' hty hzd hyA hyn hz hy hyd
      obtain ⟨q14, hq14⟩ : ∃ q, q = wr.heap.size := ⟨_, rfl⟩
      obtain ⟨w6, hw6⟩ : ∃ w6, w6 = wr.alloc (.cells #[.int .i64 zs.code, .int .i64 zs.at_, .slice zA ml zc, .bool zs.fin, .bool zs.again, .bool zs.idle, .int .i64 zs.left] 29) := ⟨_, rfl⟩
      have HB6 : Hid (Below wr.heap.size wr w6) := Lib.hid (by rw [hw6]; exact ba1 _ _)
      have HX14 : Hid (Bx 29 w6 q14 #[.int .i64 zs.code, .int .i64 zs.at_, .slice zA ml zc, .bool zs.fin, .bool zs.again, .bool zs.idle, .int .i64 zs.left]) := Lib.hid (by rw [hw6, hq14]; exact bx_new _ _ _)
      have r0 := (HB6.out.cell (p := ⟨bL, oL + k * 5, none⟩) hbl).trans q0
      have r1 := (HB6.out.cell (p := ⟨bL, oL + k * 5 + 1, none⟩) hbl).trans q1
      have r2 := (HB6.out.cell (p := ⟨bL, oL + k * 5 + 2, none⟩) hbl).trans q2
      have r3 := (HB6.out.cell (p := ⟨bL, oL + k * 5 + 3, none⟩) hbl).trans q3
      have hbl6 := Nat.lt_of_lt_of_le hbl HB6.out.size
      have HQ14 := Lib.hid hq14
      go_upto_region 14 with fail
      rw [← hw6, ← hq14]
      clear hw6 hq14 p0 p1 p2 p3 p4 p5 p6 q0 q1 q2 q3 hbl hbt
      have x0 := HX14.out.cell 0 (.int .i64 zs.code) rfl
      have x1 := HX14.out.cell 1 (.int .i64 zs.at_) rfl
      have x2 := HX14.out.cell 2 (.slice zA ml zc) rfl
      have x3 := HX14.out.cell 3 (.bool zs.fin) rfl
      have x4 := HX14.out.cell 4 (.bool zs.again) rfl
      have x5 := HX14.out.cell 5 (.bool zs.idle) rfl
      have x6 := HX14.out.cell 6 (.int .i64 zs.left) rfl
      have lx := HX14.out.lt
      go_upto_block 2 with fail
      have HD6 : Hid (OwnL byS 5 w6 w2.heap.size D dl dc s.data) := Lib.hid (HD.out.below HB6.out)
      have hdl2 : dl ≤ 10800 := by omega
      have hsnt : s.sent ≤ dl + 1 := by have := HOK.out.sent; have := places_le s; rw [HDL.out]; omega
      have HSAME : Hid (s' = s → StrY w6 w2.heap.size s' D dc dl (.slice D dl dc) (.bool s.closed) (.int .i64 s.sent) (.int .i64 ed) w6) := Lib.hid (fun e => by
        subst e
        exact ⟨D, dc, ed, dl, HDL.out, rfl, HD6.out, rfl, rfl, rfl, hed, hed0, hed1, by omega, Only.refl _ _⟩)
      go_cut [9, 10, 11, 12, 15] (fun dv cv nv ev u wx => StrY w6 w2.heap.size s' D dc dl dv cv nv ev wx)
      case first =>
        obtain ⟨t1, t2, t3, t4, t5, t6, t7, -, -⟩ := HTY.out
        rw [← HKD.out] at t1 t2
        by_cases k1 : kd = 1
        · as_aux_lemma =>
            subst k1
            rcases deed_submit s y.d HKD.out.symm with ⟨hc0, hs1⟩ | ⟨hc0, hs1⟩
            · rw [← HDE.out] at hc0 hs1
              simp only at hc0 hs1
              rw [hc0] at x0
              have HS1 := Lib.hid hs1
              have hyl : y.n ≤ 90 := by rw [← HYN.out]; exact t3
              clear hc0 hs1
              go_wp2_with (at_builtin; refine wpList_appL (F := byS) rfl w6 (.tmp 49) (.tmp 54) 27 rfl _ 1 Try.underlying27 byInfo rfl w2.heap.size D dl dc s.data rfl HD6.out y.A y.n y.c y.d.data rfl (HYA.out.below HB6.out) HYN.out (dl + y.n) rfl (by omega) (by omega) (by have := HBW.out.size; have := HB6.out.size; omega) ?_; intro A8 c8 w8 ho8 hb8 hs8; have HO8 := Lib.hid ho8; have HB8 := Lib.hid hb8; have HS8 := Lib.hid hs8; clear ho8 hb8 hs8)
              go_meet
              refine ⟨A8, c8, ed, dl + y.n, ?_, rfl, ?_, ?_, ?_, rfl, ?_, hed0, hed1, by omega, HS8.out.only HB8.out⟩
              · rw [HS1.out]; simp only [List.length_append]; rw [← HDL.out, HYN.out]
              · rw [HS1.out]; exact HO8.out
              · rw [HS1.out]
              · rw [HS1.out]
              · rw [HS1.out]; exact hed
            · rw [← HDE.out] at hc0 hs1
              simp only at hc0 hs1
              have hci : (zs.code == 0) = false := beq_eq_false_iff_ne.2 hc0
              have HS1 := Lib.hid hs1
              clear hc0 hs1
              go_wp2_with fail
              go_meet
              exact HSAME.out HS1.out
        · by_cases k5 : kd = 5
          · as_aux_lemma =>
              subst k5
              rcases deed_close s y.d HKD.out.symm with ⟨hc0, hcl, hs1⟩ | ⟨hc0, hcl, hs1⟩
              · rw [← HDE.out] at hc0 hs1
                simp only at hc0 hs1
                rw [hc0] at x0
                have HS1 := Lib.hid hs1
                have HCL := Lib.hid hcl
                rw [hcl]
                clear hc0 hs1 hcl
                go_wp2_with fail
                go_meet
                exact ⟨D, dc, ed, dl, by rw [HS1.out]; exact HDL.out, rfl, by rw [HS1.out]; exact HD6.out, by rw [HS1.out], by rw [HS1.out], rfl, by rw [HS1.out]; exact hed, hed0, hed1, by omega, Only.refl _ _⟩
              · rw [← HDE.out] at hc0 hs1
                simp only at hc0 hs1
                rw [hc0] at x0
                have HS1 := Lib.hid hs1
                have HCL := Lib.hid hcl
                rw [hcl]
                clear hc0 hs1 hcl
                go_wp2_with fail
                go_meet
                have := HSAME.out HS1.out
                rw [HCL.out] at this
                exact this
          · by_cases k2 : kd = 2
            · as_aux_lemma =>
                subst k2
                rcases deed_heard s y.d HKD.out.symm with ⟨hc0, kk, hs1⟩ | ⟨hc0, hs1⟩
                · rw [← HDE.out] at hc0 hs1
                  simp only at hc0 hs1
                  rw [hc0] at x0
                  have HS1 := Lib.hid hs1
                  obtain ⟨ack, hack⟩ : ∃ a, a = y.d.ack := ⟨_, rfl⟩
                  obtain ⟨win, hwin⟩ : ∃ a, a = y.d.win := ⟨_, rfl⟩
                  rw [← hack] at t4 t5 r2
                  rw [← hwin] at t6 t7 r3
                  have HAW := Lib.hid (And.intro hack hwin)
                  have hwr : IntKind.i64.wrap (ack + win) = ack + win := by rw [IntKind.wrap_i64]; omega
                  clear hc0 hs1 hack hwin
                  have hne : s'.edge ≤ max ed (ack + win) := by
                    rw [HS1.out, HAW.out.1, HAW.out.2]; simp only; omega
                  go_upto_region 24 with fail
                  go_region
                  all_goals
                    go_wp2_with fail
                  all_goals
                    go_meet
                    exact ⟨D, dc, _, dl, by rw [HS1.out]; exact HDL.out, rfl, by rw [HS1.out]; exact HD6.out.below (Below.refl _ _).drew, by rw [HS1.out], by rw [HS1.out], rfl, by omega, by omega, by omega, by omega, (Only.refl _ _).drew⟩
                · rw [← HDE.out] at hc0 hs1
                  simp only at hc0 hs1
                  have hci : (zs.code == 0) = false := beq_eq_false_iff_ne.2 hc0
                  have HS1 := Lib.hid hs1
                  clear hc0 hs1
                  go_wp2_with fail
                  go_meet
                  exact HSAME.out HS1.out
            · by_cases k4 : kd = 4
              · as_aux_lemma =>
                  subst k4
                  obtain ⟨hc0, hs1⟩ := deed_timeout s y.d HKD.out.symm
                  rw [← HDE.out] at hs1
                  simp only at hs1
                  have HS1 := Lib.hid hs1
                  have hw1 : IntKind.i64.wrap ((s.sent : Int) + 1) = (s.sent : Int) + 1 := by rw [IntKind.wrap_i64]; omega
                  clear hc0 hs1
                  have hne : s'.edge ≤ max ed ((s.sent : Int) + 1) ∧ (¬ ed ≤ s.sent → s'.edge ≤ ed) := by
                    rw [HS1.out]; simp only
                    split <;> omega
                  obtain ⟨hne1, hne2⟩ := hne
                  by_cases hge : ed ≤ (s.sent : Int)
                  · go_wp2_with fail
                    all_goals
                      go_meet
                      exact ⟨D, dc, _, dl, by rw [HS1.out]; exact HDL.out, rfl, by rw [HS1.out]; exact HD6.out, by rw [HS1.out], by rw [HS1.out], rfl, by omega, by omega, by omega, by omega, Only.refl _ _⟩
                  · go_wp2_with fail
                    go_meet
                    exact ⟨D, dc, ed, dl, by rw [HS1.out]; exact HDL.out, rfl, by rw [HS1.out]; exact HD6.out, by rw [HS1.out], by rw [HS1.out], rfl, hne2 hge, hed0, hed1, by omega, Only.refl _ _⟩
              · obtain rfl : kd = 3 := by omega
                clear k1 k5 k2 k4
                have e := HDE.out
                rw [deed_poll s y.d HKD.out.symm] at e
                rcases poll_good HOK.out with hp | ⟨a, m, fin, ag, s1, hp, G⟩
                · rw [hp] at e
                  injection e with e1 e2
                  have ez1 : zs.at_ = 0 := by rw [e1]; rfl
                  have ez3 : zs.fin = false := by rw [e1]; rfl
                  have ez4 : zs.again = false := by rw [e1]; rfl
                  have ez5 : zs.idle = true := by rw [e1]
                  have ez2 : ml = 0 := by rw [HML.out, e1]; rfl
                  rw [ez1] at x1
                  rw [ez3] at x3
                  rw [ez4] at x4
                  rw [ez5] at x5
                  rw [ez2] at x2
                  have HE2' := Lib.hid e2
                  clear e1 e2 ez1 ez2 ez3 ez4 ez5 hp
                  go_wp2_with fail
                  go_meet
                  exact HSAME.out HE2'.out
                · rw [hp] at e
                  injection e with e1 e2
                  have ez1 : zs.at_ = (a : Int) := by rw [e1]
                  have ez3 : zs.fin = fin := by rw [e1]
                  have ez4 : zs.again = ag := by rw [e1]
                  have ez5 : zs.idle = false := by rw [e1]
                  have ezd : zs.data = (s.data.drop a).take m := by rw [e1]
                  have g1 := G.few
                  have g2 := G.inn
                  rw [← HDL.out] at g2
                  have ez2 : ml = m := by rw [HML.out, ezd, List.length_take, List.length_drop, ← HDL.out]; omega
                  rw [ez1] at x1
                  rw [ez3] at x3
                  rw [ez4] at x4
                  rw [ez5] at x5
                  rw [ez2] at x2
                  rw [ezd] at HZD
                  have HE2' := Lib.hid e2
                  have HG := Lib.hid G
                  obtain ⟨tq, htq⟩ : ∃ t, t = a + m := ⟨_, rfl⟩
                  rw [← htq] at g2
                  have hwr : IntKind.i64.wrap ((a : Int) + (m : Int)) = (tq : Int) := by rw [IntKind.wrap_i64]; omega
                  have hsz : 0 < w6.heap.size := by omega
                  -- the bytes that were told stand there
                  have hcap := HD6.out.cap
                  have haddr := HD6.out.addr
                  have hfin := HG.out.fi
                  have hsome := HG.out.some_
                  rw [← HDL.out, ← htq] at hfin
                  clear e1 e2 ez1 ez2 ez3 ez4 ez5 ezd hp G
                  have z1 : (0 : Int) ≤ (a : Int) := by omega
                  have z2 : (a : Int) ≤ (tq : Int) := by omega
                  have z3 : (tq : Int) ≤ (dc : Int) := by omega
                  have z5 : ((a : Int)).toNat = a := by omega
                  have z6 : ((tq : Int)).toNat = tq := by omega
                  have z7 : tq - a = m := by omega
                  have z8 : decide ((64 : Int) < (m : Int)) = false := by simp; omega
                  have z9 : decide (dl < tq) = false := by simp; omega
                  have z0 : decide ((a : Int) < 0) = false := by simp
                  have HMD : Hid (((s.data.drop a).take m).length = m) := Lib.hid (by rw [List.length_take, List.length_drop, ← HDL.out]; omega)
                  have HHT := Lib.hid htq
                  clear htq
                  -- what comes behind the comparison
                  have HRS : Hid (∀ wx, Below w6.heap.size w6 wx → StrY w6 w2.heap.size s' D dc dl (.slice D dl dc) (.bool s.closed) (.int .i64 s'.sent) (.int .i64 ed) wx) := Lib.hid (fun wx hx => by
                    refine ⟨D, dc, ed, dl, by rw [HE2'.out, HG.out.data]; exact HDL.out, rfl, by rw [HE2'.out, HG.out.data]; exact HD6.out.below hx, by rw [HE2'.out, HG.out.closed], rfl, rfl, by rw [HE2'.out, HG.out.edge]; exact hed, hed0, hed1, by omega, only_new hx⟩)
                  have b1 := cell_drew1 x1
                  have b2 := cell_drew1 x2
                  have b3 := cell_drew1 x3
                  have HWd : Hid (Below w6.heap.size w6 w6.drew) := Lib.hid (Below.refl _ _).drew
                  rcases haddr with ⟨rfl, hd0, hc0⟩ | ⟨g, rfl, hg⟩
                  · have hm00 : m = 0 := by omega
                    have hfc := hsome hm00
                    have HSBa : Hid (∀ nq, Calls Try.prog 23 #[.slice zA m zc, .slice none m (dc - a)] (World.drewN w6 nq) fun e w'' => e = .returned (.bool true) ∧ ∃ mm, w'' = (World.drewN w6 nq).drewN mm) := Lib.hid (fun nq => by
                      have hw' : Below w6.heap.size w6 (World.drewN w6 nq) := below_drewN (Below.refl _ _) nq
                      refine same_keepq zA m zc none (dc - a) ((s.data.drop a).take m) _ ((HZD.out.below HB6.out).below hw') ?_ HMD.out (by omega)
                      have : (s.data.drop a).take m = [] := List.eq_nil_of_length_eq_zero (by rw [HMD.out]; omega)
                      rw [this]; exact Ls.nil _ _)
                    have HF := Lib.hid hfc
                    rw [hfc] at x3 b3
                    obtain ⟨hdq, hcl⟩ := hfin hfc
                    have HCL := Lib.hid hcl
                    obtain ⟨tz, htz⟩ : ∃ t, t = tq + 1 := ⟨_, rfl⟩
                    have hG : tq = a + m := HHT.out
                    have hg1 := HG.out.again
                    have hg2 := HG.out.new
                    rw [HF.out] at hg1 hg2
                    simp only [if_true] at hg1 hg2
                    have hsn' : s'.sent = max s.sent tz := by
                      rw [HE2'.out]
                      rcases hag : ag with _ | _
                      · obtain ⟨u1, u2, u3⟩ := hg2 hag
                        rw [u3]; omega
                      · obtain ⟨u1, u2, u3⟩ := hg1 hag
                        rw [u2]; omega
                    have hle : (ag = true → tz ≤ s.sent) ∧ (ag = false → a = s.sent ∧ (tz : Int) ≤ s.edge) := ⟨fun h => by have := (hg1 h).1; omega, fun h => by have := hg2 h; omega⟩
                    have HSN' := Lib.hid hsn'
                    obtain ⟨hle1, hle2⟩ := hle
                    have hwz : IntKind.i64.wrap ((dl : Int) + 1) = (tz : Int) := by rw [IntKind.wrap_i64]; omega
                    rw [hcl]
                    have hdq' := hdq.symm
                    subst hdq'
                    have HTZ := Lib.hid htz
                    have z10 : ((m : Int) == 0) = true := by rw [hm00]; rfl
                    have z11 : (m == 0) = true := by rw [hm00]; rfl
                    have HM0 := Lib.hid (And.intro hm00 (And.intro hd0 hc0))
                    clear hfc hfin hsome hcl hsn' hg1 hg2 htz hdq hG hm00 hd0 hc0
                    as_aux_lemma =>
                      go_upto_region 33 with fail
                      go_quiet ((go_at_call 23; with_reducible exact Calls.quiet_of (HSBa.out _)))
                      generalize hwc : World.drewN w6 _ = wc
                      have hbc : Below w6.heap.size w6 wc := by rw [← hwc]; exact below_drewN (Below.refl _ _) _
                      clear hwc
                      have y3 := (hbc.cell (p := ⟨q14, 3, none⟩) lx).trans x3
                      have y4 := (hbc.cell (p := ⟨q14, 4, none⟩) lx).trans x4
                      have y1 := (hbc.cell (p := ⟨q14, 1, none⟩) lx).trans x1
                      have lxc := Nat.lt_of_lt_of_le lx hbc.size
                      have HBC := Lib.hid hbc
                      have HR2 := Lib.hid (HRS.out wc hbc)
                      clear hbc x0 x1 x2 x3 x4 x5 r0 r1 r2 r3 b1 b2 b3
                      rcases hagc : ag with _ | _
                      · obtain ⟨h1', h2'⟩ := hle2 hagc
                        rw [hagc] at y4
                        have q1 : ((a : Int) != (s.sent : Int)) = false := by simp [h1']
                        have q1' : (a != s.sent) = false := by simp [h1']
                        have q2 : decide ((ed : Int) < (tz : Int)) = false := by simp; omega
                        clear hagc hle1 hle2 h1' h2'
                        go_wp2_with fail
                        all_goals
                          go_meet
                        all_goals
                          (have hsn := HSN'.out
                           have hr := HR2.out
                           rw [hsn] at hr
                           try rw [HCL.out] at hr
                           first
                             | (rw [show max s.sent tz = tz by omega] at hr; exact hr)
                             | (rw [show max s.sent tz = s.sent by omega] at hr; exact hr))
                      · have h1' := hle1 hagc
                        rw [hagc] at y4
                        have q2 : decide (s.sent < tz) = false := by simp; omega
                        clear hagc hle1 hle2
                        go_wp2_with fail
                        all_goals
                          go_meet
                        all_goals
                          (have hsn := HSN'.out
                           have hr := HR2.out
                           rw [hsn] at hr
                           try rw [HCL.out] at hr
                           first
                             | (rw [show max s.sent tz = tz by omega] at hr; exact hr)
                             | (rw [show max s.sent tz = s.sent by omega] at hr; exact hr))

                  · skip
                    have HSB : Hid (∀ oD, (dl = a ∨ oD = a) → ∀ nq, Calls Try.prog 23 #[.slice zA m zc, .slice (some ⟨g, oD, none⟩) m (dc - a)] (World.drewN w6 nq) fun e w'' => e = .returned (.bool true) ∧ ∃ mm, w'' = (World.drewN w6 nq).drewN mm) := Lib.hid (fun oD hoD nq => by
                      have hw' : Below w6.heap.size w6 (World.drewN w6 nq) := below_drewN (Below.refl _ _) nq
                      refine same_keepq zA m zc (some ⟨g, oD, none⟩) (dc - a) ((s.data.drop a).take m) _ ((HZD.out.below HB6.out).below hw') ?_ HMD.out (by omega)
                      rcases hoD with h | h
                      · have : (s.data.drop a).take m = [] := List.eq_nil_of_length_eq_zero (by rw [HMD.out]; omega)
                        rw [this]; exact Ls.nil _ _
                      · rw [h]
                        have := ((HD6.out.below hw').ls.drop1 rfl a).take m
                        rw [Nat.zero_add] at this
                        exact this)
                    rcases hfc : fin with _ | _
                    · have hm0 : 0 < m := by
                        rcases Nat.eq_zero_or_pos m with h | h
                        · rw [hsome h] at hfc; cases hfc
                        · exact h
                      have z10 : ((m : Int) == 0) = false := beq_eq_false_iff_ne.2 (by omega)
                      have z11 : (m == 0) = false := beq_eq_false_iff_ne.2 (by omega)
                      have HF := Lib.hid hfc
                      rw [hfc] at x3 b3
                      have hda : ¬ dc = a := by omega
                      have HSBa := Lib.hid (HSB.out a (.inr rfl))
                      clear hfc hfin hsome
                      as_aux_lemma =>
                        go_upto_region 33 with fail
                        go_quiet ((go_at_call 23; with_reducible exact Calls.quiet_of (HSBa.out _)))
                        generalize hwc : World.drewN w6 _ = wc
                        have hbc : Below w6.heap.size w6 wc := by rw [← hwc]; exact below_drewN (Below.refl _ _) _
                        clear hwc
                        have y3 := (hbc.cell (p := ⟨q14, 3, none⟩) lx).trans x3
                        have y4 := (hbc.cell (p := ⟨q14, 4, none⟩) lx).trans x4
                        have y1 := (hbc.cell (p := ⟨q14, 1, none⟩) lx).trans x1
                        have lxc := Nat.lt_of_lt_of_le lx hbc.size
                        have HBC := Lib.hid hbc
                        have hG : tq = a + m := HHT.out
                        have hg1 := HG.out.again
                        have hg2 := HG.out.new
                        rw [HF.out] at hg1 hg2
                        simp only [Bool.false_eq_true, if_false, Nat.add_zero] at hg1 hg2
                        have hsn' : s'.sent = max s.sent tq := by
                          rw [HE2'.out]
                          rcases hag : ag with _ | _
                          · obtain ⟨u1, u2, u3⟩ := hg2 hag
                            rw [u3]; omega
                          · obtain ⟨u1, u2, u3⟩ := hg1 hag
                            rw [u2]; omega
                        have hle : (ag = true → tq ≤ s.sent) ∧ (ag = false → a = s.sent ∧ (tq : Int) ≤ s.edge) := ⟨fun h => by have := (hg1 h).1; omega, fun h => by have := hg2 h; omega⟩
                        have HSN' := Lib.hid hsn'
                        obtain ⟨hle1, hle2⟩ := hle
                        clear hbc x0 x1 x2 x3 x4 x5 r0 r1 r2 r3 b1 b2 b3 hsn' hG hg1 hg2
                        rcases hagc : ag with _ | _
                        · obtain ⟨h1', h2'⟩ := hle2 hagc
                          rw [hagc] at y4
                          have q1 : ((a : Int) != (s.sent : Int)) = false := by simp [h1']
                          have q1' : (a != s.sent) = false := by simp [h1']
                          have q2 : decide ((ed : Int) < (tq : Int)) = false := by simp; omega
                          clear hagc hle1 hle2 h1' h2'
                          go_wp2_with fail
                          all_goals
                            go_meet
                          all_goals
                            (have hsn := HSN'.out
                             have hr := HRS.out wc HBC.out
                             rw [hsn] at hr
                             first
                               | (rw [show max s.sent tq = tq by omega] at hr; exact hr)
                               | (rw [show max s.sent tq = s.sent by omega] at hr; exact hr))
                        · have h1' := hle1 hagc
                          rw [hagc] at y4
                          have q2 : decide (s.sent < tq) = false := by simp; omega
                          clear hagc hle1 hle2
                          go_wp2_with fail
                          all_goals
                            go_meet
                          all_goals
                            (have hsn := HSN'.out
                             have hr := HRS.out wc HBC.out
                             rw [hsn] at hr
                             first
                               | (rw [show max s.sent tq = tq by omega] at hr; exact hr)
                               | (rw [show max s.sent tq = s.sent by omega] at hr; exact hr))
                    · have HF := Lib.hid hfc
                      rw [hfc] at x3 b3
                      obtain ⟨hdq, hcl⟩ := hfin hfc
                      have HCL := Lib.hid hcl
                      obtain ⟨tz, htz⟩ : ∃ t, t = tq + 1 := ⟨_, rfl⟩
                      have hG : tq = a + m := HHT.out
                      have hg1 := HG.out.again
                      have hg2 := HG.out.new
                      rw [HF.out] at hg1 hg2
                      simp only [if_true] at hg1 hg2
                      have hsn' : s'.sent = max s.sent tz := by
                        rw [HE2'.out]
                        rcases hag : ag with _ | _
                        · obtain ⟨u1, u2, u3⟩ := hg2 hag
                          rw [u3]; omega
                        · obtain ⟨u1, u2, u3⟩ := hg1 hag
                          rw [u2]; omega
                      have hle : (ag = true → tz ≤ s.sent) ∧ (ag = false → a = s.sent ∧ (tz : Int) ≤ s.edge) := ⟨fun h => by have := (hg1 h).1; omega, fun h => by have := hg2 h; omega⟩
                      have HSN' := Lib.hid hsn'
                      obtain ⟨hle1, hle2⟩ := hle
                      have hwz : IntKind.i64.wrap ((dl : Int) + 1) = (tz : Int) := by rw [IntKind.wrap_i64]; omega
                      rw [hcl]
                      have hdq' := hdq.symm
                      subst hdq'
                      have HTZ := Lib.hid htz
                      clear hfc hfin hsome hcl hsn' hg1 hg2 htz hdq hG
                      by_cases hm0 : m = 0
                      · have z10 : ((m : Int) == 0) = true := by rw [hm0]; rfl
                        have z11 : (m == 0) = true := by rw [hm0]; rfl
                        have hdla : dc = a → dl = a := fun h => by have := HHT.out; omega
                        have HM0 := Lib.hid hm0
                        clear hm0
                        by_cases hda : dc = a
                        · as_aux_lemma =>
                            have HSBa := Lib.hid (HSB.out 0 (.inl (hdla hda)))
                            clear hdla
                            have hdi : (if dc = a then (some ⟨g, 0, none⟩ : Option Addr) else some ⟨g, a, none⟩) = some ⟨g, 0, none⟩ := if_pos hda
                            have HDA := Lib.hid hda
                            clear hda
                            go_upto_region 33 with fail
                            go_quiet ((go_at_call 23; with_reducible exact Calls.quiet_of (HSBa.out _)))
                            generalize hwc : World.drewN w6 _ = wc
                            have hbc : Below w6.heap.size w6 wc := by rw [← hwc]; exact below_drewN (Below.refl _ _) _
                            clear hwc
                            have y3 := (hbc.cell (p := ⟨q14, 3, none⟩) lx).trans x3
                            have y4 := (hbc.cell (p := ⟨q14, 4, none⟩) lx).trans x4
                            have y1 := (hbc.cell (p := ⟨q14, 1, none⟩) lx).trans x1
                            have lxc := Nat.lt_of_lt_of_le lx hbc.size
                            have HBC := Lib.hid hbc
                            have HR2 := Lib.hid (HRS.out wc hbc)
                            clear hbc x0 x1 x2 x3 x4 x5 r0 r1 r2 r3 b1 b2 b3
                            rcases hagc : ag with _ | _
                            · obtain ⟨h1', h2'⟩ := hle2 hagc
                              rw [hagc] at y4
                              have q1 : ((a : Int) != (s.sent : Int)) = false := by simp [h1']
                              have q1' : (a != s.sent) = false := by simp [h1']
                              have q2 : decide ((ed : Int) < (tz : Int)) = false := by simp; omega
                              clear hagc hle1 hle2 h1' h2'
                              go_wp2_with fail
                              all_goals
                                go_meet
                              all_goals
                                (have hsn := HSN'.out
                                 have hr := HR2.out
                                 rw [hsn] at hr
                                 try rw [HCL.out] at hr
                                 first
                                   | (rw [show max s.sent tz = tz by omega] at hr; exact hr)
                                   | (rw [show max s.sent tz = s.sent by omega] at hr; exact hr))
                            · have h1' := hle1 hagc
                              rw [hagc] at y4
                              have q2 : decide (s.sent < tz) = false := by simp; omega
                              clear hagc hle1 hle2
                              go_wp2_with fail
                              all_goals
                                go_meet
                              all_goals
                                (have hsn := HSN'.out
                                 have hr := HR2.out
                                 rw [hsn] at hr
                                 try rw [HCL.out] at hr
                                 first
                                   | (rw [show max s.sent tz = tz by omega] at hr; exact hr)
                                   | (rw [show max s.sent tz = s.sent by omega] at hr; exact hr))

                        · as_aux_lemma =>
                            clear hdla
                            have HSBa := Lib.hid (HSB.out a (.inr rfl))
                            go_upto_region 33 with fail
                            go_quiet ((go_at_call 23; with_reducible exact Calls.quiet_of (HSBa.out _)))
                            generalize hwc : World.drewN w6 _ = wc
                            have hbc : Below w6.heap.size w6 wc := by rw [← hwc]; exact below_drewN (Below.refl _ _) _
                            clear hwc
                            have y3 := (hbc.cell (p := ⟨q14, 3, none⟩) lx).trans x3
                            have y4 := (hbc.cell (p := ⟨q14, 4, none⟩) lx).trans x4
                            have y1 := (hbc.cell (p := ⟨q14, 1, none⟩) lx).trans x1
                            have lxc := Nat.lt_of_lt_of_le lx hbc.size
                            have HBC := Lib.hid hbc
                            have HR2 := Lib.hid (HRS.out wc hbc)
                            clear hbc x0 x1 x2 x3 x4 x5 r0 r1 r2 r3 b1 b2 b3
                            rcases hagc : ag with _ | _
                            · obtain ⟨h1', h2'⟩ := hle2 hagc
                              rw [hagc] at y4
                              have q1 : ((a : Int) != (s.sent : Int)) = false := by simp [h1']
                              have q1' : (a != s.sent) = false := by simp [h1']
                              have q2 : decide ((ed : Int) < (tz : Int)) = false := by simp; omega
                              clear hagc hle1 hle2 h1' h2'
                              go_wp2_with fail
                              all_goals
                                go_meet
                              all_goals
                                (have hsn := HSN'.out
                                 have hr := HR2.out
                                 rw [hsn] at hr
                                 try rw [HCL.out] at hr
                                 first
                                   | (rw [show max s.sent tz = tz by omega] at hr; exact hr)
                                   | (rw [show max s.sent tz = s.sent by omega] at hr; exact hr))
                            · have h1' := hle1 hagc
                              rw [hagc] at y4
                              have q2 : decide (s.sent < tz) = false := by simp; omega
                              clear hagc hle1 hle2
                              go_wp2_with fail
                              all_goals
                                go_meet
                              all_goals
                                (have hsn := HSN'.out
                                 have hr := HR2.out
                                 rw [hsn] at hr
                                 try rw [HCL.out] at hr
                                 first
                                   | (rw [show max s.sent tz = tz by omega] at hr; exact hr)
                                   | (rw [show max s.sent tz = s.sent by omega] at hr; exact hr))

                      · as_aux_lemma =>
                          have z10 : ((m : Int) == 0) = false := beq_eq_false_iff_ne.2 (by omega)
                          have z11 : (m == 0) = false := beq_eq_false_iff_ne.2 (by omega)
                          have hda : ¬ dc = a := by omega
                          have HSBa := Lib.hid (HSB.out a (.inr rfl))
                          go_upto_region 33 with fail
                          go_quiet ((go_at_call 23; with_reducible exact Calls.quiet_of (HSBa.out _)))
                          generalize hwc : World.drewN w6 _ = wc
                          have hbc : Below w6.heap.size w6 wc := by rw [← hwc]; exact below_drewN (Below.refl _ _) _
                          clear hwc
                          have y3 := (hbc.cell (p := ⟨q14, 3, none⟩) lx).trans x3
                          have y4 := (hbc.cell (p := ⟨q14, 4, none⟩) lx).trans x4
                          have y1 := (hbc.cell (p := ⟨q14, 1, none⟩) lx).trans x1
                          have lxc := Nat.lt_of_lt_of_le lx hbc.size
                          have HBC := Lib.hid hbc
                          have HR2 := Lib.hid (HRS.out wc hbc)
                          clear hbc x0 x1 x2 x3 x4 x5 r0 r1 r2 r3 b1 b2 b3
                          rcases hagc : ag with _ | _
                          · obtain ⟨h1', h2'⟩ := hle2 hagc
                            rw [hagc] at y4
                            have q1 : ((a : Int) != (s.sent : Int)) = false := by simp [h1']
                            have q1' : (a != s.sent) = false := by simp [h1']
                            have q2 : decide ((ed : Int) < (tz : Int)) = false := by simp; omega
                            clear hagc hle1 hle2 h1' h2'
                            go_wp2_with fail
                            all_goals
                              go_meet
                            all_goals
                              (have hsn := HSN'.out
                               have hr := HR2.out
                               rw [hsn] at hr
                               try rw [HCL.out] at hr
                               first
                                 | (rw [show max s.sent tz = tz by omega] at hr; exact hr)
                                 | (rw [show max s.sent tz = s.sent by omega] at hr; exact hr))
                          · have h1' := hle1 hagc
                            rw [hagc] at y4
                            have q2 : decide (s.sent < tz) = false := by simp; omega
                            clear hagc hle1 hle2
                            go_wp2_with fail
                            all_goals
                              go_meet
                            all_goals
                              (have hsn := HSN'.out
                               have hr := HR2.out
                               rw [hsn] at hr
                               try rw [HCL.out] at hr
                               first
                                 | (rw [show max s.sent tz = tz by omega] at hr; exact hr)
                                 | (rw [show max s.sent tz = s.sent by omega] at hr; exact hr))


      case rest =>
        obtain ⟨D', dc', ed', dl', hdl', rfl, hD', rfl, rfl, rfl, he1', he2', he3', hdl9', hon⟩ := hcut
        have hown : ∀ j, (Value.slice D dl dc).ownBlock = some j → w2.heap.size ≤ j ∧ j < wr.heap.size := HD.out.lt
        have hx14 : Bx 29 wc q14 #[.int .i64 zs.code, .int .i64 zs.at_, .slice zA ml zc, .bool zs.fin, .bool zs.again, .bool zs.idle, .int .i64 zs.left] := HX14.out.only hon (fun e => by have := (hown _ e).2; have := HQ14.out; omega)
        have y6 := hx14.cell 6 (.int .i64 zs.left) rfl
        have ly := hx14.lt
        have hok' : SdOk s' := by have := deed_ok HOK.out y.d; rw [← HDE.out] at this; exact this
        have hlf := left_places hok'
        have hle : zs.left = left s' := by have := deed_left s y.d; rw [← HDE.out] at this; exact this
        rw [← hle, ← hdl'] at hlf
        have hwd : IntKind.i64.wrap ((dl' : Int) + 1) = (dl' : Int) + 1 := by rw [IntKind.wrap_i64]; omega
        have v1 : decide (zs.left < 0) = false := by simp; omega
        have v2 : decide ((dl' : Int) + 1 < zs.left) = false := by simp; omega
        have HLF := Lib.hid hlf
        have HDL' := Lib.hid hdl'
        have HD' := Lib.hid hD'
        have HBn : Hid (Below w2.heap.size w2 wc) := Lib.hid ((HBW.out.trans (HB6.out.mono HBW.out.size)).trans (hon.below (fun j hj => (hown j hj).1) (by have := HBW.out.size; have := HB6.out.size; omega)))
        clear hx14 hlf hdl' hD' hon hown hle hok' x0 x1 x2 x3 x4 x5 x6 r0 r1 r2 r3 lx
        go_wp2_with fail
        exact ⟨⟨k + 1, D', dc', ed', s', dl', by omega, by go_num, HS'.out.symm, HDL'.out, rfl, HD'.out, rfl, rfl, rfl, he1', he2', he3', by omega, HBn.out⟩, by simp [intOf]; omega⟩
    · have hki : ¬ (k : Int) < (kn : Int) := by omega
      go_wp2_with fail
      go_ret
      exact ⟨rfl, (HB1.out.trans (HB2.out.mono HB1.out.size)).trans (HBW.out.mono (by have := HB1.out.size; have := HB2.out.size; omega))⟩

end Go.Proofs.Ytehckiihipnimaa
