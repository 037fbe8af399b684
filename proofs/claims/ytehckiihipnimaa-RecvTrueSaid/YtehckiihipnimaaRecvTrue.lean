/-
  The walk of RecvTrue.
-/
import Derived.Test.YtehckiihipnimaaRecvTrueMath
import Derived.Test.YtehckiihipnimaaHearer
namespace Go.Proofs.Ytehckiihipnimaa
open Go.RowKit
set_option linter.unusedVariables false
set_option linter.unusedSimpArgs false

/-- how far the law has come -/
def TruX (w3 : World) (kn : Nat) (s0 : Hr) (ars : List Ar) (tk lo i : Value) (wr : World) : Prop :=
  ∃ k T0 : Nat, k ≤ kn ∧ i = .int .i64 (k : Int) ∧ tk = .int .i64 (T0 : Int) ∧ (hrs s0 (ars.take k)).taken = (T0 : Int) ∧ lo = .int .i64 (ackOf (hrs s0 (ars.take k))) ∧ Below w3.heap.size w3 wr

set_option maxRecDepth 100000 in
set_option maxHeartbeats 8000000 in
theorem walkRecvTrue (room seed size : Int) (A : Option Addr) (n c : Nat) (l : List Int) (closed : Bool) (w : World) (r1 : -9223372036854775808 ≤ room) (r2 : room ≤ 9223372036854775807) (s1 : -9223372036854775808 ≤ seed) (s2 : seed ≤ 9223372036854775807) (z1 : -9223372036854775808 ≤ size) (z2 : size ≤ 9223372036854775807)
    (hb : Ls inS w A l) (hn : l.length = n) (hc : n ≤ c) (hr : c ≤ 17592186043904) (hi : ∀ z ∈ l, i64in z) :
    Calls Try.prog 8 #[.int .i64 room, .int .i64 seed, .int .i64 size, .slice A n c, .bool closed] w fun e w' => e = .returned (.bool true) ∧ Below w.heap.size w w' := by
  have HL := Lib.hid hb
  have HN := Lib.hid hn
  have HI := Lib.hid hi
  obtain ⟨rm, hrm, hrm2⟩ := pick_nat room 300 (by omega)
  obtain ⟨sz, hsz, hsz2⟩ := pick_nat size 300 (by omega)
  obtain ⟨rr, hrr⟩ : ∃ q : Nat, 1 + rm = q := ⟨_, rfl⟩
  have er : IntKind.i64.wrap (1 + (rm : Int)) = (rr : Int) := by rw [IntKind.wrap_i64]; omega
  have hrrb : 1 ≤ rr ∧ rr ≤ 300 := by omega
  clear hb hn hi hrr
  go_enter Try.func8, Try.ntmps8
  go_upto_region 10 with (first
    | (go_at_call 20; (with_reducible refine (picked_n room 300 rm _ hrm r1 r2 (by omega) (by omega)).mono ?_); rintro e w' ⟨rfl, rfl⟩)
    | (go_at_call 20; (with_reducible refine (picked_n size 300 sz _ hsz z1 z2 (by omega) (by omega)).mono ?_); rintro e w' ⟨rfl, rfl⟩)
    | (go_at_call 28; (refine (stream_any seed sz w s1 s2 (by omega)).mono ?_); rintro e w1 ⟨A1, c1, S, rfl, ho1, hz1, hb1⟩; have HO1 := Lib.hid ho1; have HZ1 := Lib.hid hz1; have HB1 := Lib.hid hb1; clear ho1 hz1 hb1)
    | (go_at_call 29; (refine (arrivals_any A n c 150 l w1 (HL.out.below HB1.out) HN.out HI.out (by omega) (by omega) A1 sz c1 S HO1.out.ls HO1.out.1 (by omega) HO1.out.cap (HO1.out.addr.imp id (fun ⟨g, h, _⟩ => ⟨g, h⟩)) HZ1.out closed).mono ?_); rintro e w2 ⟨kn, A2, c2, xs, rfl, hk2, ho2, he2, ht2, hb2⟩; have HO2 := Lib.hid ho2; have HE2 := Lib.hid he2; have HT2 := Lib.hid ht2; have HB2 := Lib.hid hb2; clear ho2 he2 ht2 hb2)
    | (go_at_call 30; (refine (hearer_any (rr : Int) A2 kn c2 xs w2 (by omega) (by omega) (by omega) HO2.out.ls HO2.out.1 HE2.out.ain _ rfl).mono ?_); unfold RetHs; rw [heard_len, List.length_map, HO2.out.1]; rintro e w3 ⟨A3, c3, l3, rfl, ho3, hm3, he3, hb3⟩; have HO3 := Lib.hid ho3; have HM3 := Lib.hid hm3; have HE3 := Lib.hid he3; have HB3 := Lib.hid hb3; clear ho3 hm3 he3 hb3))
  obtain ⟨ars, has⟩ : ∃ ars, ars = xs.map Av.a := ⟨_, rfl⟩
  rw [← has] at HM3
  have HAL : Hid (ars.length = kn) := Lib.hid (by rw [has, List.length_map]; exact HO2.out.1)
  have HTA : Hid (∀ a ∈ ars, Tame8 S closed a) := Lib.hid (fun a ha => by
    rw [has] at ha
    obtain ⟨x, hx, rfl⟩ := List.mem_map.1 ha
    exact HT2.out x hx)
  have HSL : Hid (S.length = sz) := Lib.hid HO1.out.1
  obtain ⟨s0, hs0⟩ : ∃ s, s = hr0 (rr : Int) := ⟨_, rfl⟩
  have HRT : Hid (RT S closed s0) := Lib.hid (by rw [hs0]; exact rt_start S closed (by omega) (by omega))
  have HS00 : Hid (s0.taken = 0 ∧ ackOf s0 = 0 ∧ s0.room = rr) := Lib.hid (by rw [hs0]; exact ⟨rfl, by simp [ackOf, hr0], rfl⟩)
  rw [← hs0] at HM3
  have HBw1 : Hid (Below w.heap.size w w1) := HB1
  have HBw3 : Hid (Below w.heap.size w w3) := Lib.hid (bthen (bthen HB1.out HB2.out) HB3.out)
  have HO13 : Hid (OwnL byS 5 w3 w.heap.size A1 sz c1 S) := Lib.hid ((HO1.out.below HB2.out).below HB3.out)
  have hcap := HO1.out.cap
  have haddr := HO1.out.addr
  clear has hs0
  go_loopw [16, 17, 18] (fun tk lo i wr => TruX w3 kn s0 ars tk lo i wr) (fun _ _ i _ => kn - (intOf i).toNat)
  case atStart =>
    exact ⟨0, 0, Nat.zero_le _, rfl, rfl, HS00.out.1, by rw [List.take_zero]; exact congrArg (Value.int .i64) HS00.out.2.1.symm, Below.refl _ _⟩
  case round =>
    obtain ⟨k, T0, hk, rfl, rfl, htk, rfl, hbw⟩ := hrel
    have HBW := Lib.hid hbw
    have HTK := Lib.hid htk
    clear hbw htk
    by_cases hlt : k < kn
    · have hki : (k : Int) < (kn : Int) := by omega
      have hwi : IntKind.i64.wrap ((k : Int) + 1) = ((k + 1 : Nat) : Int) := by rw [IntKind.wrap_i64]; omega
      obtain ⟨a, ha⟩ : ∃ a, ars[k]? = some a := ⟨_, List.getElem?_eq_getElem (by rw [HAL.out]; exact hlt)⟩
      have hrt := (rt_hrs (by rw [HSL.out]; omega) (ars.take k) HRT.out (fun b hb => HTA.out b (List.mem_of_mem_take hb)))
      have hst := rt_step hrt.1 (by rw [HSL.out]; omega) a (HTA.out a (List.mem_of_getElem? ha))
      have hget := heard_get ars s0 k a ha
      have hnx := (heard_take s0 ars k a ha).2
      obtain ⟨sk, hsk⟩ : ∃ s, s = hrs s0 (ars.take k) := ⟨_, rfl⟩
      have hroom : sk.room = rr := by rw [hsk, hrt.2]; exact HS00.out.2.2
      rw [← hsk] at hst hget hnx HTK ⊢
      have hrtk : RT S closed sk := by rw [hsk]; exact hrt.1
      obtain ⟨s', hs'⟩ : ∃ s, s = (hear sk a).2 := ⟨_, rfl⟩
      rw [← hs'] at hst hnx
      obtain ⟨x, hx, hxe, ⟨hxd, hxn⟩, -, -⟩ := heard_at (HO3.out.below HBW.out) HM3.out (HE3.out.new HBW.out) k _ hget
      obtain ⟨bT, oT, rfl, hbt, hct⟩ := (HO3.out.below HBW.out).ls.at k x hx
      obtain ⟨xt, xS, xm, xe, xA, xn, xc⟩ := x
      simp only at hxe hxd hxn
      rw [← hxe] at hst hxd hxn
      obtain ⟨tc, tack, twin, tsk, td, tst⟩ := xt
      simp only at hst hxd hxn
      have p0 := hct 0 (.int .i64 tc) rfl
      have p1 := hct 1 (.int .i64 tack) rfl
      have p2 := hct 2 (.int .i64 twin) rfl
      have p3 := hct 3 (.slice xS xm xe) rfl
      have p4 := hct 4 (.slice xA xn xc) rfl
      have p5 := hct 5 (.bool tst) rfl
      simp only [teS, Nat.add_zero] at p0 p1 p2 p3 p4 p5
      obtain ⟨q1, q2, q3, q4, q5, q6, q7, q8, q9⟩ := hst
      simp only at q2 q4 q5 q6 q7 q8 q9
      have hrt' := q1.ack
      have hd1 := q1.ok.t1
      have hd2 := q1.ok.d1
      have hdn' := q1.dn_le
      rw [HSL.out] at hrt' hdn' q9
      rw [HTK.out] at q4 q5
      rw [hxn] at q4 q5
      have hT1 : ∃ T1 : Nat, s'.taken = T1 ∧ T0 + xn = T1 := ⟨T0 + xn, by omega, rfl⟩
      obtain ⟨T1, ht1, ht2⟩ := hT1
      rw [ht1] at q8 q9 hd1 hd2
      rw [q3, hroom] at q8 hd2
      have hTsz : T1 ≤ sz := by omega
      obtain ⟨lo, hlo⟩ : ∃ q, q = ackOf sk := ⟨_, rfl⟩
      rw [← hlo] at q6 ⊢
      rw [← q7] at hrt'
      have hHT1 := Lib.hid ht1
      have HNX := Lib.hid hnx
      have HACK := Lib.hid q7
      have HXD := Lib.hid hxd
      have hdlen : td.length = xn := hxn
      have HDL := Lib.hid hdlen
      have hda : td = (S.drop T0).take xn := by rw [q5]; simp
      have HDA := Lib.hid hda
      have e1 : IntKind.i64.wrap ((T0 : Int) + (xn : Int)) = (T1 : Int) := by rw [IntKind.wrap_i64]; omega
      have e2 : IntKind.i64.wrap ((sz : Int) + 1) = (sz : Int) + 1 := by rw [IntKind.wrap_i64]; omega
      have e3 : IntKind.i64.wrap ((T1 : Int) + (rr : Int)) = (T1 : Int) + (rr : Int) := by rw [IntKind.wrap_i64]; omega
      have hack1 : ¬ tack < lo := by omega
      have hack2 : ¬ (sz : Int) + 1 < tack := by omega
      have hwin1 : ¬ twin < 0 := by omega
      have hwin2 : ¬ (rr : Int) < twin := by omega
      have hmin : (tack ≤ (sz : Int) ∧ twin = (T1 : Int) + (rr : Int) - tack) ∨ ((sz : Int) < tack ∧ twin = (T1 : Int) + (rr : Int) - (sz : Int)) := by
        obtain ⟨-, -, g3⟩ := hrt'
        omega
      have HMIN := Lib.hid hmin
      have HQ9 := Lib.hid q9
      have htb : 0 ≤ tack ∧ tack ≤ 701 := by
        obtain ⟨g1, g2, g3⟩ := hrt'
        have := (hmay_parts q1.ok.may).1
        omega
      clear hct hx hxe hxd hxn hdlen hda hget hnx hrt hrtk q1 q3 q4 q5 q6 q7 q8 q9 hrt' hd1 hd2 hdn' hroom hlo hsk hs' ht1 ha hmin
      go_upto_region 13 with fail
      obtain ⟨q19, hq19⟩ : ∃ q, q = wr.heap.size := ⟨_, rfl⟩
      obtain ⟨w6, hw6⟩ : ∃ w6, w6 = wr.alloc (.cells #[.int .i64 tc, .int .i64 tack, .int .i64 twin, .slice xS xm xe, .slice xA xn xc, .bool tst] 52) := ⟨_, rfl⟩
      have HB6 : Hid (Below wr.heap.size wr w6) := Lib.hid (by rw [hw6]; exact ba1 _ _)
      have HX9 : Hid (Bx 52 w6 q19 #[.int .i64 tc, .int .i64 tack, .int .i64 twin, .slice xS xm xe, .slice xA xn xc, .bool tst]) := Lib.hid (by rw [hw6, hq19]; exact bx_new _ _ _)
      rw [← hw6, ← hq19]
      clear hw6 hq19 p0 p1 p2 p3 p4 p5
      have j0 := HX9.out.cell 0 (.int .i64 tc) rfl
      have j4 := HX9.out.cell 4 (.slice xA xn xc) rfl
      have l9 := HX9.out.lt
      have v1 : (0 : Int) ≤ (T0 : Int) := by omega
      have v2 : (T0 : Int) ≤ (T1 : Int) := by omega
      have v3 : (T1 : Int) ≤ (c1 : Int) := by omega
      have v5 : ((T0 : Int)).toNat = T0 := by omega
      have v6 : ((T1 : Int)).toNat = T1 := by omega
      have v7 : T1 - T0 = xn := by omega
      have v9 : decide (sz < T1) = false := by simp; omega
      have HOS6 : Hid (Ls byS w6 A1 S) := Lib.hid ((HO13.out.below HBW.out).below HB6.out).ls
      have hsrc : ∃ SB, (A1 = none ∧ T0 = 0 ∧ T1 = 0 ∧ xn = 0 ∧ sz = 0 ∧ c1 = 0 ∧ SB = none ∨ ∃ g, A1 = some ⟨g, 0, none⟩ ∧ SB = (if c1 = T0 then some (⟨g, 0, none⟩ : Addr) else some ⟨g, T0, none⟩)) ∧ ∀ wk, Below w6.heap.size w6 wk → Ls byS wk SB td := by
        rcases haddr with ⟨a1, a2, a3⟩ | ⟨g, a1, -⟩
        · refine ⟨none, .inl ⟨a1, by omega, by omega, by omega, a2, a3, rfl⟩, fun wk _ => ?_⟩
          have : td = [] := List.eq_nil_of_length_eq_zero (by rw [HDL.out]; omega)
          rw [this]; exact Ls.nil _ _
        · refine ⟨_, .inr ⟨g, a1, rfl⟩, fun wk hwk => ?_⟩
          by_cases hcc : c1 = T0
          · have : td = [] := List.eq_nil_of_length_eq_zero (by rw [HDL.out]; omega)
            rw [this]; exact Ls.nil _ _
          · rw [if_neg hcc, HDA.out]
            have h1 := HOS6.out.below hwk
            rw [a1] at h1
            have := (h1.drop1 rfl T0).take xn
            rw [Nat.zero_add] at this
            exact this
      obtain ⟨SB, hSB, hLB⟩ := hsrc
      have HSBa : Hid (∀ nq, Calls Try.prog 23 #[.slice xA xn xc, .slice SB xn (c1 - T0)] (World.drewN w6 nq) fun e w'' => e = .returned (.bool true) ∧ ∃ mm, w'' = (World.drewN w6 nq).drewN mm) := Lib.hid (fun nq => by
        have hw' : Below w6.heap.size w6 (World.drewN w6 nq) := below_drewN (Below.refl _ _) nq
        exact same_keepq xA xn xc SB (c1 - T0) td _ ((HXD.out.below HB6.out).below hw') (hLB _ hw') HDL.out (by omega))
      clear hLB
      have HX9' := HX9.out
      go_cut [80] (fun v wx => v = .bool false ∧ Below w6.heap.size w6 wx)
      case first =>
        rcases hSB with ⟨rfl, rfl, rfl, rfl, rfl, rfl, rfl⟩ | ⟨g, rfl, hSB⟩
        · rcases q2 with rfl | rfl
          all_goals
            go_quiet ((go_at_call 23; exact Calls.quiet_of (HSBa.out _)))
            go_wp2
            go_meet
            exact ⟨rfl, below_drewN (Below.refl _ _) _⟩
        · have zD := hSB.symm
          clear hSB
          rcases q2 with rfl | rfl
          all_goals
            go_quiet ((go_at_call 23; with_reducible exact Calls.quiet_of (HSBa.out _)))
            go_wp2
            go_meet
            exact ⟨rfl, below_drewN (Below.refl _ _) _⟩
      case rest =>
        obtain ⟨rfl, hbc⟩ := hcut
        obtain ⟨wd, hwd⟩ : ∃ wd, wd = wc := ⟨_, rfl⟩
        subst hwd
        have HBD : Hid (Below wr.heap.size wr wd) := Lib.hid (bthen HB6.out hbc)
        have hx := HX9'.below hbc
        have j1 := hx.cell 1 (.int .i64 tack) rfl
        have j2 := hx.cell 2 (.int .i64 twin) rfl
        have j4' := hx.cell 4 (.slice xA xn xc) rfl
        have j5 := hx.cell 5 (.bool tst) rfl
        have l9' := hx.lt
        clear HX9' hx hbc j0 j4 l9 hSB q2
        have hfin : ∀ wz, Below wr.heap.size wr wz → TruX w3 kn s0 ars (.int .i64 (T1 : Int)) (.int .i64 tack) (.int .i64 ((k + 1 : Nat) : Int)) wz := fun wz hz =>
          ⟨k + 1, T1, by omega, rfl, rfl, by rw [HNX.out]; exact hHT1.out, by rw [HNX.out, HACK.out], HBW.out.trans (hz.mono HBW.out.size)⟩
        have HFIN := Lib.hid hfin
        clear hfin
        have hw8 : ∀ x : Int, -1000000 ≤ x → x ≤ 1000000 → IntKind.i64.wrap x = x := fun x h1 h2 => by rw [IntKind.wrap_i64]; omega
        have e5 := hw8 ((T1 : Int) + (rr : Int) - tack) (by omega) (by omega)
        have e6 := hw8 ((T1 : Int) + (rr : Int) - (sz : Int)) (by omega) (by omega)
        clear hw8
        rcases htst : tst with _ | _
        · subst htst
          rcases HMIN.out with ⟨g1, g2⟩ | ⟨g1, g2⟩
          all_goals
            have g3 := g2.symm
            clear g2
            go_wp2_with fail
            exact ⟨HFIN.out _ HBD.out, by simp [intOf]; omega⟩
        · have hq := HQ9.out htst
          obtain ⟨hc1, hc2⟩ := hq
          have hc2 : T1 = sz := by omega
          subst htst; subst hc1; subst hc2
          rcases HMIN.out with ⟨g1, g2⟩ | ⟨g1, g2⟩
          all_goals
            have g3 := g2.symm
            clear g2
            go_wp2_with fail
            exact ⟨HFIN.out _ HBD.out, by simp [intOf]; omega⟩
    · obtain rfl : k = kn := by omega
      have hki : ¬ (k : Int) < (k : Int) := by omega
      go_wp2_with fail
      go_ret
      exact ⟨rfl, bthen HBw3.out HBW.out⟩

end Go.Proofs.Ytehckiihipnimaa
