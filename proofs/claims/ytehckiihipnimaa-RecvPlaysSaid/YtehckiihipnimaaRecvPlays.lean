/-
  The walk of RecvPlays.
-/
import Derived.Test.YtehckiihipnimaaRPlay
import Derived.Test.YtehckiihipnimaaInl6
import Derived.Test.YtehckiihipnimaaArArg
import Derived.Test.YtehckiihipnimaaSameRgsL
namespace Go.Proofs.Ytehckiihipnimaa
open Go.RowKit
set_option linter.unusedVariables false
set_option linter.unusedSimpArgs false

theorem heard_few : ∀ {s : Hr} (l : List Ar), HrOk s → ∀ t ∈ heard s l, t.data.length ≤ 4096 ∧ t.sacks.length ≤ 3
  | s, [], _, t, h => by simp [heard] at h
  | s, a :: r, hok, t, h => by
    simp only [heard, List.mem_cons] at h
    rcases h with rfl | h
    · exact hear_few hok a
    · exact heard_few r (hear_ok hok a) t h

set_option maxRecDepth 100000 in
set_option maxHeartbeats 4000000 in
theorem walkRecvPlays (room : Int) (A : Option Addr) (n c : Nat) (l : List Av) (w : World) (hb : Ls arS w A l) (hn : l.length = n) (hc : n ≤ c) (hr : c ≤ 2513169434843) (hin : ∀ x ∈ l, ArIn1 w x) :
    Calls Try.prog 7 #[.int .i64 room, .slice A n c] w fun e w' => e = .returned (.bool true) ∧ Below w.heap.size w w' := by
  have HL := Lib.hid hb
  have HN := Lib.hid hn
  have HI : Hid (AIn w l) := Lib.hid (fun x hx => (hin x hx).1)
  have HII : Hid (∀ x ∈ l, i64in x.a.at_ ∧ i64in x.a.count) := Lib.hid (fun x hx => (hin x hx).2)
  clear hb hn hin
  by_cases hwin : room < 1 ∨ 4096 < room
  · have HW := Lib.hid hwin
    clear hwin
    go_enter Try.func7, Try.ntmps7
    go_wp2_with (first
      | (go_at_call 25; (refine (rplay_range room A n c _ HW.out).mono ?_); rintro e w1 ⟨rfl, hb1⟩; have HB1 := Lib.hid hb1; clear hb1)
      | (go_at_call 26; (refine (rref_range room A n c _ HW.out).mono ?_); rintro e w2 ⟨rfl, hb2⟩; have HB2 : Hid (Below w.heap.size w w2) := Lib.hid (bthen HB1.out hb2); clear hb2))
    go_loopw [9] (fun i wr => i = .int .i64 0 ∧ Below w.heap.size w wr) (fun i _ => 0)
    case atStart => exact ⟨rfl, HB2.out⟩
    case round =>
      obtain ⟨rfl, hbw⟩ := hrel
      have HW := Lib.hid hbw
      clear hbw
      go_wp2
      go_ret
      exact ⟨rfl, HW.out⟩
  · have hw0 : 1 ≤ room := by omega
    have hw1 : room ≤ 4096 := by omega
    clear hwin
    by_cases h300 : n ≤ 300
    · obtain ⟨ts, hts⟩ : ∃ ts, ts = heard (hr0 room) (l.map Av.a) := ⟨_, rfl⟩
      have HP : Hid (∀ w', Below w.heap.size w w' → Calls Try.prog 25 #[.int .i64 room, .slice A n c] w' (RetT w' ts)) := Lib.hid (fun w' h => by rw [hts]; exact rplay_ok room A n c l w' hw0 hw1 h300 (HL.out.below h) HN.out (HI.out.below h))
      have HR : Hid (∀ w', Below w.heap.size w w' → Calls Try.prog 26 #[.int .i64 room, .slice A n c] w' (RetT w' ts)) := Lib.hid (fun w' h => by rw [hts]; exact rref_ok room A n c l w' hw0 hw1 h300 (HL.out.below h) HN.out (HI.out.below h) HII.out)
      have HF : Hid (∀ t ∈ ts, t.data.length ≤ 4096 ∧ t.sacks.length ≤ 3) := Lib.hid (by rw [hts]; exact heard_few _ (hr0_ok hw0 hw1))
      obtain ⟨m, hm⟩ : ∃ m, m = ts.length := ⟨_, rfl⟩
      have hm300 : m ≤ 300 := by rw [hm, hts, heard_len, List.length_map, HN.out]; exact h300
      have HM := Lib.hid hm
      clear hts hm
      go_enter Try.func7, Try.ntmps7
      go_wp2_with (first
        | (go_at_call 25; (refine (HP.out w (Below.refl _ _)).mono ?_); unfold RetT; rw [← HM.out]; rintro e w1 ⟨A1, c1, l1, rfl, ho1, hm1, he1, hb1⟩; have HO1 := Lib.hid ho1; have HM1 := Lib.hid hm1; have HE1 := Lib.hid he1; have HB1 := Lib.hid hb1; clear ho1 hm1 he1 hb1)
        | (go_at_call 26; (refine (HR.out w1 HB1.out).mono ?_); unfold RetT; rw [← HM.out]; rintro e w2 ⟨A2, c2, l2, rfl, ho2, hm2, he2, hb2⟩; have HO2 := Lib.hid ho2; have HM2 := Lib.hid hm2; have HE2 := Lib.hid he2; have HO1b := Lib.hid (HO1.out.below hb2); have HE1b := Lib.hid (HE1.out.new hb2); have HB2 : Hid (Below w.heap.size w w2) := Lib.hid (bthen HB1.out hb2); clear ho2 hm2 he2 hb2))
      go_loopw [9] (fun i wr => ∃ (k : Nat), k ≤ m ∧ i = .int .i64 k ∧ Below w2.heap.size w2 wr) (fun i _ => m - (intOf i).toNat)
      case atStart => exact ⟨0, Nat.zero_le _, rfl, Below.refl _ _⟩
      case round =>
        obtain ⟨k, hk, rfl, hbw⟩ := hrel
        have HW := Lib.hid hbw
        by_cases hlt : k < m
        · obtain ⟨t, ht⟩ : ∃ x, ts[k]? = some x := ⟨_, List.getElem?_eq_getElem (by rw [← HM.out]; exact hlt)⟩
          obtain ⟨x1, hx1, e1, ⟨d1, n1⟩, sk1, m1⟩ := heard_at (HO1b.out.below hbw) HM1.out (HE1b.out.new hbw) k t ht
          obtain ⟨x2, hx2, e2, ⟨d2, n2⟩, sk2, m2⟩ := heard_at (HO2.out.below hbw) HM2.out (HE2.out.new hbw) k t ht
          obtain ⟨b1, q1, rfl, hl1, hc1⟩ := (HO1b.out.below hbw).ls.at k x1 hx1
          obtain ⟨b2, q2, rfl, hl2, hc2⟩ := (HO2.out.below hbw).ls.at k x2 hx2
          obtain ⟨hfew, hfew2⟩ := HF.out t (List.mem_of_getElem? ht)
          obtain ⟨t1, S1, m1', f1, B1, n1', g1⟩ := x1
          obtain ⟨t2, S2, m2', f2, B2, n2', g2⟩ := x2
          simp only at e1 d1 n1 sk1 m1 e2 d2 n2 sk2 m2
          obtain rfl : n2' = n1' := by omega
          obtain rfl : m2' = m1' := by omega
          subst e1; subst e2
          obtain ⟨tc, tack, twin, tsk, td, tst⟩ := t2
          simp only at hfew hfew2 d1 n1 sk1 m1 d2 n2 sk2 m2
          have HD1 := Lib.hid d1; have HD2 := Lib.hid d2; have HS1 := Lib.hid sk1; have HS2 := Lib.hid sk2; have HN1 := Lib.hid n1; have HM1' := Lib.hid m1
          have u0 := hc1 0 (.int .i64 tc) rfl
          have u1 := hc1 1 (.int .i64 tack) rfl
          have u2 := hc1 2 (.int .i64 twin) rfl
          have u3 := hc1 3 (.slice S1 m2' f1) rfl
          have u4 := hc1 4 (.slice B1 n2' g1) rfl
          have u5 := hc1 5 (.bool tst) rfl
          have v0 := hc2 0 (.int .i64 tc) rfl
          have v1 := hc2 1 (.int .i64 tack) rfl
          have v2 := hc2 2 (.int .i64 twin) rfl
          have v3 := hc2 3 (.slice S2 m2' f2) rfl
          have v4 := hc2 4 (.slice B2 n2' g2) rfl
          have v5 := hc2 5 (.bool tst) rfl
          simp only [teS, Nat.add_zero] at u0 u1 u2 u3 u4 u5 v0 v1 v2 v3 v4 v5
          have hsm : n2' ≤ 4096 := by omega
          have hsm2 : m2' ≤ 3 := by omega
          have hki : (k : Int) < (m : Int) := by omega
          clear hc1 hc2 hx1 hx2 ht d1 d2 n1 n2 sk1 sk2 m1 m2 hbw hfew hfew2
          go_upto_region 10 with fail
          obtain ⟨w10, hw10⟩ : ∃ w10, w10 = wr.alloc (.cells #[.int .i64 tc, .int .i64 tack, .int .i64 twin, .slice S1 m2' f1, .slice B1 n2' g1, .bool tst] 52) := ⟨_, rfl⟩
          obtain ⟨w12, hw12⟩ : ∃ w12, w12 = w10.alloc (.cells #[.int .i64 tc, .int .i64 tack, .int .i64 twin, .slice S2 m2' f2, .slice B2 n2' g2, .bool tst] 52) := ⟨_, rfl⟩
          obtain ⟨q26, hq26⟩ : ∃ q, q = wr.heap.size := ⟨_, rfl⟩
          obtain ⟨q27, hq27⟩ : ∃ q, q = wr.heap.size + 1 := ⟨_, rfl⟩
          have HXa : Hid (Bx 52 w12 q26 #[.int .i64 tc, .int .i64 tack, .int .i64 twin, .slice S1 m2' f1, .slice B1 n2' g1, .bool tst]) := Lib.hid (by rw [hw12, hw10, hq26]; exact (bx_new _ _ _).below (ba1 _ _))
          have HXb : Hid (Bx 52 w12 q27 #[.int .i64 tc, .int .i64 tack, .int .i64 twin, .slice S2 m2' f2, .slice B2 n2' g2, .bool tst]) := Lib.hid (by
            rw [hw12, hq27]
            have := bx_new w10 52 #[.int .i64 tc, .int .i64 tack, .int .i64 twin, .slice S2 m2' f2, .slice B2 n2' g2, .bool tst]
            rw [show w10.heap.size = wr.heap.size + 1 by rw [hw10]; simp] at this
            exact this)
          have HB12 : Hid (Below wr.heap.size wr w12) := Lib.hid (by rw [hw12, hw10]; exact ba2 _ _ _)
          rw [← hw10, ← hw12, ← hq27, ← hq26]
          clear hw10 hw12 hq26 hq27 u0 u1 u2 u3 u4 u5 v0 v1 v2 v3 v4 v5
          have p0 := HXa.out.cell 0 (.int .i64 tc) rfl
          have p1 := HXa.out.cell 1 (.int .i64 tack) rfl
          have p2 := HXa.out.cell 2 (.int .i64 twin) rfl
          have p3 := HXa.out.cell 3 (.slice S1 m2' f1) rfl
          have p5 := HXa.out.cell 5 (.bool tst) rfl
          have r0 := HXb.out.cell 0 (.int .i64 tc) rfl
          have r1 := HXb.out.cell 1 (.int .i64 tack) rfl
          have r2 := HXb.out.cell 2 (.int .i64 twin) rfl
          have r3 := HXb.out.cell 3 (.slice S2 m2' f2) rfl
          have r5 := HXb.out.cell 5 (.bool tst) rfl
          have lp := HXa.out.lt
          have lr := HXb.out.lt
          go_wp2_with (first
            | (go_at_call 27; (refine (same_rgsl S1 m2' f1 S2 f2 tsk _ (HS1.out.below HB12.out) (HS2.out.below HB12.out) HM1'.out (by omega)).mono ?_); rintro e w13 ⟨rfl, hb13⟩; have HB13 := Lib.hid hb13; have p4 := (HXa.out.below hb13).cell 4 (.slice B1 n2' g1) rfl; have r4 := (HXb.out.below hb13).cell 4 (.slice B2 n2' g2) rfl; have lp' := (HXa.out.below hb13).lt; have lr' := (HXb.out.below hb13).lt; clear hb13)
            | (go_at_call 19; (refine (same_law B1 n2' g1 B2 g2 td _ ((HD1.out.below HB12.out).below HB13.out) ((HD2.out.below HB12.out).below HB13.out) HN1.out (by omega)).mono ?_); rintro e w14 ⟨rfl, hb14'⟩; have HB14 : Hid (Below wr.heap.size wr w14) := Lib.hid (bthen (bthen HB12.out HB13.out) hb14'); clear hb14'))
          exact ⟨⟨k + 1, by omega, by go_num, HW.out.trans (HB14.out.mono HW.out.size)⟩, by simp [intOf]; omega⟩
        · go_wp2
          go_ret
          exact ⟨rfl, HB2.out.trans (HW.out.mono (by have := HB2.out.size; omega))⟩
    · go_enter Try.func7, Try.ntmps7
      go_wp2_with (first
        | (go_at_call 25; (refine (rplay_size room A n c _ hw0 hw1 (by omega)).mono ?_); rintro e w1 ⟨rfl, hb1⟩; have HB1 := Lib.hid hb1; clear hb1)
        | (go_at_call 26; (refine (rref_size room A n c _ hw0 hw1 (by omega)).mono ?_); rintro e w2 ⟨rfl, hb2⟩; have HB2 : Hid (Below w.heap.size w w2) := Lib.hid (bthen HB1.out hb2); clear hb2))
      go_loopw [9] (fun i wr => i = .int .i64 0 ∧ Below w.heap.size w wr) (fun i _ => 0)
      case atStart => exact ⟨rfl, HB2.out⟩
      case round =>
        obtain ⟨rfl, hbw⟩ := hrel
        have HW := Lib.hid hbw
        clear hbw
        go_wp2
        go_ret
        exact ⟨rfl, HW.out⟩

end Go.Proofs.Ytehckiihipnimaa
