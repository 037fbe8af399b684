/-
  The walk of FetchPlays.
-/
import Derived.Test.YtjlnjeigoncfoaaFtRefPlay
import Derived.Test.YtjlnjeigoncfoaaGtArg
import Derived.Test.YtjlnjeigoncfoaaSameLaw
namespace Go.Proofs.Ytjlnjeigoncfoaa
open Go.RowKit
set_option linter.unusedVariables false
set_option linter.unusedSimpArgs false

theorem nextT_few {s : Fs} (h : FsOk s) (k : Nat) : (nextT k s).1.data.length ≤ 2148 ∧ (nextT k s).1.wants.length ≤ 6 := by
  have h1 := h.on.len
  have h2 := h.on.few
  unfold nextT
  simp only
  refine ⟨?_, by rw [List.length_drop]; omega⟩
  split
  · rw [List.length_take, h1]; unfold room; omega
  · exact Nat.zero_le _
theorem takeG_few {s : Fs} (h : FsOk s) (g : Gt) : (takeG s g).1.data.length ≤ 2148 ∧ (takeG s g).1.wants.length ≤ 6 := by
  unfold takeG
  split
  · rename_i hg
    split
    · exact ⟨Nat.zero_le _, Nat.zero_le _⟩
    · rename_i hn; exact nextT_few (h.got g hg hn) _
  · exact ⟨Nat.zero_le _, Nat.zero_le _⟩
theorem fold_few : ∀ (l : List Gt) (s : Fs), FsOk s → ∀ t ∈ (fold s l).1, t.data.length ≤ 2148 ∧ t.wants.length ≤ 6
  | [], s, _, t, h => by simp [fold] at h
  | g :: l, s, hs, t, h => by
    simp only [fold, List.mem_cons] at h
    rcases h with rfl | h
    · exact takeG_few hs g
    · exact fold_few l _ (hs.take g) t h
theorem fetchT_few (l : List Gt) : ∀ t ∈ fetchT l, t.data.length ≤ 2148 ∧ t.wants.length ≤ 6 := by
  intro t h
  unfold fetchT at h
  rcases List.mem_cons.1 h with rfl | h
  · exact nextT_few fsOk0 0
  · exact fold_few l _ fsOk0.on t h

set_option maxRecDepth 100000 in
set_option maxHeartbeats 8000000 in
theorem walkFetchPlays (A : Option Addr) (n c : Nat) (l : List Gv) (w : World) (hb : Ls gtS w A l) (hn : l.length = n) (hc : n ≤ c) (hr : c ≤ 3518437208881) (hin : ∀ x ∈ l, GtIn1 w x) :
    Calls Try.prog 3 #[.slice A n c] w fun e w' => e = .returned (.bool true) ∧ Below w.heap.size w w' := by
  have HL := Lib.hid hb
  have HN := Lib.hid hn
  have HI : Hid (GIn w l) := Lib.hid (fun x hx => ⟨(hin x hx).1, (hin x hx).2.1, (hin x hx).2.2.1⟩)
  have HII : Hid (∀ x ∈ l, ∀ z ∈ x.g.data, 0 ≤ z ∧ z ≤ 255) := Lib.hid (fun x hx => (hin x hx).2.2.2)
  clear hb hn hin
  by_cases h300 : n ≤ 300
  · obtain ⟨ts, hts⟩ : ∃ ts, ts = fetchT (l.map Gv.g) := ⟨_, rfl⟩
    have HP : Hid (∀ w', Below w.heap.size w w' → Calls Try.prog 6 #[.slice A n c] w' (RetN w' ts)) := Lib.hid (fun w' h => by rw [hts]; exact fplay_ok A n c l w' h300 (HL.out.below h) HN.out (HI.out.below h))
    have HR : Hid (∀ w', Below w.heap.size w w' → Calls Try.prog 7 #[.slice A n c] w' (RetN w' ts)) := Lib.hid (fun w' h => by rw [hts]; exact fref_ok A n c l w' h300 (HL.out.below h) HN.out (HI.out.below h) HII.out)
    have HF : Hid (∀ t ∈ ts, t.data.length ≤ 2148 ∧ t.wants.length ≤ 6) := Lib.hid (by rw [hts]; exact fetchT_few _)
    obtain ⟨m, hm⟩ : ∃ m, m = ts.length := ⟨_, rfl⟩
    have hm300 : m ≤ 301 := by rw [hm, hts, fetchT_len, List.length_map, HN.out]; omega
    have HM := Lib.hid hm
    clear hts hm
    go_enter Try.func3, Try.ntmps3
    go_wp2_with (first
      | (go_at_call 6; (refine (HP.out w (Below.refl _ _)).mono ?_); unfold RetN; rw [← HM.out]; rintro e w1 ⟨A1, c1, l1, rfl, ho1, hm1, he1, hb1⟩; have HO1 := Lib.hid ho1; have HM1 := Lib.hid hm1; have HE1 := Lib.hid he1; have HB1 := Lib.hid hb1; clear ho1 hm1 he1 hb1)
      | (go_at_call 7; (refine (HR.out w1 HB1.out).mono ?_); unfold RetN; rw [← HM.out]; rintro e w2 ⟨A2, c2, l2, rfl, ho2, hm2, he2, hb2⟩; have HO2 := Lib.hid ho2; have HM2 := Lib.hid hm2; have HE2 := Lib.hid he2; have HO1b := Lib.hid (HO1.out.below hb2); have HE1b := Lib.hid (HE1.out.new hb2); have HB2 : Hid (Below w.heap.size w w2) := Lib.hid (bthen HB1.out hb2); clear ho2 hm2 he2 hb2))
    go_loopw [7] (fun i wr => ∃ (k : Nat), k ≤ m ∧ i = .int .i64 k ∧ Below w2.heap.size w2 wr) (fun i _ => m - (intOf i).toNat)
    case atStart => exact ⟨0, Nat.zero_le _, rfl, Below.refl _ _⟩
    case round =>
      obtain ⟨k, hk, rfl, hbw⟩ := hrel
      have HW := Lib.hid hbw
      by_cases hlt : k < m
      · obtain ⟨wo, rfl⟩ : ∃ wo, wo = wr := ⟨_, rfl⟩
        obtain ⟨t, ht⟩ : ∃ x, ts[k]? = some x := ⟨_, List.getElem?_eq_getElem (by rw [← HM.out]; exact hlt)⟩
        obtain ⟨x1, hx1, e1, ⟨d1, n1⟩, sk1, m1⟩ := nx_at (HO1b.out.below hbw) HM1.out (HE1b.out.new hbw) k t ht
        obtain ⟨x2, hx2, e2, ⟨d2, n2⟩, sk2, m2⟩ := nx_at (HO2.out.below hbw) HM2.out (HE2.out.new hbw) k t ht
        obtain ⟨b1, q1, rfl, hl1, hc1⟩ := (HO1b.out.below hbw).ls.at k x1 hx1
        obtain ⟨b2, q2, rfl, hl2, hc2⟩ := (HO2.out.below hbw).ls.at k x2 hx2
        obtain ⟨hfew, hfew2⟩ := HF.out t (List.mem_of_getElem? ht)
        obtain ⟨t1, S1, m1', f1, B1, n1', g1⟩ := x1
        obtain ⟨t2, S2, m2', f2, B2, n2', g2⟩ := x2
        simp only at e1 d1 n1 sk1 m1 e2 d2 n2 sk2 m2
        obtain rfl : n2' = n1' := by omega
        obtain rfl : m2' = m1' := by omega
        subst e1; subst e2
        obtain ⟨tc, tw, tdn, td⟩ := t2
        simp only at hfew hfew2 d1 n1 sk1 m1 d2 n2 sk2 m2
        have HD1 := Lib.hid d1; have HD2 := Lib.hid d2; have HS1 := Lib.hid sk1; have HS2 := Lib.hid sk2; have HN1 := Lib.hid n1; have HM1' := Lib.hid m1
        have u0 := hc1 0 (.int .i64 tc) rfl
        have u1 := hc1 1 (.slice S1 m2' f1) rfl
        have u2 := hc1 2 (.bool tdn) rfl
        have u3 := hc1 3 (.slice B1 n2' g1) rfl
        have v0 := hc2 0 (.int .i64 tc) rfl
        have v1 := hc2 1 (.slice S2 m2' f2) rfl
        have v2 := hc2 2 (.bool tdn) rfl
        have v3 := hc2 3 (.slice B2 n2' g2) rfl
        simp only [neS, Nat.add_zero] at u0 u1 u2 u3 v0 v1 v2 v3
        have hsm : n2' ≤ 4096 := by omega
        have hsm2 : m2' ≤ 6 := by omega
        have hki : (k : Int) < (m : Int) := by omega
        clear hc1 hc2 hx1 hx2 ht d1 d2 n1 n2 sk1 sk2 m1 m2 hbw hfew hfew2
        go_upto_region 10 with fail
        obtain ⟨w10, hw10⟩ : ∃ w10, w10 = wo.alloc (.cells #[.int .i64 tc, .slice S1 m2' f1, .bool tdn, .slice B1 n2' g1] 30) := ⟨_, rfl⟩
        obtain ⟨w12, hw12⟩ : ∃ w12, w12 = w10.alloc (.cells #[.int .i64 tc, .slice S2 m2' f2, .bool tdn, .slice B2 n2' g2] 30) := ⟨_, rfl⟩
        obtain ⟨q26, hq26⟩ : ∃ q, q = wo.heap.size := ⟨_, rfl⟩
        obtain ⟨q27, hq27⟩ : ∃ q, q = wo.heap.size + 1 := ⟨_, rfl⟩
        have HXa : Hid (Bx 30 w12 q26 #[.int .i64 tc, .slice S1 m2' f1, .bool tdn, .slice B1 n2' g1]) := Lib.hid (by rw [hw12, hw10, hq26]; exact (bx_new _ _ _).below (ba1 _ _))
        have HXb : Hid (Bx 30 w12 q27 #[.int .i64 tc, .slice S2 m2' f2, .bool tdn, .slice B2 n2' g2]) := Lib.hid (by
          rw [hw12, hq27]
          have := bx_new w10 30 #[.int .i64 tc, .slice S2 m2' f2, .bool tdn, .slice B2 n2' g2]
          rw [show w10.heap.size = wo.heap.size + 1 by rw [hw10]; simp] at this
          exact this)
        have HB12 : Hid (Below wo.heap.size wo w12) := Lib.hid (by rw [hw12, hw10]; exact ba2 _ _ _)
        rw [← hw10, ← hw12, ← hq27, ← hq26]
        clear hw10 hw12 hq26 hq27 u0 u1 u2 u3 v0 v1 v2 v3
        obtain ⟨lp, p0, p1, p2, p3, -, -, -, -⟩ := HXa.out.cells4
        obtain ⟨lr, r0, r1, r2, r3, -, -, -, -⟩ := HXb.out.cells4
        go_upto_region 13 with (go_at_call 8; (refine (same_law B1 n2' g1 B2 g2 td _ (HD1.out.below HB12.out) (HD2.out.below HB12.out) HN1.out (by omega)).mono ?_); rintro e w14 ⟨rfl, hb14⟩; have HB14 := Lib.hid hb14; have p1' := (HXa.out.below hb14).cell 1 (.slice S1 m2' f1) rfl; have r1' := (HXb.out.below hb14).cell 1 (.slice S2 m2' f2) rfl; have lp' := (HXa.out.below hb14).lt; have lr' := (HXb.out.below hb14).lt; clear hb14)
        have HB15 : Hid (Below wo.heap.size wo w14) := Lib.hid (bthen HB12.out HB14.out)
        clear lp p0 p1 p2 p3 lr r0 r1 r2 r3 p1' r1' lp' lr'
        go_loopw [10] (fun i wr => ∃ (q : Nat), q ≤ m2' ∧ i = .int .i64 q ∧ Below w14.heap.size w14 wr) (fun i _ => m2' - (intOf i).toNat)
        case atStart => exact ⟨0, Nat.zero_le _, rfl, Below.refl _ _⟩
        case round =>
          obtain ⟨q, hq, rfl, hbq⟩ := hrel
          have HBQ := Lib.hid hbq
          obtain ⟨lp, -, p1, -, -, -, -, -, -⟩ := ((HXa.out.below HB14.out).below hbq).cells4
          obtain ⟨lr, -, r1, -, -, -, -, -, -⟩ := ((HXb.out.below HB14.out).below hbq).cells4
          clear hbq
          by_cases hql : q < m2'
          · obtain ⟨⟨a, b⟩, hx⟩ : ∃ x, tw[q]? = some x := ⟨_, List.getElem?_eq_getElem (by rw [HM1'.out]; exact hql)⟩
            obtain ⟨bb, o, rfl, hbs, hcc⟩ := ((HS1.out.below HB15.out).below HBQ.out).at q _ hx
            obtain ⟨bb', o', rfl, hbs', hcc'⟩ := ((HS2.out.below HB15.out).below HBQ.out).at q _ hx
            have hc1 := hcc 0 (.int .i64 a) rfl
            have hc2 := hcc 1 (.int .i64 b) rfl
            have hc1' := hcc' 0 (.int .i64 a) rfl
            have hc2' := hcc' 1 (.int .i64 b) rfl
            simp only [wtS, Nat.add_zero] at hc1 hc2 hc1' hc2'
            have hqi : (q : Int) < (m2' : Int) := by omega
            have heq : ∀ ww : World, (binOp .neq 33 (.agg #[.int .i64 a, .int .i64 b]) (.agg #[.int .i64 a, .int .i64 b])).run Try.prog ww = .ok (.bool false) ww := fun ww => by simp [go_sem]
            clear hcc hcc' hx
            go_upto_region 15 with fail
            go_quiet (fail)
            go_wp2_with fail
            exact ⟨⟨q + 1, by omega, by go_num, below_drewN HBQ.out _⟩, by simp [intOf]; omega⟩
          · go_wp2
            exact ⟨⟨k + 1, by omega, by go_num, bthen HW.out (bthen HB15.out HBQ.out)⟩, by simp [intOf]; omega⟩
      · go_wp2
        go_ret
        exact ⟨rfl, bthen HB2.out HW.out⟩
  · go_enter Try.func3, Try.ntmps3
    go_wp2_with (first
      | (go_at_call 6; (refine (fplay_size A n c _ (by omega)).mono ?_); rintro e w1 ⟨rfl, hb1⟩; have HB1 := Lib.hid hb1; clear hb1)
      | (go_at_call 7; (refine (fref_size A n c _ (by omega)).mono ?_); rintro e w2 ⟨rfl, hb2⟩; have HB2 : Hid (Below w.heap.size w w2) := Lib.hid (bthen HB1.out hb2); clear hb2))
    go_loopw [7] (fun i wr => i = .int .i64 0 ∧ Below w.heap.size w wr) (fun i _ => 0)
    case atStart => exact ⟨rfl, HB2.out⟩
    case round =>
      obtain ⟨rfl, hbw⟩ := hrel
      have HW := Lib.hid hbw
      clear hbw
      go_wp2
      go_ret
      exact ⟨rfl, HW.out⟩

end Go.Proofs.Ytjlnjeigoncfoaa
