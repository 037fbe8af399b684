/-
  The walk of SendPlays.
-/
import Derived.Test.YtehckiihipnimaaSPlay
import Derived.Test.YtehckiihipnimaaPlayedRef
import Derived.Test.YtehckiihipnimaaSameLaw
namespace Go.Proofs.Ytehckiihipnimaa
open Go.RowKit
set_option linter.unusedVariables false
set_option linter.unusedSimpArgs false

/-- an element of a list that a call told -/
theorem told_at {w : World} {S : Nat → Prop} {base : Nat} {A : Option Addr} {n c : Nat} {l : List Sv} {ts : List St} (ho : OwnL seS 29 w base A n c l) (hm : l.map Sv.st = ts) (he : EI w S l) (k : Nat) (t : St) (ht : ts[k]? = some t) :
    ∃ x : Sv, l[k]? = some x ∧ x.st = t ∧ Ls byS w x.A t.data ∧ t.data.length = x.n := by
  rw [← hm, List.getElem?_map] at ht
  rcases hx : l[k]? with _ | x
  · rw [hx] at ht; cases ht
  · rw [hx] at ht
    injection ht with ht
    subst ht
    obtain ⟨h1, h2, -⟩ := he x (List.mem_of_getElem? hx)
    exact ⟨x, rfl, rfl, h2, h1⟩

/-- bytes that were sent are few -/
theorem polls_few {s : Sd} (h : SdOk s) : (polls s).1.data.length ≤ 64 := by
  obtain ⟨ag, at_, m, fin, tz, li, hag, hat, hli, hr, hto, hp, h1, h2, h3, h4, h5, h6⟩ := polls_cases s h
  rw [hp]
  split
  · simp [st0]
  · simp only [List.length_take]; omega
theorem deedR_few {s : Sd} (h : SdOk s) (d : Dd) : (deedR s d).1.data.length ≤ 64 := by
  unfold deedR
  split
  · split
    · simp [st0]
    · split
      · simp [st0]
      · split <;> simp [st0]
  · split
    · split <;> simp [st0]
    · split
      · simp [st0]
      · split
        · simp [st0]
        · split
          · exact polls_few h
          · simp [st0]
theorem sent_few : ∀ {s : Sd} (l : List Dd), SdOk s → ∀ t ∈ sent s l, t.data.length ≤ 64
  | s, [], _, t, h => by simp [sent] at h
  | s, d :: r, hok, t, h => by
    simp only [sent, List.mem_cons] at h
    rcases h with rfl | h
    · exact deedR_few hok d
    · exact sent_few r (deed_ok hok d) t h

set_option maxRecDepth 100000 in
set_option maxHeartbeats 4000000 in
theorem walkSendPlays (window : Int) (A : Option Addr) (n c : Nat) (l : List Dv) (w : World) (hb : Ls deS w A l) (hn : l.length = n) (hc : n ≤ c) (hr : c ≤ 1954687338215) (hin : DIn w l) :
    Calls Try.prog 3 #[.int .i64 window, .slice A n c] w fun e w' => e = .returned (.bool true) ∧ Below w.heap.size w w' := by
  have HL := Lib.hid hb
  have HN := Lib.hid hn
  have HI := Lib.hid hin
  clear hb hn hin
  by_cases hwin : window < 0 ∨ 65535 < window
  · have HW := Lib.hid hwin
    clear hwin
    go_enter Try.func3, Try.ntmps3
    go_wp2_with (first
      | (go_at_call 17; (refine (splay_range window A n c _ HW.out).mono ?_); rintro e w1 ⟨rfl, hb1⟩; have HB1 := Lib.hid hb1; clear hb1)
      | (go_at_call 18; (refine (played_range window A n c _ HW.out).mono ?_); rintro e w2 ⟨rfl, hb2⟩; have HB2 : Hid (Below w.heap.size w w2) := Lib.hid (bthen HB1.out hb2); clear hb2))
    go_loopw [9] (fun i wr => i = .int .i64 0 ∧ Below w.heap.size w wr) (fun i _ => 0)
    case atStart => exact ⟨rfl, HB2.out⟩
    case round =>
      obtain ⟨rfl, hbw⟩ := hrel
      have HW := Lib.hid hbw
      clear hbw
      go_wp2
      go_ret
      exact ⟨rfl, HW.out⟩
  · have hw0 : 0 ≤ window := by omega
    have hw1 : window ≤ 65535 := by omega
    clear hwin
    by_cases h300 : n ≤ 300
    · obtain ⟨ts, hts⟩ : ∃ ts, ts = sent (sd0 window) (l.map Dv.d) := ⟨_, rfl⟩
      have HP : Hid (∀ w', Below w.heap.size w w' → Calls Try.prog 17 #[.int .i64 window, .slice A n c] w' (RetS w' ts)) := Lib.hid (fun w' h => by rw [hts]; exact splay_ok window A n c l w' hw0 hw1 h300 (HL.out.below h) HN.out (HI.out.below h))
      have HR : Hid (∀ w', Below w.heap.size w w' → Calls Try.prog 18 #[.int .i64 window, .slice A n c] w' (RetS w' ts)) := Lib.hid (fun w' h => by rw [hts]; exact played_ok window A n c l w' hw0 hw1 h300 (HL.out.below h) HN.out (HI.out.below h))
      have HF : Hid (∀ t ∈ ts, t.data.length ≤ 64) := Lib.hid (by rw [hts]; exact sent_few _ (sd0_ok hw0 hw1))
      obtain ⟨m, hm⟩ : ∃ m, m = ts.length := ⟨_, rfl⟩
      have hm300 : m ≤ 300 := by rw [hm, hts, sent_len, List.length_map, HN.out]; exact h300
      have HM := Lib.hid hm
      clear hts hm
      go_enter Try.func3, Try.ntmps3
      go_wp2_with (first
        | (go_at_call 17; (refine (HP.out w (Below.refl _ _)).mono ?_); unfold RetS; rw [← HM.out]; rintro e w1 ⟨A1, c1, l1, rfl, ho1, hm1, he1, hb1⟩; have HO1 := Lib.hid ho1; have HM1 := Lib.hid hm1; have HE1 := Lib.hid he1; have HB1 := Lib.hid hb1; clear ho1 hm1 he1 hb1)
        | (go_at_call 18; (refine (HR.out w1 HB1.out).mono ?_); unfold RetS; rw [← HM.out]; rintro e w2 ⟨A2, c2, l2, rfl, ho2, hm2, he2, hb2⟩; have HO2 := Lib.hid ho2; have HM2 := Lib.hid hm2; have HE2 := Lib.hid he2; have HO1b := Lib.hid (HO1.out.below hb2); have HE1b := Lib.hid (HE1.out.new hb2); have HB2 : Hid (Below w.heap.size w w2) := Lib.hid (bthen HB1.out hb2); clear ho2 hm2 he2 hb2))
      go_loopw [9] (fun i wr => ∃ (k : Nat), k ≤ m ∧ i = .int .i64 k ∧ Below w2.heap.size w2 wr) (fun i _ => m - (intOf i).toNat)
      case atStart => exact ⟨0, Nat.zero_le _, rfl, Below.refl _ _⟩
      case round =>
        obtain ⟨k, hk, rfl, hbw⟩ := hrel
        have HW := Lib.hid hbw
        by_cases hlt : k < m
        · obtain ⟨t, ht⟩ : ∃ x, ts[k]? = some x := ⟨_, List.getElem?_eq_getElem (by rw [← HM.out]; exact hlt)⟩
          obtain ⟨x1, hx1, e1, d1, n1⟩ := told_at (HO1b.out.below hbw) HM1.out (HE1b.out.new hbw) k t ht
          obtain ⟨x2, hx2, e2, d2, n2⟩ := told_at (HO2.out.below hbw) HM2.out (HE2.out.new hbw) k t ht
          obtain ⟨b1, o1, rfl, h10, h11⟩ := (HO1b.out.below hbw).ls.at k _ hx1
          obtain ⟨b2, o2, rfl, h20, h21⟩ := (HO2.out.below hbw).ls.at k _ hx2
          obtain ⟨s1, A1', n1', c1'⟩ := x1
          obtain ⟨s2, A2', n2', c2'⟩ := x2
          simp only at e1 e2 d1 d2 n1 n2
          have e1 := e1.symm; have e2 := e2.symm
          subst e1; subst e2; subst n1; subst n2
          have hfew := HF.out t (List.mem_of_getElem? ht)
          obtain ⟨dl, hdl⟩ : ∃ x, x = t.data.length := ⟨_, rfl⟩
          obtain ⟨tc, ta, td, tf, tg, ti, tl⟩ := t
          simp only at d1 d2 hfew hdl
          rw [← hdl] at h11 h21 hfew
          have HDL := Lib.hid hdl
          have HD1 := Lib.hid d1
          have HD2 := Lib.hid d2
          have p0 := h11 0 (.int .i64 tc) rfl
          have p1 := h11 1 (.int .i64 ta) rfl
          have p2 := h11 2 (.slice A1' dl c1') rfl
          have p3 := h11 3 (.bool tf) rfl
          have p4 := h11 4 (.bool tg) rfl
          have p5 := h11 5 (.bool ti) rfl
          have p6 := h11 6 (.int .i64 tl) rfl
          have q0 := h21 0 (.int .i64 tc) rfl
          have q1 := h21 1 (.int .i64 ta) rfl
          have q2 := h21 2 (.slice A2' dl c2') rfl
          have q3 := h21 3 (.bool tf) rfl
          have q4 := h21 4 (.bool tg) rfl
          have q5 := h21 5 (.bool ti) rfl
          have q6 := h21 6 (.int .i64 tl) rfl
          simp only [seS, Nat.add_zero] at p0 p1 p2 p3 p4 p5 p6 q0 q1 q2 q3 q4 q5 q6
          have hki : (k : Int) < (m : Int) := by omega
          clear h11 h21 ht hbw hdl d1 d2 hx1 hx2
          go_upto_region 10 with fail
          go_wp2_with (go_at_call 19; refine (same_law A1' dl c1' A2' c2' td _ (HD1.out.below (ba2 _ _ _)) (HD2.out.below (ba2 _ _ _)) HDL.out.symm (by omega)).mono ?_; rintro e w5 ⟨rfl, hb5⟩; have HB5 : Hid (Below wr.heap.size wr w5) := Lib.hid (bthen (ba2 _ _ _) hb5); clear hb5)
          exact ⟨⟨k + 1, by omega, by go_num, HW.out.trans (HB5.out.mono HW.out.size)⟩, by simp [intOf]; omega⟩
        · go_wp2
          go_ret
          exact ⟨rfl, HB2.out.trans (HW.out.mono (by have := HB2.out.size; omega))⟩
    · go_enter Try.func3, Try.ntmps3
      go_wp2_with (first
        | (go_at_call 17; (refine (splay_size window A n c _ hw0 hw1 (by omega)).mono ?_); rintro e w1 ⟨rfl, hb1⟩; have HB1 := Lib.hid hb1; clear hb1)
        | (go_at_call 18; (refine (played_size window A n c _ hw0 hw1 (by omega)).mono ?_); rintro e w2 ⟨rfl, hb2⟩; have HB2 : Hid (Below w.heap.size w w2) := Lib.hid (bthen HB1.out hb2); clear hb2))
      go_loopw [9] (fun i wr => i = .int .i64 0 ∧ Below w.heap.size w wr) (fun i _ => 0)
      case atStart => exact ⟨rfl, HB2.out⟩
      case round =>
        obtain ⟨rfl, hbw⟩ := hrel
        have HW := Lib.hid hbw
        clear hbw
        go_wp2
        go_ret
        exact ⟨rfl, HW.out⟩

end Go.Proofs.Ytehckiihipnimaa
