/-
  The document's SegDecoded at every list of bytes; the walk of SegDecodes.
-/
import Derived.Test.YtgmpablmkpamaaaDecRefA
import Derived.Test.YtgmpablmkpamaaaDecRefB
import Derived.Test.YtgmpablmkpamaaaDecRefC
import Derived.Test.YtgmpablmkpamaaaDecRefD
import Derived.Test.YtgmpablmkpamaaaSegFixed
import Derived.Laws.NewBlocks
namespace Go.Proofs.Ytgmpablmkpamaaa
open Go.RowKit Go.Shelf
set_option linter.unusedVariables false
set_option linter.unusedSimpArgs false

theorem refdec_any (A : Option Addr) (n c : Nat) (zs : List Int) (w : World) (hb : Bs w A zs) (hn : zs.length = n) (hc : n ≤ c) (h47 : n ≤ 140737488355328) :
    Calls Try.prog 13 #[.slice A n c] w (RetDec w zs) := by
  by_cases h10 : n < 10
  · exact refdec_short A n c zs w hn h10
  · obtain ⟨b, o, rfl⟩ : ∃ b o, A = some ⟨b, o, none⟩ := by
      rcases hb.2 with h | ⟨b, o, h, _, _⟩
      · rw [h] at hn; simp at hn; omega
      · exact ⟨b, o, h⟩
    by_cases hs : wd zs 8 = 65535 - fo (tot 0 (bare zs))
    · by_cases hL : 10 + 4 * cnt zs ≤ n
      · by_cases hF : fault (dec zs) = 0
        · by_cases h15 : zs.getD 6 0 ≤ 15
          · exact refdec_right b o n c zs w hb hn (by omega) hc h47 hs hL hF h15
          · exact refdec_flags b o n c zs w hb hn (by omega) hc h47 hs hL hF (by omega)
        · exact refdec_fault b o n c zs w hb hn (by omega) hc h47 hs hL hF
      · exact refdec_len b o n c zs w hb hn (by omega) hc h47 hs hL
    · exact refdec_sum b o n c zs w hb hn (by omega) hc h47 hs
theorem refdec_bad (A : Option Addr) (n c : Nat) (zs : List Int) (k : Int) (w : World) (hb : Bs w A zs) (hn : zs.length = n) (hc : n ≤ c) (h47 : n ≤ 140737488355328) (hk : codeD zs = k) (h0 : k ≠ 0) :
    Calls Try.prog 13 #[.slice A n c] w fun e w' => e = .returned (.tuple #[.agg #[.int .i64 0, .int .i64 0, .int .i64 0, .bool false, .bool false, .bool false, .bool false, .slice none 0 0, .slice none 0 0], .int .i64 k]) ∧ Below w.heap.size w w' := by
  refine (refdec_any A n c zs w hb hn hc h47).mono ?_
  rintro e w' ⟨h1, ⟨_, h2⟩ | ⟨h2, _⟩⟩
  · rw [hk] at h2; exact ⟨h2, h1⟩
  · rw [hk] at h2; exact absurd h2 h0
theorem refdec_good (A : Option Addr) (n c : Nat) (zs : List Int) (seq ack win : Int) (f0 f1 f2 f3 : Bool) (l : List Rg) (ds : List Int) (q m : Nat) (w : World) (hb : Bs w A zs) (hn : zs.length = n) (hc : n ≤ c) (h47 : n ≤ 140737488355328) (hk : codeD zs = 0)
    (hs : dec zs = ⟨seq, ack, win, f0, f1, f2, f3, l, ds⟩) (hq : l.length = q) (hm : ds.length = m) :
    Calls Try.prog 13 #[.slice A n c] w fun e w' => ∃ Ad cd D d, e = .returned (.tuple #[.agg #[.int .i64 seq, .int .i64 ack, .int .i64 win, .bool f0, .bool f1, .bool f2, .bool f3, .slice Ad q cd, .slice D m d], .int .i64 0]) ∧ SegOwn w' w.heap.size ⟨seq, ack, win, f0, f1, f2, f3, l, ds⟩ Ad q cd D m d ∧ Below w.heap.size w w' := by
  refine (refdec_any A n c zs w hb hn hc h47).mono ?_
  rintro e w' ⟨h1, ⟨h2, _⟩ | ⟨_, Ad, cd, D, m', d, h2, h3⟩⟩
  · exact absurd hk h2
  · have hqq : cnt zs = q := by
      have := congrArg (fun s : Sg => s.sacks.length) hs
      simp only [hq] at this
      rw [← this]; exact (sacksAt_len _ _ _).symm
    rw [hs, hqq] at h2 h3
    have hmm : m' = m := by rw [← hm]; exact h3.2.2.1.symm
    subst hmm
    exact ⟨Ad, cd, D, d, h2, h3, h1⟩

set_option maxRecDepth 100000 in
set_option maxHeartbeats 8000000 in
theorem walkSegDecodes (A : Option Addr) (n c : Nat) (zs : List Int) (w : World) (hb : Bs w A zs) (hn : zs.length = n) (hc : n ≤ c) (hr : c ≤ 140737488351232) :
    Calls Try.prog 4 #[.slice A n c] w fun e w' => e = .returned (.bool true) ∧ Below w.heap.size w w' := by
  have HB := Lib.hid hb; have HN := Lib.hid hn
  by_cases h0 : codeD zs = 0
  · obtain ⟨seq, ack, win, f0, f1, f2, f3, l, ds, hs⟩ : ∃ seq ack win f0 f1 f2 f3 l ds, dec zs = ⟨seq, ack, win, f0, f1, f2, f3, l, ds⟩ := ⟨_, _, _, _, _, _, _, _, _, rfl⟩
    obtain ⟨q, hq⟩ : ∃ q, l.length = q := ⟨_, rfl⟩
    obtain ⟨m, hm⟩ : ∃ m, ds.length = m := ⟨_, rfl⟩
    have q47 : q ≤ 140737488355328 := by
      have : (dec zs).sacks.length = q := by rw [hs]; exact hq
      have h2 : (dec zs).sacks.length = cnt zs := sacksAt_len _ _ _
      have h3 := (codeD_zero h0).2.2.2.1
      omega
    have m47 : m ≤ 140737488355328 := by
      have : (dec zs).data.length = m := by rw [hs]; exact hm
      have h2 : (dec zs).data.length = zs.length - (10 + 4 * cnt zs) := List.length_drop
      omega
    have H0 := Lib.hid h0; have HS := Lib.hid hs; have HQ := Lib.hid hq; have HM := Lib.hid hm
    have HSL : Hid (∀ (A1 : Option Addr) (c1 : Nat) (D1 : Option Addr) (d1 : Nat) (A2 : Option Addr) (c2 : Nat) (D2 : Option Addr) (d2 : Nat) (w' : World), SegIs w' ⟨seq, ack, win, f0, f1, f2, f3, l, ds⟩ A1 q D1 m → SegIs w' ⟨seq, ack, win, f0, f1, f2, f3, l, ds⟩ A2 q D2 m → Calls Try.prog 14 #[.agg #[.int .i64 seq, .int .i64 ack, .int .i64 win, .bool f0, .bool f1, .bool f2, .bool f3, .slice A1 q c1, .slice D1 m d1], .agg #[.int .i64 seq, .int .i64 ack, .int .i64 win, .bool f0, .bool f1, .bool f2, .bool f3, .slice A2 q c2, .slice D2 m d2]] w' fun e w'' => e = .returned (.bool true) ∧ Below w'.heap.size w' w'') :=
      Lib.hid fun A1 c1 D1 d1 A2 c2 D2 d2 w' i1 i2 => seg_law ⟨seq, ack, win, f0, f1, f2, f3, l, ds⟩ A1 q c1 D1 m d1 A2 c2 D2 d2 w' i1 i2 q47 m47
    clear hb hn h0 hs hq hm
    go_enter Try.func4, Try.ntmps4
    go_wp2_with (first
      | (go_at_call 12; (refine (decode_good A n c zs seq ack win f0 f1 f2 f3 l ds q m _ HB.out HN.out hc (by omega) H0.out HS.out HQ.out HM.out).mono ?_); rintro e w1 ⟨A1, c1, D1, d1, rfl, ho1, hb1⟩; have HO1 := Lib.hid ho1.is; have HB1 := Lib.hid hb1; clear ho1 hb1)
      | (go_at_call 13; (refine (refdec_good A n c zs seq ack win f0 f1 f2 f3 l ds q m _ ((HB.out.below HB1.out).below (ba1 _ _)) HN.out hc (by omega) H0.out HS.out HQ.out HM.out).mono ?_); rintro e w2 ⟨A2, c2, D2, d2, rfl, ho2, hb2⟩; have HO2 := Lib.hid ho2.is; have HB2 : Hid (Below w.heap.size w w2) := Lib.hid (bthen (HB1.out.alloc HB1.out.size _) hb2); have HO12 := Lib.hid ((HO1.out.below (ba1 _ _)).below hb2); obtain ⟨l1, x0, x1, x2, x3, x4, x5, x6, x7, x8, -⟩ := (box9_below (World.alloc_heap_new w1 _ : Box9 (w1.alloc (.cells #[.int .i64 seq, .int .i64 ack, .int .i64 win, .bool f0, .bool f1, .bool f2, .bool f3, .slice A1 q c1, .slice D1 m d1] 25)) w1.heap.size (.int .i64 seq) (.int .i64 ack) (.int .i64 win) (.bool f0) (.bool f1) (.bool f2) (.bool f3) (.slice A1 q c1) (.slice D1 m d1)) hb2).cells; clear ho2 hb2)
      | (go_at_call 14; (refine (HSL.out A1 c1 D1 d1 A2 c2 D2 d2 _ (HO12.out.below (ba1 _ _)) (HO2.out.below (ba1 _ _))).mono ?_); rintro e w3 ⟨rfl, hb3⟩; have HB3 : Hid (Below w.heap.size w w3) := Lib.hid (bthen (HB2.out.alloc HB2.out.size _) hb3); clear hb3))
    go_ret
    exact ⟨rfl, HB3.out⟩
  · obtain ⟨k, hk⟩ : ∃ k, codeD zs = k := ⟨_, rfl⟩
    rw [hk] at h0
    have HK := Lib.hid hk; have H0 := Lib.hid h0
    have HSL : Hid (∀ w' : World, Calls Try.prog 14 #[.agg #[.int .i64 0, .int .i64 0, .int .i64 0, .bool false, .bool false, .bool false, .bool false, .slice none 0 0, .slice none 0 0], .agg #[.int .i64 0, .int .i64 0, .int .i64 0, .bool false, .bool false, .bool false, .bool false, .slice none 0 0, .slice none 0 0]] w' fun e w'' => e = .returned (.bool true) ∧ Below w'.heap.size w' w'') := Lib.hid fun w' =>
      seg_law zeroS none 0 0 none 0 0 none 0 none 0 w' ⟨Rs.nil _ _, rfl, bs_nil _ _, rfl⟩ ⟨Rs.nil _ _, rfl, bs_nil _ _, rfl⟩ (by omega) (by omega)
    clear hb hn hk h0
    go_enter Try.func4, Try.ntmps4
    go_wp2_with (first
      | (go_at_call 12; (refine (decode_bad A n c zs k _ HB.out HN.out hc (by omega) HK.out H0.out).mono ?_); rintro e w1 ⟨rfl, hb1⟩; have HB1 := Lib.hid hb1; clear hb1)
      | (go_at_call 13; (refine (refdec_bad A n c zs k _ ((HB.out.below HB1.out).below (ba1 _ _)) HN.out hc (by omega) HK.out H0.out).mono ?_); rintro e w2 ⟨rfl, hb2⟩; have HB2 : Hid (Below w.heap.size w w2) := Lib.hid (bthen (HB1.out.alloc HB1.out.size _) hb2); obtain ⟨l1, x0, x1, x2, x3, x4, x5, x6, x7, x8, -⟩ := (box9_below (World.alloc_heap_new w1 _ : Box9 (w1.alloc (.cells #[.int .i64 0, .int .i64 0, .int .i64 0, .bool false, .bool false, .bool false, .bool false, .slice none 0 0, .slice none 0 0] 25)) w1.heap.size (.int .i64 0) (.int .i64 0) (.int .i64 0) (.bool false) (.bool false) (.bool false) (.bool false) (.slice none 0 0) (.slice none 0 0)) hb2).cells; clear hb2)
      | (go_at_call 14; (refine (HSL.out _).mono ?_); rintro e w3 ⟨rfl, hb3⟩; have HB3 : Hid (Below w.heap.size w w3) := Lib.hid (bthen (HB2.out.alloc HB2.out.size _) hb3); clear hb3))
    go_ret
    exact ⟨rfl, HB3.out⟩

end Go.Proofs.Ytgmpablmkpamaaa
