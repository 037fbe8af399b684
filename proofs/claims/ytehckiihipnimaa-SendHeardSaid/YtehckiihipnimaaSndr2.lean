/-
  The program's sender: submit, expire, left.
-/
import Derived.Test.YtehckiihipnimaaSndr1
import Derived.Deep.DeepCutAuto
import Derived.Deep.RegionLaw
import Derived.Deep.QuietTactic
import Derived.BigQuiet
import Derived.BigRegion
import Derived.RegionTactic
import Derived.Laws.NewBlocks
namespace Go.Proofs.Ytehckiihipnimaa
open Go.RowKit
set_option linter.unusedVariables false
set_option linter.unusedSimpArgs false

def subCode (dl n : Nat) (cl : Bool) : Int := if cl then 10 else if 4096 < n then 1 else if 1048575 < dl + n then 9 else 0

theorem sumR_take : ∀ (l : List Rg) (k : Nat) (x : Rg), l[k]? = some x → sumR (l.take (k + 1)) = sumR (l.take k) + (x.2 - x.1)
  | [], k, x, h => by simp at h
  | y :: t, 0, x, h => by simp at h; subst h; simp [sumR]
  | y :: t, k + 1, x, h => by
    have := sumR_take t k x (by simpa using h)
    simp only [List.take_succ_cons, sumR]
    omega
theorem sumR_bd : ∀ (l : List Rg) (d M : Int), Ch d l → d ≤ M → (∀ x ∈ l, x.2 ≤ M) → ∀ k, 0 ≤ sumR (l.take k) ∧ d + sumR (l.take k) ≤ M
  | [], d, M, _, h, _, k => by simp [sumR]; exact h
  | y :: t, d, M, hc, h, hm, 0 => by simp [sumR]; exact h
  | y :: t, d, M, hc, h, hm, k + 1 => by
    obtain ⟨c1, c2, c3⟩ := hc
    have := sumR_bd t y.2 M c3 (hm y (List.mem_cons_self ..)) (fun x hx => hm x (List.mem_cons_of_mem _ hx)) k
    simp only [List.take_succ_cons, sumR]
    omega

set_option maxHeartbeats 2000000 in
theorem submit_any (w : World) (T : Nat → Prop) (B : Nat) (dt : List Int) (cl : Bool) (sn ag : Nat) (dn : Int) (bt : List Rg) (ed : Int) (h : SM w T B dt cl sn ag dn bt ed) (hl : dt.length ≤ 1048575)
    (A : Option Addr) (n c : Nat) (zs : List Int) (hz : Ls byS w A zs) (hn : zs.length = n) (hn47 : n ≤ 140737488355328) (hT : ∀ k, T k → k < w.heap.size) (cc : Int) (hcc : cc = subCode dt.length n cl) (dt2 : List Int) (hd2 : dt2 = if cc = 0 then dt ++ zs else dt) :
    Calls Try.prog 47 #[.pointer (some ⟨B, 0, none⟩), .slice A n c] w fun e w' => e = .returned (.int .i64 cc) ∧ SM w' T B dt2 cl sn ag dn bt ed ∧ Eff T B w w' := by
  obtain ⟨D, dc, Y, yc, ⟨c0, c1, c2, c3, c4, c5, c6⟩, hf, hD, hY⟩ := h.cells
  have f0 := hf 0
  have hB := h.lt
  have H := Lib.hid h
  have HD := Lib.hid hD
  have HC0 := Lib.hid c0
  have HZ := Lib.hid hz
  have HN := Lib.hid hn
  have HT := Lib.hid hT
  obtain ⟨dl, hdl⟩ : ∃ x, x = dt.length := ⟨_, rfl⟩
  rw [← hdl] at c0 hl HD HC0 hcc
  have HDL := Lib.hid hdl
  clear h hf hD hY hz hn hT hdl
  cases cl with
  | true =>
    obtain rfl : cc = 10 := hcc
    rw [if_neg (by decide)] at hd2
    subst hd2
    go_enter Try.func47, Try.ntmps47
    go_wp2
    go_ret
    exact ⟨rfl, H.out, Eff.refl _ _ _⟩
  | false =>
    by_cases h4 : 4096 < n
    · have h4i : (4096 : Int) < (n : Int) := by omega
      obtain rfl : cc = 1 := by rw [hcc]; unfold subCode; simp [h4]
      rw [if_neg (by decide)] at hd2
      subst hd2
      clear hcc
      go_enter Try.func47, Try.ntmps47
      go_wp2
      go_ret
      exact ⟨rfl, H.out, Eff.refl _ _ _⟩
    · have h4i : ¬ (4096 : Int) < (n : Int) := by omega
      have hw1 : IntKind.i64.wrap ((dl : Int) + (n : Int)) = (dl : Int) + (n : Int) := by rw [IntKind.wrap_i64]; omega
      by_cases h5 : 1048575 < dl + n
      · have e5 : decide ((1048576 : Int) ≤ (dl : Int) + (n : Int)) = true := by simp; omega
        obtain rfl : cc = 9 := by rw [hcc]; unfold subCode; simp [h4, h5]
        rw [if_neg (by decide)] at hd2
        subst hd2
        clear hcc
        go_enter Try.func47, Try.ntmps47
        go_wp2_with fail
        go_ret
        exact ⟨rfl, H.out, Eff.refl _ _ _⟩
      · have e5 : decide ((1048576 : Int) ≤ (dl : Int) + (n : Int)) = false := by simp; omega
        obtain rfl : cc = 0 := by rw [hcc]; unfold subCode; simp [h4, h5]
        rw [if_pos rfl] at hd2
        have HD2 := Lib.hid hd2
        clear hcc hd2
        go_enter Try.func47, Try.ntmps47
        go_wp2_with (at_builtin; refine wpList_appL (F := byS) rfl _ (.tmp 28) (.tmp 29) 27 rfl _ 1 Try.underlying27 byInfo rfl (B + 1) D dl dc dt rfl HD.out A n c zs rfl HZ.out HN.out (dl + n) rfl (by omega) (by omega) (by omega) ?_; intro A4 g4 w4 ho4 hb4 hs4; have O4 := Lib.hid ho4; have HB4 := Lib.hid hb4; have HS4 := Lib.hid hs4; have c04 := (hb4.cell (p := ⟨B, 0, none⟩) (Nat.lt_succ_self B)).trans c0; have f04 : w4.frozen? ⟨B, 0, none⟩ = false := (by rw [← f0]; simp [World.frozen?, hb4.block B (Nat.lt_succ_self B)]); clear ho4 hb4 hs4)
        go_ret
        have e := HDL.out
        subst e
        obtain ⟨q1, q2⟩ := H.out.grow D dc HC0.out A4 dt2 (dt.length + n) g4 (by rw [HD2.out, List.length_append, HN.out]) (by rw [HD2.out]; exact O4.out) HB4.out HS4.out HT.out
        exact ⟨rfl, q1, Eff.of q2 (fun k hk => by
          rcases hk with hk | hk
          · subst hk; exact ⟨Nat.le_refl _, H.out.notT⟩
          · have := H.out.ownT D dc HC0.out k hk; exact ⟨by omega, this.2⟩)⟩

set_option maxHeartbeats 4000000 in
theorem left_any (w : World) (T : Nat → Prop) (B : Nat) (dt : List Int) (cl : Bool) (sn ag : Nat) (dn : Int) (bt : List Rg) (ed : Int) (h : SM w T B dt cl sn ag dn bt ed) (hl : dt.length ≤ 1048575) (hm : mayB dn bt = true) (p : Nat) (hp : p = dt.length + (if cl then 1 else 0)) :
    Calls Try.prog 52 #[.pointer (some ⟨B, 0, none⟩)] w fun e w' => e = .returned (.int .i64 ((p : Int) - dn - sumR bt)) ∧ Below w.heap.size w w' := by
  obtain ⟨D, dc, Y, yc, ⟨c0, c1, c2, c3, c4, c5, c6⟩, -, -, hY⟩ := h.cells
  obtain ⟨m1, m2, m3, m4, m5⟩ := may_parts hm
  have hB := h.lt
  have H := Lib.hid h
  have HY := Lib.hid hY
  have HC4 := Lib.hid (And.intro m4 m5)
  obtain ⟨bn, hbn⟩ : ∃ x, x = bt.length := ⟨_, rfl⟩
  rw [← hbn] at c5 m3
  have HBN := Lib.hid hbn
  have hp1 : p ≤ 1048576 := by rw [hp]; split <;> omega
  have hw1 : IntKind.i64.wrap ((p : Int) - dn) = (p : Int) - dn := by rw [IntKind.wrap_i64]; omega
  have HPQ : Hid (∀ n, Calls Try.prog 71 #[.pointer (some ⟨B, 0, none⟩)] (World.drewN w n) fun e w' => e = .returned (.int .i64 p) ∧ w' = World.drewN w n) := Lib.hid (fun n => (splaces_any _ T B dt cl sn ag dn bt ed (h.new (below_drewN (Below.refl _ _) n)) hl p hp).mono fun e w' g => ⟨g.1, g.2.symm⟩)
  clear h hY m4 m5 hbn hp hm
  go_enter Try.func52, Try.ntmps52
  go_wp2_with fail
  go_quiet ((go_at_call 71; exact Calls.quiet_of_same (HPQ.out _)))
  go_wp2
  obtain ⟨w1, hw1'⟩ : ∃ w1, w1 = World.drewN w nq := ⟨_, rfl⟩
  have HB1 : Hid (Below w.heap.size w w1) := Lib.hid (by rw [hw1']; exact below_drewN (Below.refl _ _) _)
  rw [← hw1']
  clear hw1' c0 c1 c2 c3 c4 c5 c6
  go_loopw [3, 18] (fun v i wr => ∃ k : Nat, k ≤ bn ∧ i = .int .i64 k ∧ v = .int .i64 ((p : Int) - dn - sumR (bt.take k)) ∧ Below w1.heap.size w1 wr) (fun _ i _ => bn - (intOf i).toNat)
  case atStart => exact ⟨0, Nat.zero_le _, rfl, by simp [sumR], Below.refl _ _⟩
  case round =>
    obtain ⟨k, hk, rfl, rfl, hbw⟩ := hrel
    have HBW := Lib.hid hbw
    obtain ⟨y, hy⟩ : ∃ y, y = sumR (bt.take k) := ⟨_, rfl⟩
    have hyb := sumR_bd bt dn 1048576 HC4.out.1 m2 HC4.out.2 k
    rw [← hy] at hyb ⊢
    by_cases hlt : k < bn
    · obtain ⟨⟨r1, r2⟩, hr⟩ : ∃ r, bt[k]? = some r := ⟨_, List.getElem?_eq_getElem (by rw [← HBN.out]; exact hlt)⟩
      obtain ⟨b, o, rfl, hb, hcc⟩ := ((HY.out.below HB1.out).below hbw).at k _ hr
      have g1 := hcc 0 (.int .i64 r1) rfl
      have g2 := hcc 1 (.int .i64 r2) rfl
      simp only [rgS, Nat.add_zero] at g1 g2
      have hki : (k : Int) < (bn : Int) := by omega
      have hlo := ch_lo bt dn HC4.out.1 _ (List.mem_of_getElem? hr)
      have htop := HC4.out.2 _ (List.mem_of_getElem? hr)
      simp only at hlo htop
      have HNX : Hid (sumR (bt.take (k + 1)) = y + (r2 - r1)) := Lib.hid (by rw [sumR_take bt k _ hr, hy])
      clear hcc hr hbw hy
      go_wp2_with fail
      refine ⟨⟨k + 1, by omega, by go_num, ?_, HBW.out.alloc HBW.out.size _⟩, by simp [intOf]; omega⟩
      rw [HNX.out]
      exact congrArg (Value.int .i64) (by omega)
    · obtain rfl : k = bn := by omega
      have hki : ¬ (k : Int) < (k : Int) := by omega
      have HE : Hid (y = sumR bt) := Lib.hid (by rw [hy, List.take_of_length_le (by rw [← HBN.out]; exact Nat.le_refl _)])
      clear hy
      go_wp2_with fail
      go_ret
      exact ⟨by rw [← HE.out]; rfl, bthen HB1.out HBW.out⟩

set_option maxHeartbeats 4000000 in
theorem expire_any (w : World) (T : Nat → Prop) (B : Nat) (dt : List Int) (cl : Bool) (sn ag dn : Nat) (bt : List Rg) (ed : Int) (h : SM w T B dt cl sn ag dn bt ed) (hl : dt.length ≤ 1048575) (hs : sn ≤ 1048576) (hd : dn ≤ 1048576) (he0 : 0 ≤ ed) (he1 : ed ≤ 1114112) (p : Nat) (hp : p = dt.length + (if cl then 1 else 0)) (ed2 : Int) (hed2 : ed2 = if dn = sn ∧ sn < p then max ed (sn + 1) else ed) :
    Calls Try.prog 50 #[.pointer (some ⟨B, 0, none⟩)] w fun e w' => e = .returned (.tuple #[]) ∧ SM w' T B dt cl sn dn dn bt ed2 ∧ Eff T B w w' := by
  obtain ⟨D, dc, Y, yc, ⟨c0, c1, c2, c3, c4, c5, c6⟩, hf, hD, hY⟩ := h.cells
  have f3 := hf 3
  have hB := h.lt
  have H := Lib.hid h
  have hp1 : p ≤ 1048576 := by rw [hp]; split <;> omega
  obtain ⟨w1, hw1⟩ : ∃ w1, w1 = w.setCell ⟨B, 3, none⟩ (.int .i64 dn) := ⟨_, rfl⟩
  have h1 : SM w1 T B dt cl sn dn dn bt ed := by rw [hw1]; exact h.set 3 _ _ _ _ _ _ (fun _ _ _ _ => rfl)
  have HE1 : Hid (Eff T B w w1) := Lib.hid (by rw [hw1]; exact Eff.set _ h.notT _ _)
  have H1 := Lib.hid h1
  have HPQ : Hid (∀ n, Calls Try.prog 71 #[.pointer (some ⟨B, 0, none⟩)] (World.drewN w1 n) fun e w' => e = .returned (.int .i64 p) ∧ w' = World.drewN w1 n) := Lib.hid (fun n => (splaces_any _ T B dt cl sn dn dn bt ed (h1.new (below_drewN (Below.refl _ _) n)) hl p hp).mono fun e w' g => ⟨g.1, g.2.symm⟩)
  clear h hf hD hY h1 hp
  go_enter Try.func50, Try.ntmps50
  by_cases x1 : dn = sn
  · subst x1
    have x1i : (((dn : Int)) == (dn : Int)) = true := by simp
    by_cases x2 : dn < p
    · have x2i : decide ((dn : Int) < (p : Int)) = true := by simp; omega
      rw [if_pos ⟨rfl, x2⟩] at hed2
      have HED := Lib.hid hed2
      clear hed2
      go_upto_region 1 with fail
      rw [← hw1]
      clear hw1 c0 c1 c2 c3 c4 c5 c6 f3
      obtain ⟨D, dc, Y, yc, ⟨c0, c1, c2, c3, c4, c5, c6⟩, hf, -, -⟩ := H1.out.cells
      have f6 := hf 6
      have hB1 := H1.out.lt
      have hw3 : IntKind.i64.wrap ((dn : Int) + 1) = (dn : Int) + 1 := by rw [IntKind.wrap_i64]; omega
      clear hf
      go_quiet ((go_at_call 71; exact Calls.quiet_of_same (HPQ.out _)))
      go_wp2
      generalize hwd : World.drewN w1 _ = wd
      have HWD : Hid (Below w1.heap.size w1 wd) := Lib.hid (by rw [← hwd]; exact below_drewN (Below.refl _ _) _)
      have HD1 : Hid (SM wd T B dt cl dn dn dn bt ed) := Lib.hid (H1.out.new HWD.out)
      clear hwd c0 c1 c2 c3 c4 c5 c6 f6 hB1
      obtain ⟨D, dc, Y, yc, ⟨-, -, c2, -, -, -, c6⟩, hf, -, -⟩ := HD1.out.cells
      have f6 := hf 6
      have hB1 := HD1.out.lt
      clear hf
      go_region
      all_goals
        go_wp2
      all_goals
        go_end0
        refine ⟨rfl, ?_, HE1.out.trans ((Eff.new (HWD.out.drew)).trans (Eff.set _ HD1.out.notT _ _))⟩
        refine (HD1.out.new (Below.refl _ _).drew).set 6 _ _ _ _ _ _ (fun _ _ _ _ => ?_)
        first
        | (rw [show ed2 = (dn : Int) + 1 by rw [HED.out]; omega]; rfl)
        | (rw [show ed2 = ed by rw [HED.out]; omega]; rfl)
    · have x2i : decide ((dn : Int) < (p : Int)) = false := by simp; omega
      rw [if_neg (fun g => x2 g.2)] at hed2
      subst hed2
      go_upto_region 1 with fail
      rw [← hw1]
      clear hw1 c0 c1 c2 c3 c4 c5 c6 f3
      obtain ⟨D, dc, Y, yc, ⟨c0, c1, c2, c3, c4, c5, c6⟩, hf, -, -⟩ := H1.out.cells
      have hB1 := H1.out.lt
      clear hf
      go_quiet ((go_at_call 71; exact Calls.quiet_of_same (HPQ.out _)))
      go_wp2
      go_end0
      exact ⟨rfl, H1.out.new (below_drewN (Below.refl _ _) _), HE1.out.trans (Eff.new (below_drewN (Below.refl _ _) _))⟩
  · have x1i : (((dn : Int)) == (sn : Int)) = false := by simp; omega
    rw [if_neg (fun g => x1 g.1)] at hed2
    subst hed2
    go_upto_region 1 with fail
    rw [← hw1]
    clear hw1 c0 c1 c2 c3 c4 c5 c6 f3
    obtain ⟨D, dc, Y, yc, ⟨c0, c1, c2, c3, c4, c5, c6⟩, hf, -, -⟩ := H1.out.cells
    have hB1 := H1.out.lt
    clear hf
    go_quiet ((go_at_call 71; exact Calls.quiet_of_same (HPQ.out _)))
    go_wp2
    go_end0
    exact ⟨rfl, H1.out.new (below_drewN (Below.refl _ _) _), HE1.out.trans (Eff.new (below_drewN (Below.refl _ _) _))⟩

end Go.Proofs.Ytehckiihipnimaa
