/-
  The program's sender: act.
-/
import Derived.Test.YtehckiihipnimaaSndr10
namespace Go.Proofs.Ytehckiihipnimaa
open Go.RowKit
set_option linter.unusedVariables false
set_option linter.unusedSimpArgs false

/-- what a deed comes to lies in the box q5 -/
def AcX (w : World) (T : Nat → Prop) (B : Nat) (q5 : Nat) (w2 : World) (r : St × Sd) (t : Value) (wc : World) : Prop :=
  ∃ A n c, t = .pointer (some ⟨q5, 0, none⟩) ∧ Bx 29 wc q5 (stC r.1 A n c) ∧ OwnL byS 5 wc (q5 + 1) A n c r.1.data ∧ Sndr wc (fun k => TX w q5 T k ∨ (Value.slice A n c).ownBlock = some k) B r.2 ∧
    (∀ k, (Value.slice A n c).ownBlock = some k → w2.heap.size ≤ k) ∧ Only (fun k => (B ≤ k ∧ ¬ TX w q5 T k) ∨ k = q5) w2 wc
theorem acX_code {w : World} {T : Nat → Prop} {B q5 : Nat} {w2 wx : World} {r : St × Sd} {s' : Sd} (k : Int) (hr : r = ({ st0 with code := k }, s')) (hx : Bx 29 wx q5 zerosS) (ho : Sndr wx (TX w q5 T) B s') (hq : w.heap.size ≤ q5) (he : Eff (TX w q5 T) B w2 wx) :
    AcX w T B q5 w2 r (.pointer (some ⟨q5, 0, none⟩)) (wx.setCell ⟨q5, 0, none⟩ (.int .i64 k)) := by
  subst hr
  have hs : Sndr (wx.setCell ⟨q5, 0, none⟩ (.int .i64 k)) (TX w q5 T) B s' := ho.only (only_set wx q5 0 _) (fun j hj => .inl (.inr (by subst hj; exact ⟨hq, Nat.le_refl _⟩))) (fun j hj => .inl hj)
  exact ⟨none, 0, 0, rfl, hx.set 0 (.int .i64 k), OwnL.nil _ _, hs.less (fun j hj => hj.elim id (fun g => by cases g)), fun j hj => (by cases hj), (he.mono (fun j hj => .inl hj)).setCell (.inl (.inr rfl)) _⟩
theorem acX_state {w : World} {T : Nat → Prop} {B q5 : Nat} {w2 wx : World} {r : St × Sd} {s' : Sd} (hr : r = (st0, s')) (hx : Bx 29 wx q5 zerosS) (ho : Sndr wx (TX w q5 T) B s') (he : Eff (TX w q5 T) B w2 wx) :
    AcX w T B q5 w2 r (.pointer (some ⟨q5, 0, none⟩)) wx := by
  subst hr
  exact ⟨none, 0, 0, rfl, hx, OwnL.nil _ _, ho.less (fun j hj => hj.elim id (fun g => by cases g)), fun j hj => (by cases hj), he.mono (fun j hj => .inl hj)⟩
/-- what act answers -/
def RetAc (w : World) (T : Nat → Prop) (B : Nat) (r : St × Sd) (e : Ending) (w' : World) : Prop :=
  ∃ A n c, e = .returned (.agg (stC r.1 A n c)) ∧ OwnL byS 5 w' w.heap.size A n c r.1.data ∧ Sndr w' (fun k => T k ∨ (Value.slice A n c).ownBlock = some k) B r.2 ∧ Eff T B w w'

set_option maxRecDepth 100000 in
set_option maxHeartbeats 4000000 in
theorem act_any (w : World) (T : Nat → Prop) (B : Nat) (s : Sd) (d : Dd) (A : Option Addr) (n c : Nat) (S : Option Addr) (m e : Nat) (h : Sndr w T B s) (hok : SdOk s) (hT : ∀ k, T k → k < w.heap.size) (hdd : DdIs w d A n S m) (hn47 : n ≤ 140737488355328) (hm47 : m ≤ 140737488351232) :
    Calls Try.prog 38 #[.pointer (some ⟨B, 0, none⟩), .agg (ddC d A n c S m e)] w (RetAc w T B (deed s d)) := by
  have H := Lib.hid h
  have HOK := Lib.hid hok
  have HTT := Lib.hid hT
  have HDD := Lib.hid hdd
  have hB := h.lt
  obtain ⟨kd, hkd⟩ : ∃ k, k = d.kind := ⟨_, rfl⟩
  obtain ⟨ack, hack⟩ : ∃ k, k = d.ack := ⟨_, rfl⟩
  obtain ⟨win, hwin⟩ : ∃ k, k = d.win := ⟨_, rfl⟩
  have HK := Lib.hid hkd
  have HA := Lib.hid hack
  have HWI := Lib.hid hwin
  obtain ⟨r, hr⟩ : ∃ r, r = deedR s d := ⟨_, rfl⟩
  have HR := Lib.hid hr
  unfold ddC
  rw [← hkd, ← hack, ← hwin]
  clear h hok hT hdd hkd hack hwin hr
  go_enter Try.func38, Try.ntmps38
  go_upto_block 0 with fail
  obtain ⟨q3, hq3⟩ : ∃ q, q = w.heap.size := ⟨_, rfl⟩
  obtain ⟨w2, hw2⟩ : ∃ w2, w2 = ((w.alloc (.cells #[.int .i64 kd, .slice A n c, .int .i64 ack, .int .i64 win, .slice S m e] 39)).alloc (.cells #[.int .i64 0, .int .i64 0, .slice none 0 0, .bool false, .bool false, .bool false, .int .i64 0] 29)).alloc (.cells #[.int .i64 0, .int .i64 0, .slice none 0 0, .bool false, .bool false, .bool false, .int .i64 0] 29) := ⟨_, rfl⟩
  have HX3 : Hid (Bx 39 w2 q3 #[.int .i64 kd, .slice A n c, .int .i64 ack, .int .i64 win, .slice S m e]) := Lib.hid (by rw [hw2, hq3]; exact ((bx_new _ _ _).below (ba1 _ _)).below (ba1 _ _))
  have HX4 : Hid (Bx 29 w2 (q3 + 1) #[.int .i64 0, .int .i64 0, .slice none 0 0, .bool false, .bool false, .bool false, .int .i64 0]) := Lib.hid (by
    rw [hw2, hq3]
    have := bx_new (w.alloc (.cells #[.int .i64 kd, .slice A n c, .int .i64 ack, .int .i64 win, .slice S m e] 39)) 29 #[.int .i64 0, .int .i64 0, .slice none 0 0, .bool false, .bool false, .bool false, .int .i64 0]
    rw [World.size_alloc] at this
    exact this.below (ba1 _ _))
  have HX5 : Hid (Bx 29 w2 (q3 + 2) #[.int .i64 0, .int .i64 0, .slice none 0 0, .bool false, .bool false, .bool false, .int .i64 0]) := Lib.hid (by
    rw [hw2, hq3]
    have := bx_new ((w.alloc (.cells #[.int .i64 kd, .slice A n c, .int .i64 ack, .int .i64 win, .slice S m e] 39)).alloc (.cells #[.int .i64 0, .int .i64 0, .slice none 0 0, .bool false, .bool false, .bool false, .int .i64 0] 29)) 29 #[.int .i64 0, .int .i64 0, .slice none 0 0, .bool false, .bool false, .bool false, .int .i64 0]
    rw [World.size_alloc, World.size_alloc] at this
    exact this)
  have HB2 : Hid (Below w.heap.size w w2) := Lib.hid (by rw [hw2]; exact bthen (bthen (ba1 _ _) (ba1 _ _)) (ba1 _ _))
  have hs2 : w2.heap.size = q3 + 3 := by rw [hw2, hq3]; simp
  rw [← hw2, ← hq3]
  clear hw2
  obtain ⟨q4, hq4⟩ : ∃ q, q3 + 1 = q := ⟨_, rfl⟩
  rw [hq4]
  obtain ⟨q5, hq5⟩ : ∃ q, q4 + 1 = q := ⟨_, rfl⟩
  rw [hq5]
  rw [hq4] at HX4
  rw [show q3 + 2 = q5 by omega] at HX5
  have l34 : q3 < q4 := by omega
  have l45 : q4 < q5 := by omega
  have hs5 : w2.heap.size = q5 + 1 := by omega
  have lB3 : B < q3 := by omega
  have HQ3 := Lib.hid hq3
  have HS5 := Lib.hid hs5
  have hqB5 : ¬ q5 = B := by omega
  have hqB3 : ¬ q3 = B := by omega
  have hq35 : ¬ q3 = q5 := by omega
  have HO2 : Hid (Sndr w2 (TX w q5 T) B s) := Lib.hid (H.out.only (S := fun _ => False) (only_new HB2.out) (fun _ h => h.elim) (fun k hk => by rcases hk with hk | hk; exact .inl hk; exact .inr hk.1))
  have HD2 : Hid (DdIs w2 d A n S m) := Lib.hid (HDD.out.new HB2.out)
  have HT2 : Hid (∀ k, TX w q5 T k → k < w2.heap.size) := Lib.hid (fun k hk => by
    have := HB2.out.size
    rcases hk with hk | hk
    · have := HTT.out k hk; omega
    · omega)
  clear hq3 hq4 hq5 hs2 hs5
  have HTq5 : Hid (TX w q5 T q5) := Lib.hid (.inr ⟨by rw [← HQ3.out]; omega, Nat.le_refl _⟩)
  have HTq3 : Hid (TX w q5 T q3) := Lib.hid (.inr ⟨by rw [← HQ3.out]; omega, by omega⟩)
  have HTq4 : Hid (TX w q5 T q4) := Lib.hid (.inr ⟨by rw [← HQ3.out]; omega, by omega⟩)
  go_cut [5] (fun t wc => AcX w T B q5 w2 r t wc)
  case first =>
    have k0 := HX3.out.cell 0 (.int .i64 kd) rfl
    have k1 := HX3.out.cell 1 (.slice A n c) rfl
    have k2 := HX3.out.cell 2 (.int .i64 ack) rfl
    have k3 := HX3.out.cell 3 (.int .i64 win) rfl
    have k4 := HX3.out.cell 4 (.slice S m e) rfl
    have hq3s := HX3.out.lt
    have hq5w : w.heap.size ≤ q5 := by rw [← HQ3.out]; omega
    by_cases h1 : kd = 1
    · subst h1
      obtain ⟨⟨kc, sc⟩, hrc⟩ : ∃ x : Int × Sd, x = (if s.closed then (10, s) else if 4096 < d.data.length then (1, s) else if 1048575 < s.data.length + d.data.length then (9, s) else (0, { s with data := s.data ++ d.data })) := ⟨_, rfl⟩
      have HR1 : Hid (r = ({ st0 with code := kc }, sc)) := Lib.hid (by
        rw [HR.out]; unfold deedR; rw [if_pos HK.out.symm]
        split at hrc
        · injection hrc with e1 e2; subst e1; subst e2; rw [if_pos (by assumption)]
        · rename_i g1
          rw [if_neg g1]
          split at hrc
          · injection hrc with e1 e2; subst e1; subst e2; rw [if_pos (by assumption)]
          · rename_i g2
            rw [if_neg g2]
            split at hrc
            · injection hrc with e1 e2; subst e1; subst e2; rw [if_pos (by assumption)]
            · rename_i g3; injection hrc with e1 e2; subst e1; subst e2; rw [if_neg g3]; rfl)
      have HCL : Hid (Calls Try.prog 47 #[.pointer (some ⟨B, 0, none⟩), .slice A n c] w2 (RetC w2 (TX w q5 T) B (kc, sc))) := Lib.hid (by
        rw [hrc]; exact s_submit HO2.out HOK.out HT2.out A n c d.data HD2.out.data HD2.out.dlen hn47)
      clear hrc k0 k2 k3 k4
      go_wp2_with (go_at_call 47; refine HCL.out.mono ?_; rintro e wx ⟨rfl, hs, he⟩; have HSx := Lib.hid hs; have HEx := Lib.hid he; have hx := HX5.out.only he (fun g => g.2 HTq5.out); have HXx := Lib.hid hx; have p0 := hx.cell 0 (.int .i64 0) rfl; have y0 := hx.soft 0; have hq5s := hx.lt; clear hs he hx)
      go_meet
      exact acX_code kc HR1.out HXx.out HSx.out hq5w HEx.out
    · by_cases h2 : kd = 2
      · subst h2
        obtain ⟨⟨kc, sc⟩, hrc⟩ : ∃ x : Int × Sd, x = hears s d := ⟨_, rfl⟩
        have HR1 : Hid (r = ({ st0 with code := kc }, sc)) := Lib.hid (by
          rw [HR.out]; unfold deedR; rw [← HK.out, if_neg (by decide), if_neg (by decide), if_pos rfl, ← hrc])
        have HCL : Hid (Calls Try.prog 48 #[.pointer (some ⟨B, 0, none⟩), .agg #[.int .i64 2, .slice A n c, .int .i64 ack, .int .i64 win, .slice S m e]] w2 (RetC w2 (TX w q5 T) B (kc, sc))) := Lib.hid (by
          rw [hrc]
          have := s_hear HO2.out HOK.out HT2.out d A n c S m e HD2.out hm47
          unfold ddC at this
          rw [← HK.out, ← HA.out, ← HWI.out] at this
          exact this)
        clear hrc
        go_wp2_with (go_at_call 48; refine HCL.out.mono ?_; rintro e wx ⟨rfl, hs, he⟩; have HSx := Lib.hid hs; have HEx := Lib.hid he; have hx := HX5.out.only he (fun g => g.2 HTq5.out); have HXx := Lib.hid hx; have p0 := hx.cell 0 (.int .i64 0) rfl; have y0 := hx.soft 0; have hq5s := hx.lt; clear hs he hx)
        go_meet
        exact acX_code kc HR1.out HXx.out HSx.out hq5w HEx.out
      · by_cases h3 : kd = 3
        · subst h3
          obtain ⟨⟨pt, ps⟩, hp⟩ : ∃ x, x = polls s := ⟨_, rfl⟩
          have HR1 : Hid (r = (pt, ps)) := Lib.hid (by rw [HR.out, hp]; unfold deedR; rw [← HK.out, if_neg (by decide), if_neg (by decide), if_neg (by decide), if_neg (by decide), if_pos rfl])
          have HCL : Hid (Calls Try.prog 49 #[.pointer (some ⟨B, 0, none⟩)] w2 (RetQ w2 (TX w q5 T) B (pt, ps))) := Lib.hid (by
            rw [hp]; exact s_poll HO2.out HOK.out)
          clear hp k0 k1 k2 k3 k4
          go_wp2_with (go_at_call 49; refine HCL.out.mono ?_; rintro e wx ⟨A6, n6, c6, rfl, ho, hs, he⟩; unfold stC; have HO6 := Lib.hid ho; have HSx := Lib.hid hs; have HEx := Lib.hid he; have hx := HX5.out.only he (fun g => g.2 HTq5.out); have HXx := Lib.hid hx; have p0 := hx.cell 0 (.int .i64 0) rfl; have p1 := hx.cell 1 (.int .i64 0) rfl; have p2 := hx.cell 2 (.slice none 0 0) rfl; have p3 := hx.cell 3 (.bool false) rfl; have p4 := hx.cell 4 (.bool false) rfl; have p5 := hx.cell 5 (.bool false) rfl; have p6 := hx.cell 6 (.int .i64 0) rfl; have y0 := hx.soft 0; have y1 := hx.soft 1; have y2 := hx.soft 2; have y3 := hx.soft 3; have y4 := hx.soft 4; have y5 := hx.soft 5; have y6 := hx.soft 6; have hq5s := hx.lt; clear hs he hx ho)
          go_meet
          rw [HR1.out]
          have hb6 : ∀ k, (Value.slice A6 n6 c6).ownBlock = some k → w2.heap.size ≤ k := fun k hk => (HO6.out.lt k hk).1
          have hs5' := HS5.out
          refine ⟨A6, n6, c6, rfl, HXx.out.put7 (.int .i64 pt.code) (.int .i64 pt.at_) (.slice A6 n6 c6) (.bool pt.fin) (.bool pt.again) (.bool pt.idle) (.int .i64 pt.left), ?_, ?_, hb6, (HEx.out.mono (fun k hk => .inl hk)).trans (only_put7 wx q5 (.int .i64 pt.code) (.int .i64 pt.at_) (.slice A6 n6 c6) (.bool pt.fin) (.bool pt.again) (.bool pt.idle) (.int .i64 pt.left)) (fun j hj => .inl (.inr hj))⟩
          · exact (HO6.out.only (only_put7 wx q5 (.int .i64 pt.code) (.int .i64 pt.at_) (.slice A6 n6 c6) (.bool pt.fin) (.bool pt.again) (.bool pt.idle) (.int .i64 pt.left)) (fun k hk hs => by have := hb6 k hk; omega)).base (by omega)
          · exact (HSx.out.only (only_put7 wx q5 (.int .i64 pt.code) (.int .i64 pt.at_) (.slice A6 n6 c6) (.bool pt.fin) (.bool pt.again) (.bool pt.idle) (.int .i64 pt.left)) (fun k hk => .inl (.inl (by subst hk; exact HTq5.out))) (fun k hk => .inl (hk.imp id (hb6 k))))
        · by_cases h4 : kd = 4
          · subst h4
            obtain ⟨sc, hsc⟩ : ∃ x, x = { s with todo := 0, edge := if cnt s.known s.sent = s.sent ∧ s.sent < places s ∧ s.edge ≤ s.sent then (s.sent : Int) + 1 else s.edge } := ⟨_, rfl⟩
            have HR1 : Hid (r = (st0, sc)) := Lib.hid (by rw [HR.out, hsc]; unfold deedR; rw [← HK.out, if_neg (by decide), if_neg (by decide), if_neg (by decide), if_pos rfl])
            have HCL : Hid (Calls Try.prog 50 #[.pointer (some ⟨B, 0, none⟩)] w2 fun e w' => e = .returned (.tuple #[]) ∧ Sndr w' (TX w q5 T) B sc ∧ Eff (TX w q5 T) B w2 w') := Lib.hid (by rw [hsc]; exact s_expire HO2.out HOK.out)
            clear hsc k0 k1 k2 k3 k4
            go_wp2_with (go_at_call 50; refine HCL.out.mono ?_; rintro e wx ⟨rfl, hs, he⟩; have HSx := Lib.hid hs; have HEx := Lib.hid he; clear hs he)
            go_meet
            exact acX_state HR1.out (HX5.out.only HEx.out (fun g => g.2 HTq5.out)) HSx.out HEx.out
          · by_cases h5 : kd = 5
            · subst h5
              obtain ⟨⟨kc, sc⟩, hrc⟩ : ∃ x : Int × Sd, x = (if s.closed then (10, s) else (0, { s with closed := true })) := ⟨_, rfl⟩
              have HR1 : Hid (r = ({ st0 with code := kc }, sc)) := Lib.hid (by
                rw [HR.out]; unfold deedR; rw [← HK.out, if_neg (by decide), if_pos rfl]
                split at hrc
                · injection hrc with e1 e2; subst e1; subst e2; rw [if_pos (by assumption)]
                · rename_i g1; injection hrc with e1 e2; subst e1; subst e2; rw [if_neg g1]; rfl)
              have HCL : Hid (Calls Try.prog 51 #[.pointer (some ⟨B, 0, none⟩)] w2 (RetC w2 (TX w q5 T) B (kc, sc))) := Lib.hid (by rw [hrc]; exact s_finish HO2.out)
              clear hrc k0 k1 k2 k3 k4
              go_wp2_with (go_at_call 51; refine HCL.out.mono ?_; rintro e wx ⟨rfl, hs, he⟩; have HSx := Lib.hid hs; have HEx := Lib.hid he; have hx := HX5.out.only he (fun g => g.2 HTq5.out); have HXx := Lib.hid hx; have p0 := hx.cell 0 (.int .i64 0) rfl; have y0 := hx.soft 0; have hq5s := hx.lt; clear hs he hx)
              go_meet
              exact acX_code kc HR1.out HXx.out HSx.out hq5w HEx.out
            · have HR1 : Hid (r = ({ st0 with code := 3 }, s)) := Lib.hid (by rw [HR.out]; unfold deedR; rw [← HK.out, if_neg h1, if_neg h5, if_neg h2, if_neg h4, if_neg h3])
              have p0 := HX5.out.cell 0 (.int .i64 0) rfl
              have y0 := HX5.out.soft 0
              have hq5s := HX5.out.lt
              clear k0 k1 k2 k3 k4
              go_wp2_with fail
              go_meet
              exact acX_code 3 HR1.out HX5.out HO2.out hq5w (Eff.refl _ _ _)
  case rest =>
    obtain ⟨Ar, nr, cr, rfl, hbx, hown, hsn, hnb, hon⟩ := hcut
    have HBXc := Lib.hid hbx
    have HOWc := Lib.hid hown
    have HSNc := Lib.hid hsn
    have HNBc := Lib.hid hnb
    have HONc := Lib.hid hon
    have HOKr : Hid (SdOk r.2) := Lib.hid (by rw [HR.out]; exact deedR_ok HOK.out d)
    obtain ⟨⟨pc, pa, pd, pf, pg, pi, pL⟩, rs⟩ := r
    have hpL : pL = 0 := by have := deedR_left s d; rw [← HR.out] at this; exact this
    subst hpL
    have HQ : Hid (deed s d = (⟨pc, pa, pd, pf, pg, pi, left rs⟩, rs)) := Lib.hid (by rw [deed_eq, ← HR.out])
    obtain ⟨y, hy⟩ : ∃ x, x = left rs := ⟨_, rfl⟩
    have HLF : Hid (Calls Try.prog 52 #[.pointer (some ⟨B, 0, none⟩)] wc fun e w' => e = .returned (.int .i64 y) ∧ Below wc.heap.size wc w') := Lib.hid (by rw [hy]; exact s_left HSNc.out HOKr.out)
    have HY := Lib.hid hy
    have HX4c : Hid (Bx 29 wc q4 #[.int .i64 0, .int .i64 0, .slice none 0 0, .bool false, .bool false, .bool false, .int .i64 0]) := Lib.hid (HX4.out.only hon (fun g => g.elim (fun g => g.2 HTq4.out) (fun g => by omega)))
    have n45 : ¬ q4 = q5 := by omega
    have n54 : ¬ q5 = q4 := by omega
    have nB4 : ¬ q4 = B := by omega
    clear hbx hown hsn hnb hon hy
    go_upto_region 15 with (go_at_call 52; refine HLF.out.mono ?_; rintro e wl ⟨rfl, hbl⟩; have HBL := Lib.hid hbl; have hx5 := HBXc.out.below hbl; have HX5l := Lib.hid hx5; have hx4 := HX4c.out.below hbl; have HX4l := Lib.hid hx4; have p6 := hx5.cell 6 (.int .i64 0) rfl; have s6 := hx5.soft 6; have hq5l := hx5.lt; clear hbl hx5 hx4)
    obtain ⟨w6, hw6⟩ : ∃ w6, w6 = wl.setCell ⟨q5, 6, none⟩ (.int .i64 y) := ⟨_, rfl⟩
    have HX6 : Hid (Bx 29 w6 q5 #[.int .i64 pc, .int .i64 pa, .slice Ar nr cr, .bool pf, .bool pg, .bool pi, .int .i64 y]) := Lib.hid (by rw [hw6]; have := HX5l.out.set 6 (.int .i64 y); exact this)
    have HN6 : Hid (Only (fun k => k = q5) wl w6) := Lib.hid (by rw [hw6]; exact only_set _ _ _ _)
    have HX46 : Hid (Bx 29 w6 q4 #[.int .i64 0, .int .i64 0, .slice none 0 0, .bool false, .bool false, .bool false, .int .i64 0]) := Lib.hid (HX4l.out.only HN6.out n45)
    rw [← hw6]
    clear hw6 p6 s6 hq5l
    have p0 := HX6.out.cell 0 (.int .i64 pc) rfl
    have p1 := HX6.out.cell 1 (.int .i64 pa) rfl
    have p2 := HX6.out.cell 2 (.slice Ar nr cr) rfl
    have p3 := HX6.out.cell 3 (.bool pf) rfl
    have p4 := HX6.out.cell 4 (.bool pg) rfl
    have p5 := HX6.out.cell 5 (.bool pi) rfl
    have p6 := HX6.out.cell 6 (.int .i64 y) rfl
    have hq5l := HX6.out.lt
    have b0 := HX46.out.cell 0 (.int .i64 0) rfl
    have b1 := HX46.out.cell 1 (.int .i64 0) rfl
    have b2 := HX46.out.cell 2 (.slice none 0 0) rfl
    have b3 := HX46.out.cell 3 (.bool false) rfl
    have b4 := HX46.out.cell 4 (.bool false) rfl
    have b5 := HX46.out.cell 5 (.bool false) rfl
    have b6 := HX46.out.cell 6 (.int .i64 0) rfl
    have y0 := HX46.out.soft 0
    have y1 := HX46.out.soft 1
    have y2 := HX46.out.soft 2
    have y3 := HX46.out.soft 3
    have y4 := HX46.out.soft 4
    have y5 := HX46.out.soft 5
    have y6 := HX46.out.soft 6
    have hq4l := HX46.out.lt
    obtain ⟨W, hW⟩ : ∃ W, W = put7 w6 q4 (.int .i64 pc) (.int .i64 pa) (.slice Ar nr cr) (.bool pf) (.bool pg) (.bool pi) (.int .i64 y) := ⟨_, rfl⟩
    have HXW : Hid (Bx 29 W q4 #[.int .i64 pc, .int .i64 pa, .slice Ar nr cr, .bool pf, .bool pg, .bool pi, .int .i64 y]) := Lib.hid (by rw [hW]; exact HX46.out.put7 _ _ _ _ _ _ _)
    have HOW : Hid (Only (fun k => k = q4) w6 W) := Lib.hid (by rw [hW]; exact only_put7 _ _ _ _ _ _ _ _ _)
    go_wp2_with fail
    unfold put7 at hW
    rw [← hW]
    clear hW p0 p1 p2 p3 p4 p5 p6 b0 b1 b2 b3 b4 b5 b6 y0 y1 y2 y3 y4 y5 y6 hq4l hq5l
    have r0 := HXW.out.cell 0 (.int .i64 pc) rfl
    have r1 := HXW.out.cell 1 (.int .i64 pa) rfl
    have r2 := HXW.out.cell 2 (.slice Ar nr cr) rfl
    have r3 := HXW.out.cell 3 (.bool pf) rfl
    have r4 := HXW.out.cell 4 (.bool pg) rfl
    have r5 := HXW.out.cell 5 (.bool pi) rfl
    have r6 := HXW.out.cell 6 (.int .i64 y) rfl
    refine end_ret (v := .agg #[.int .i64 pc, .int .i64 pa, .slice Ar nr cr, .bool pf, .bool pg, .bool pi, .int .i64 y]) (by simp [results, Try.results38, go_sem, r0, r1, r2, r3, r4, r5, r6]) ?_
    rw [HQ.out, ← HY.out]
    have HZ : Only (fun k => k = q4 ∨ k = q5) wc W := (((only_new (S := fun k => k = q5) HBL.out).trans HN6.out (fun j hj => .inl hj)).mono (fun k hk => .inr hk)).trans HOW.out (fun j hj => .inl (.inl hj))
    have hq3w := HQ3.out
    have hs5' := HS5.out
    have hb2' := HB2.out.size
    refine ⟨Ar, nr, cr, rfl, (HOWc.out.only HZ (fun k hk hs => by have := HNBc.out k hk; omega)).base (by omega), (HSNc.out.only HZ (fun k hk => .inl (.inl (by rcases hk with hk | hk; (subst hk; exact HTq4.out); (subst hk; exact HTq5.out)))) (fun k hk => .inl hk)).less (fun k hk => hk.imp (fun g => .inl g) id), ?_⟩
    have h1 : Only (fun k => B ≤ k ∧ ¬ T k) w wc := (only_new (S := fun k => B ≤ k ∧ ¬ T k) HB2.out).trans HONc.out (fun j hj => by
      rcases hj with ⟨g1, g2⟩ | hj
      · exact .inl ⟨g1, fun g => g2 (.inl g)⟩
      · exact .inr (by omega))
    exact h1.trans HZ (fun j hj => .inr (by omega))

end Go.Proofs.Ytehckiihipnimaa
