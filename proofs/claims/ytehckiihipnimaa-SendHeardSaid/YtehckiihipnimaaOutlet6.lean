/-
  The document's Outlet: what a deed comes to.
-/
import Derived.Test.YtehckiihipnimaaOutlet4
import Derived.Test.YtehckiihipnimaaOutlet5
namespace Go.Proofs.Ytehckiihipnimaa
open Go.RowKit
set_option linter.unusedVariables false
set_option linter.unusedSimpArgs false

/-- what a deed comes to, but for what is left -/
def deedR (s : Sd) (d : Dd) : St × Sd :=
  if d.kind = 1 then
    (if s.closed then ({ st0 with code := 10 }, s) else if 4096 < d.data.length then ({ st0 with code := 1 }, s)
      else if 1048575 < s.data.length + d.data.length then ({ st0 with code := 9 }, s) else (st0, { s with data := s.data ++ d.data }))
  else if d.kind = 5 then (if s.closed then ({ st0 with code := 10 }, s) else (st0, { s with closed := true }))
  else if d.kind = 2 then ({ st0 with code := (hears s d).1 }, (hears s d).2)
  else if d.kind = 4 then
    (st0, { s with todo := 0, edge := if cnt s.known s.sent = s.sent ∧ s.sent < places s ∧ s.edge ≤ s.sent then s.sent + 1 else s.edge })
  else if d.kind = 3 then polls s
  else ({ st0 with code := 3 }, s)
theorem deed_eq (s : Sd) (d : Dd) : deed s d = ({ (deedR s d).1 with left := left (deedR s d).2 }, (deedR s d).2) := rfl
theorem deedR_ok {s : Sd} (h : SdOk s) (d : Dd) : SdOk (deedR s d).2 := deed_ok h d
theorem polls_left (s : Sd) : (polls s).1.left = 0 := by unfold polls; dsimp only; rw [apply_ite Prod.fst, apply_ite St.left]; simp [st0]
theorem deedR_left (s : Sd) (d : Dd) : (deedR s d).1.left = 0 := by
  unfold deedR
  split
  · split
    · rfl
    · split
      · rfl
      · split <;> rfl
  · split
    · split <;> rfl
    · split
      · rfl
      · split
        · rfl
        · split
          · exact polls_left s
          · rfl

/-- the blocks that a call of Deed lays first, beside T -/
def TX (w : World) (q5 : Nat) (T : Nat → Prop) (k : Nat) : Prop := T k ∨ (w.heap.size ≤ k ∧ k ≤ q5)
def DeX (w : World) (T : Nat → Prop) (B : Nat) (q5 : Nat) (w2 : World) (r : St × Sd) (t : Value) (wc : World) : Prop :=
  ∃ A n c, t = .pointer (some ⟨q5, 0, none⟩) ∧ Bx 29 wc q5 (stC r.1 A n c) ∧ OwnL byS 5 wc (q5 + 1) A n c r.1.data ∧ Outl wc (TX w q5 T) B r.2 ∧ Only (fun k => k = B ∨ k = q5) w2 wc

def zerosS : Array Value := #[.int .i64 0, .int .i64 0, .slice none 0 0, .bool false, .bool false, .bool false, .int .i64 0]
theorem deX_code {w : World} {T : Nat → Prop} {B q5 : Nat} {w2 wx : World} {r : St × Sd} {s : Sd} (k : Int) (hr : r = ({ st0 with code := k }, s)) (hb : Below w2.heap.size w2 wx) (hx : Bx 29 w2 q5 zerosS) (ho : Outl w2 (TX w q5 T) B s) (hq : w.heap.size ≤ q5) (hB : B < w2.heap.size) :
    DeX w T B q5 w2 r (.pointer (some ⟨q5, 0, none⟩)) (wx.setCell ⟨q5, 0, none⟩ (.int .i64 k)) := by
  subst hr
  exact ⟨none, 0, 0, rfl, (hx.below hb).set 0 (.int .i64 k), OwnL.nil _ _, (ho.new hb).only (only_set wx q5 0 _) (fun j hj => .inl (.inr (by subst hj; exact ⟨hq, Nat.le_refl _⟩))) (fun j hj => .inl hj), (only_new (S := fun k => k = B ∨ k = q5) hb).setCell (.inl (.inr rfl)) _⟩
theorem deX_state {w : World} {T : Nat → Prop} {B q5 : Nat} {w2 wx : World} {r : St × Sd} {s' : Sd} (hr : r = (st0, s')) (hx : Bx 29 w2 q5 zerosS) (ho : Outl wx (TX w q5 T) B s') (hB : ¬ q5 = B) (hn : Only (fun k => k = B) w2 wx) :
    DeX w T B q5 w2 r (.pointer (some ⟨q5, 0, none⟩)) wx := by
  subst hr
  exact ⟨none, 0, 0, rfl, hx.only hn hB, OwnL.nil _ _, ho, hn.mono fun k hk => .inl hk⟩
theorem hears_any (w : World) (T : Nat → Prop) (B : Nat) (s : Sd) (d : Dd) (A : Option Addr) (n c : Nat) (S : Option Addr) (m e : Nat) (h : Outl w T B s) (hok : SdOk s) (hT : ∀ k, T k → k < w.heap.size) (hdd : DdIs w d A n S m) (hmm : m ≤ 140737488351232)
    (kd ack win : Int) (h1 : kd = d.kind) (h2 : ack = d.ack) (h3 : win = d.win) :
    Calls Try.prog 53 #[.pointer (some ⟨B, 0, none⟩), .agg #[.int .i64 kd, .slice A n c, .int .i64 ack, .int .i64 win, .slice S m e]] w (RetH w T B (hears s d)) := by
  subst h1; subst h2; subst h3
  show Calls Try.prog 53 #[.pointer (some ⟨B, 0, none⟩), .agg (ddC d A n c S m e)] w (RetH w T B (hears s d))
  by_cases hr : d.ack < 0 ∨ (s.sent : Int) < d.ack ∨ d.win < 0 ∨ 65535 < d.win
  · have := hears_range w T B s d A n c S m e h hr
    rwa [show hears s d = (2, s) from by unfold hears; rw [if_pos hr]]
  · by_cases hm : 3 < m
    · have := hears_size w T B s d A n c S m e h hr hm hmm
      rwa [show hears s d = (1, s) from by unfold hears; rw [if_neg hr, if_pos (by rw [hdd.slen]; exact hm)]]
    · exact hears_main w T B s d A n c S m e h hok hT hdd hr hm
/-- are all places ahead of n heard of? -/
theorem cnt_all (k : List Bool) : ∀ n, cnt k n ≤ n ∧ (cnt k (n + 1) = n + 1 ↔ cnt k n = n ∧ hd k n = true) := fun n => by
  have h := cnt_le k n
  refine ⟨h, ?_⟩
  have e : cnt k (n + 1) = cnt k n + (if hd k n then 1 else 0) := rfl
  rw [e]
  rcases hv : hd k n with _ | _ <;> simp <;> omega

set_option maxRecDepth 100000 in
set_option maxHeartbeats 20000000 in
theorem deed_any (w : World) (T : Nat → Prop) (B : Nat) (s : Sd) (d : Dd) (A : Option Addr) (n c : Nat) (S : Option Addr) (m e : Nat) (h : Outl w T B s) (hok : SdOk s) (hT : ∀ k, T k → k < w.heap.size) (hdd : DdIs w d A n S m) (hn47 : n ≤ 140737488355328) (hm47 : m ≤ 140737488351232) :
    Calls Try.prog 40 #[.pointer (some ⟨B, 0, none⟩), .agg (ddC d A n c S m e)] w (RetP w T B (deed s d)) := by
  have H := Lib.hid h
  have HOK := Lib.hid hok
  have HTT := Lib.hid hT
  have HDD := Lib.hid hdd
  have hB := h.lt
  obtain ⟨kd, hkd⟩ : ∃ k, k = d.kind := ⟨_, rfl⟩
  obtain ⟨ack, hack⟩ : ∃ k, k = d.ack := ⟨_, rfl⟩
  obtain ⟨win, hwin⟩ : ∃ k, k = d.win := ⟨_, rfl⟩
  have HK := Lib.hid hkd
  have HA := Lib.hid hack
  have HWI := Lib.hid hwin
  obtain ⟨r, hr⟩ : ∃ r, r = deedR s d := ⟨_, rfl⟩
  have HR := Lib.hid hr
  unfold ddC
  rw [← hkd, ← hack, ← hwin]
  clear h hok hT hdd hkd hack hwin hr
  go_enter Try.func40, Try.ntmps40
  go_upto_block 0 with fail
  obtain ⟨q3, hq3⟩ : ∃ q, q = w.heap.size := ⟨_, rfl⟩
  obtain ⟨w2, hw2⟩ : ∃ w2, w2 = ((w.alloc (.cells #[.int .i64 kd, .slice A n c, .int .i64 ack, .int .i64 win, .slice S m e] 39)).alloc (.cells #[.int .i64 0, .int .i64 0, .slice none 0 0, .bool false, .bool false, .bool false, .int .i64 0] 29)).alloc (.cells #[.int .i64 0, .int .i64 0, .slice none 0 0, .bool false, .bool false, .bool false, .int .i64 0] 29) := ⟨_, rfl⟩
  have HX3 : Hid (Bx 39 w2 q3 #[.int .i64 kd, .slice A n c, .int .i64 ack, .int .i64 win, .slice S m e]) := Lib.hid (by rw [hw2, hq3]; exact ((bx_new _ _ _).below (ba1 _ _)).below (ba1 _ _))
  have HX4 : Hid (Bx 29 w2 (q3 + 1) #[.int .i64 0, .int .i64 0, .slice none 0 0, .bool false, .bool false, .bool false, .int .i64 0]) := Lib.hid (by
    rw [hw2, hq3]
    have := bx_new (w.alloc (.cells #[.int .i64 kd, .slice A n c, .int .i64 ack, .int .i64 win, .slice S m e] 39)) 29 #[.int .i64 0, .int .i64 0, .slice none 0 0, .bool false, .bool false, .bool false, .int .i64 0]
    rw [World.size_alloc] at this
    exact this.below (ba1 _ _))
  have HX5 : Hid (Bx 29 w2 (q3 + 2) #[.int .i64 0, .int .i64 0, .slice none 0 0, .bool false, .bool false, .bool false, .int .i64 0]) := Lib.hid (by
    rw [hw2, hq3]
    have := bx_new ((w.alloc (.cells #[.int .i64 kd, .slice A n c, .int .i64 ack, .int .i64 win, .slice S m e] 39)).alloc (.cells #[.int .i64 0, .int .i64 0, .slice none 0 0, .bool false, .bool false, .bool false, .int .i64 0] 29)) 29 #[.int .i64 0, .int .i64 0, .slice none 0 0, .bool false, .bool false, .bool false, .int .i64 0]
    rw [World.size_alloc, World.size_alloc] at this
    exact this)
  have HB2 : Hid (Below w.heap.size w w2) := Lib.hid (by rw [hw2]; exact bthen (bthen (ba1 _ _) (ba1 _ _)) (ba1 _ _))
  have hs2 : w2.heap.size = q3 + 3 := by rw [hw2, hq3]; simp
  rw [← hw2, ← hq3]
  clear hw2
  obtain ⟨q4, hq4⟩ : ∃ q, q3 + 1 = q := ⟨_, rfl⟩
  rw [hq4]
  obtain ⟨q5, hq5⟩ : ∃ q, q4 + 1 = q := ⟨_, rfl⟩
  rw [hq5]
  rw [hq4] at HX4
  rw [show q3 + 2 = q5 by omega] at HX5
  have l34 : q3 < q4 := by omega
  have l45 : q4 < q5 := by omega
  have hs5 : w2.heap.size = q5 + 1 := by omega
  have lB3 : B < q3 := by omega
  have HQ3 := Lib.hid hq3
  have HS5 := Lib.hid hs5
  have hqB5 : ¬ q5 = B := by omega
  have hqB3 : ¬ q3 = B := by omega
  have hq35 : ¬ q3 = q5 := by omega
  have HO2 : Hid (Outl w2 (TX w q5 T) B s) := Lib.hid (H.out.only (S := fun _ => False) (only_new HB2.out) (fun _ h => h.elim) (fun k hk => by rcases hk with hk | hk; exact .inl hk; exact .inr hk.1))
  have HD2 : Hid (DdIs w2 d A n S m) := Lib.hid (HDD.out.new HB2.out)
  have HT2 : Hid (∀ k, TX w q5 T k → k < w2.heap.size) := Lib.hid (fun k hk => by
    have := HB2.out.size
    rcases hk with hk | hk
    · have := HTT.out k hk; omega
    · omega)
  clear hq3 hq4 hq5 hs2 hs5
  go_cut [5] (fun t wc => DeX w T B q5 w2 r t wc)
  case first =>
    obtain ⟨D, cd, K, ck, ⟨c0, c1, c2, c3, c4, c5⟩, ⟨f0, f1, f2, f3, f4, f5⟩, hDr, -⟩ := HO2.out.cells
    have HDr := Lib.hid hDr
    have p0 := HX5.out.cell 0 (.int .i64 0) rfl
    have s0 := HX5.out.soft 0
    have k1 := HX3.out.cell 1 (.slice A n c) rfl
    have hq3s := HX3.out.lt
    have hq5s := HX5.out.lt
    have hBs := HO2.out.lt
    clear hDr
    have hq5w : w.heap.size ≤ q5 := by rw [← HQ3.out]; omega
    have hl := HOK.out.len
    obtain ⟨dl, hdl⟩ : ∃ x, x = s.data.length := ⟨_, rfl⟩
    rw [← hdl] at c0 hl
    have HDL := Lib.hid hdl
    have HNL : Hid (d.data.length = n) := Lib.hid HDD.out.dlen
    clear hdl
    by_cases h1 : kd = 1
    · subst h1
      rcases hc : s.closed with _ | _
      · rw [hc] at c1
        have HC := Lib.hid hc
        clear hc
        by_cases h4 : 4096 < n
        · have h4i : (4096 : Int) < (n : Int) := by omega
          have HR1 : Hid (r = ({ st0 with code := 1 }, s)) := Lib.hid (by rw [HR.out]; unfold deedR; rw [if_pos HK.out.symm, HC.out, if_neg (by simp), HNL.out, if_pos h4])
          go_wp2_with fail
          go_meet
          exact deX_code 1 HR1.out (Below.refl _ _) HX5.out HO2.out hq5w hBs
        · have h4i : ¬ (4096 : Int) < (n : Int) := by omega
          have hw1 : IntKind.i64.wrap ((dl : Int) + (n : Int)) = (dl : Int) + (n : Int) := by rw [IntKind.wrap_i64]; omega
          by_cases h5 : 1048575 < dl + n
          · have e5 : decide ((1048575 : Int) < (dl : Int) + (n : Int)) = true := by simp; omega
            have HR1 : Hid (r = ({ st0 with code := 9 }, s)) := Lib.hid (by rw [HR.out]; unfold deedR; rw [if_pos HK.out.symm, HC.out, if_neg (by simp), HNL.out, if_neg h4, ← HDL.out, if_pos h5])
            go_wp2_with fail
            go_quiet (fail)
            go_wp2
            go_meet
            exact deX_code 9 HR1.out (below_drewN (Below.refl _ _) _) HX5.out HO2.out hq5w hBs
          · have e5 : decide ((1048575 : Int) < (dl : Int) + (n : Int)) = false := by simp; omega
            have HR1 : Hid (r = (st0, { s with data := s.data ++ d.data })) := Lib.hid (by rw [HR.out]; unfold deedR; rw [if_pos HK.out.symm, HC.out, if_neg (by simp), HNL.out, if_neg h4, ← HDL.out, if_neg h5])
            go_wp2_with fail
            go_quiet (fail)
            go_wp2
            generalize hwd : World.drewN w2 _ = wd
            have HWD : Hid (Below w2.heap.size w2 wd) := Lib.hid (by rw [← hwd]; exact below_drewN (Below.refl _ _) _)
            clear hwd c0 c1 c2 c3 c4 c5 f0 f1 f2 f3 f4 f5 p0 s0 k1 hq3s hq5s hBs HDr
            have HOd : Hid (Outl wd (TX w q5 T) B s) := Lib.hid (HO2.out.new HWD.out)
            obtain ⟨D, cd, K, ck, ⟨c0, -, -, -, -, -⟩, ⟨f0, -, -, -, -, -⟩, hDr, -⟩ := HOd.out.cells
            have HDr := Lib.hid hDr
            rw [← HDL.out] at c0
            have HX3d := Lib.hid (HX3.out.below HWD.out)
            have k1 := HX3d.out.cell 1 (.slice A n c) rfl
            have hq3s := HX3d.out.lt
            have hBs := HOd.out.lt
            have HAd : Hid (Ls byS wd A d.data) := Lib.hid (HD2.out.data.below HWD.out)
            have HD1 : Hid (Below wd.heap.size wd wd.drew) := Lib.hid (Below.refl _ _).drew
            clear hDr
            go_region_law (first
              | (refine step_appL (F := byS) rfl wd.drew (.const (.slice none 0 0)) (.tmp 18) 27 rfl _ 1 Try.underlying27 byInfo rfl wd.heap.size none 0 0 [] (by first | rfl | simp [Act.eval, Act.put]) (OwnL.nil _ _) D dl cd s.data (by simp [Act.eval, Act.put]) (HDr.out.below HD1.out) HDL.out.symm dl (by omega) (by omega) (by omega) (Nat.le_refl _) ?_; intro A4 g4 w4 ho4 hb4 hs4; rw [List.nil_append] at ho4; have O4 := Lib.hid ho4; have HB4 : Hid (Below wd.heap.size wd w4) := Lib.hid (HD1.out.trans hb4); have ho := HOd.out.new HB4.out; have lB4 := ho.lt; have HX34 := HX3d.out.below HB4.out; have k14 := HX34.cell 1 (.slice A n c) rfl; have lq34 := HX34.lt; clear ho4 hb4 hs4 ho HX34)
              | (refine step_appL (F := byS) rfl w4 (.tmp 19) (.tmp 21) 27 rfl _ 1 Try.underlying27 byInfo rfl wd.heap.size A4 dl g4 s.data (by simp [Act.eval, Act.put]) O4.out A n c d.data (by simp [Act.eval, Act.put]) (HAd.out.below HB4.out) HNL.out (dl + n) rfl (by omega) (by omega) HB4.out.size ?_; intro A5 g5 w5 ho5 hb5 hs5; have O5 := Lib.hid ho5; have HB5 : Hid (Below wd.heap.size wd w5) := Lib.hid (HB4.out.trans hb5); have HO5 : Hid (Outl w5 (TX w q5 T) B s) := Lib.hid (HOd.out.new HB5.out); obtain ⟨D5, cd5, K5, ck5, ⟨c05, -, -, -, -, -⟩, ⟨f05, -, -, -, -, -⟩, -, -⟩ := HO5.out.cells; rw [← HDL.out] at c05; clear ho5 hb5 hs5))
            all_goals
              go_wp2
              go_meet
              refine deX_state HR1.out HX5.out (HO5.out.putData A5 _ (dl + n) g5 O5.out.1 O5.out.ls (clear_of_own O5.out.2 (fun k hk => ?_))) hqB5 ((only_new (S := fun k => k = B) (bthen HWD.out HB5.out)).setCell (.inl rfl) _)
              have hsw := HWD.out.size
              rcases hk with hk | hk | hk
              · left; omega
              · left; have := HT2.out _ hk; omega
              · right; exact hk
      · rw [hc] at c1
        have HR1 : Hid (r = ({ st0 with code := 10 }, s)) := Lib.hid (by rw [HR.out]; unfold deedR; rw [if_pos HK.out.symm, hc, if_pos rfl])
        clear hc
        go_wp2_with fail
        go_meet
        exact deX_code 10 HR1.out (Below.refl _ _) HX5.out HO2.out hq5w hBs
    · by_cases h5 : kd = 5
      · subst h5
        rcases hc : s.closed with _ | _
        · rw [hc] at c1
          have HR1 : Hid (r = (st0, { s with closed := true })) := Lib.hid (by rw [HR.out]; unfold deedR; rw [if_neg (by rw [← HK.out]; decide), if_pos HK.out.symm, hc]; rfl)
          clear hc
          go_wp2_with fail
          go_meet
          exact deX_state HR1.out HX5.out (HO2.out.set 1 (.bool true) _ rfl rfl (fun _ _ _ _ => rfl)) hqB5 (only_set _ _ _ _)
        · rw [hc] at c1
          have HR1 : Hid (r = ({ st0 with code := 10 }, s)) := Lib.hid (by rw [HR.out]; unfold deedR; rw [if_neg (by rw [← HK.out]; decide), if_pos HK.out.symm, hc, if_pos rfl])
          clear hc
          go_wp2_with fail
          go_meet
          exact deX_code 10 HR1.out (Below.refl _ _) HX5.out HO2.out hq5w hBs
      · by_cases h2 : kd = 2
        · subst h2
          have k0 := HX3.out.cell 0 (.int .i64 2) rfl
          have k2 := HX3.out.cell 2 (.int .i64 ack) rfl
          have k3 := HX3.out.cell 3 (.int .i64 win) rfl
          have k4 := HX3.out.cell 4 (.slice S m e) rfl
          obtain ⟨⟨hc, hs⟩, hh⟩ : ∃ x, x = hears s d := ⟨_, rfl⟩
          have HR1 : Hid (r = ({ st0 with code := hc }, hs)) := Lib.hid (by rw [HR.out]; unfold deedR; rw [if_neg (by rw [← HK.out]; decide), if_neg (by rw [← HK.out]; decide), if_pos HK.out.symm, ← hh])
          have HH2 := Lib.hid hh
          clear hh
          go_wp2_with (go_at_call 53; refine (hears_any w2 (TX w q5 T) B s d A n c S m e HO2.out HOK.out HT2.out HD2.out hm47 2 ack win HK.out HA.out HWI.out).mono ?_; rw [← HH2.out]; rintro e w6 ⟨rfl, ho6, hn6⟩; have HO6 := Lib.hid ho6; have HN6 := Lib.hid hn6; have hx6 := HX5.out.only hn6 hqB5; have HX6 := Lib.hid hx6; have p0' := hx6.cell 0 (.int .i64 0) rfl; have s0' := hx6.soft 0; clear ho6 hn6 hx6)
          go_meet
          rw [HR1.out]
          exact ⟨none, 0, 0, rfl, HX6.out.set 0 (.int .i64 hc), OwnL.nil _ _, HO6.out.only (only_set _ q5 0 _) (fun j hj => .inl (.inr (by subst hj; exact ⟨hq5w, Nat.le_refl _⟩))) (fun j hj => .inl hj), (HN6.out.mono (fun k hk => .inl hk)).setCell (.inl (.inr rfl)) _⟩
        · by_cases h4 : kd = 4
          · subst h4
            obtain ⟨sn, hsn⟩ : ∃ x, x = s.sent := ⟨_, rfl⟩
            obtain ⟨ed, hed⟩ : ∃ x, x = s.edge := ⟨_, rfl⟩
            obtain ⟨pl, hpl⟩ : ∃ x, x = places s := ⟨_, rfl⟩
            rw [← hsn] at c3
            rw [← hed] at c2
            have hsn1 : sn ≤ 1048576 := by have := HOK.out.sent; have := places_le s; have : s.data.length ≤ 1048575 := HOK.out.len; omega
            have hed1 : 0 ≤ ed ∧ ed ≤ 1114112 := by rw [hed]; exact ⟨HOK.out.e0, HOK.out.e1⟩
            obtain ⟨s1, hs1⟩ : ∃ s1 : Sd, s1 = { s with todo := 0 } := ⟨_, rfl⟩
            obtain ⟨wt, hwt⟩ : ∃ wt, wt = w2.setCell ⟨B, 5, none⟩ (.int .i64 0) := ⟨_, rfl⟩
            have HOt : Hid (Outl wt (TX w q5 T) B s1) := Lib.hid (by rw [hwt, hs1]; exact HO2.out.set 5 _ _ rfl rfl (fun _ _ _ _ => rfl))
            have HNt : Hid (Only (fun k => k = B) w2 wt) := Lib.hid (by rw [hwt]; exact only_set _ _ _ _)
            have HOK1 : Hid (SdOk s1) := Lib.hid (by rw [hs1]; exact ⟨HOK.out.len, HOK.out.sent, HOK.out.known, Nat.zero_le _, HOK.out.e0, HOK.out.e1⟩)
            have HS1 := Lib.hid hs1
            have HSN := Lib.hid hsn
            have HED := Lib.hid hed
            have HPL : Hid (pl = places s1) := Lib.hid (by rw [hpl, hs1]; rfl)
            have HPL0 := Lib.hid hpl
            have hpl2 : pl ≤ 1048576 := by rw [hpl]; have := places_le s; have : s.data.length ≤ 1048575 := HOK.out.len; omega
            have HR9 : Hid (({ s1 with edge := ed } : Sd) = s1) := Lib.hid (by rw [hs1, hed])
            have HR1 : Hid (r = (st0, { s1 with edge := if cnt s.known sn = sn ∧ sn < pl ∧ ed ≤ (sn : Int) then (sn : Int) + 1 else ed })) := Lib.hid (by rw [HR.out]; unfold deedR; rw [if_neg (by rw [← HK.out]; decide), if_neg (by rw [← HK.out]; decide), if_neg (by rw [← HK.out]; decide), if_pos HK.out.symm, hs1, hsn, hed, hpl])
            have HKN : Hid (s1.known = s.known) := Lib.hid (by rw [hs1])
            clear hsn hed hpl hs1
            go_wp2_with fail
            rw [← hwt]
            clear hwt c0 c1 c2 c3 c4 c5 f0 f1 f2 f3 f4 f5 p0 s0 k1 hq3s hq5s hBs HDr
            obtain ⟨D, cd, K, ck, ⟨-, -, c2, c3, -, -⟩, ⟨-, -, f2, -, -, -⟩, -, -⟩ := HOt.out.cells
            have hBt := HOt.out.lt
            rw [show s1.sent = sn by rw [HS1.out, HSN.out]] at c3
            rw [show s1.edge = ed by rw [HS1.out, HED.out]] at c2
            go_loop [6, 7] (fun mi i => ∃ (k : Nat) (b : Bool), k ≤ sn ∧ i = .int .i64 k ∧ mi = .bool b ∧ (b = true ↔ ¬ cnt s.known k = k)) (fun _ i => sn - (intOf i).toNat)
            case atStart => exact ⟨0, false, Nat.zero_le _, rfl, rfl, by simp [cnt]⟩
            case round =>
              obtain ⟨k, b, hk, rfl, rfl, hb⟩ := hrel
              have HBK := Lib.hid hb
              clear hb
              have hca := cnt_all s.known k
              by_cases hlt : k < sn
              · have hki : (k : Int) < (sn : Int) := by omega
                rcases b with _ | _
                · have hck : cnt s.known k = k := by
                    by_cases g : cnt s.known k = k
                    · exact g
                    · have := HBK.out.2 g; cases this
                  rcases hv : hd s.known k with _ | _
                  · have HV : Hid (hd s1.known k = false) := Lib.hid (by rw [HKN.out, hv])
                    have HNN : Hid (¬ cnt s.known (k + 1) = k + 1) := Lib.hid (fun g => by have := (hca.2.1 g).2; rw [hv] at this; cases this)
                    clear hca hck hv
                    go_wp2_with (go_at_call 54; refine (HH _ _ B s1 HOt.out HOK1.out k false HV.out (by omega)).mono ?_; rintro e wx ⟨rfl, rfl⟩)
                    exact ⟨⟨k + 1, true, by omega, by go_num, rfl, ⟨fun _ => HNN.out, fun _ => rfl⟩⟩, by simp [intOf]; omega⟩
                  · have HV : Hid (hd s1.known k = true) := Lib.hid (by rw [HKN.out, hv])
                    have HNN : Hid (cnt s.known (k + 1) = k + 1) := Lib.hid (hca.2.2 ⟨hck, hv⟩)
                    clear hca hck hv
                    go_wp2_with (go_at_call 54; refine (HH _ _ B s1 HOt.out HOK1.out k true HV.out (by omega)).mono ?_; rintro e wx ⟨rfl, rfl⟩)
                    exact ⟨⟨k + 1, false, by omega, by go_num, rfl, by rw [HNN.out]; simp⟩, by simp [intOf]; omega⟩
                · have HNN : Hid (¬ cnt s.known (k + 1) = k + 1) := Lib.hid (fun g => HBK.out.1 rfl (hca.2.1 g).1)
                  clear hca
                  go_wp2_with fail
                  exact ⟨⟨k + 1, true, by omega, by go_num, rfl, ⟨fun _ => HNN.out, fun _ => rfl⟩⟩, by simp [intOf]; omega⟩
              · obtain rfl : k = sn := by omega
                have hki : ¬ (k : Int) < (k : Int) := by omega
                clear hca
                rcases b with _ | _
                · have hck : cnt s.known k = k := by
                    by_cases g : cnt s.known k = k
                    · exact g
                    · have := HBK.out.2 g; cases this
                  have HCK := Lib.hid hck
                  clear hck
                  have HPQ : Hid (∀ n, Calls Try.prog 55 #[.pointer (some ⟨B, 0, none⟩)] (World.drewN wt n) fun e w' => e = .returned (.int .i64 pl) ∧ w' = World.drewN wt n) := Lib.hid (fun n => (HP _ _ B s1 (HOt.out.new (below_drewN (Below.refl _ _) n)) HOK1.out pl HPL.out).mono fun e w' g => ⟨g.1, g.2.symm⟩)
                  by_cases x1 : k < pl
                  · have x1i : decide ((k : Int) < (pl : Int)) = true := by simp; omega
                    by_cases x2 : ed ≤ (k : Int)
                    · have x2i : decide (ed ≤ (k : Int)) = true := by simp; omega
                      have HR2 : Hid (r = (st0, { s1 with edge := (k : Int) + 1 })) := Lib.hid (by rw [HR1.out, if_pos ⟨HCK.out, x1, x2⟩])
                      go_wp2_with fail
                      go_quiet ((go_at_call 55; exact Calls.quiet_of_same (HPQ.out _)))
                      go_wp2
                      go_meet
                      exact deX_state HR2.out HX5.out ((HOt.out.new (below_drewN (Below.refl _ _) _)).set 2 _ _ rfl rfl (fun _ _ _ _ => rfl)) hqB5 ((only_drewN HNt.out _).setCell (.inl rfl) _)
                    · have x2i : decide (ed ≤ (k : Int)) = false := by simp; omega
                      have HR2 : Hid (r = (st0, s1)) := Lib.hid (by rw [HR1.out, if_neg (fun g => x2 g.2.2), HR9.out])
                      go_wp2_with fail
                      go_quiet ((go_at_call 55; exact Calls.quiet_of_same (HPQ.out _)))
                      go_wp2
                      go_meet
                      exact deX_state HR2.out HX5.out (HOt.out.new (below_drewN (Below.refl _ _) _)) hqB5 (only_drewN HNt.out _)
                  · have x1i : decide ((k : Int) < (pl : Int)) = false := by simp; omega
                    have HR2 : Hid (r = (st0, s1)) := Lib.hid (by rw [HR1.out, if_neg (fun g => x1 g.2.1), HR9.out])
                    go_wp2_with fail
                    go_quiet ((go_at_call 55; exact Calls.quiet_of_same (HPQ.out _)))
                    go_wp2
                    go_meet
                    exact deX_state HR2.out HX5.out (HOt.out.new (below_drewN (Below.refl _ _) _)) hqB5 (only_drewN HNt.out _)
                · have HR2 : Hid (r = (st0, s1)) := Lib.hid (by rw [HR1.out, if_neg (fun g => HBK.out.1 rfl g.1), HR9.out])
                  go_wp2_with fail
                  go_quiet (fail)
                  go_wp2
                  go_meet
                  exact deX_state HR2.out HX5.out (HOt.out.new (below_drewN (Below.refl _ _) _)) hqB5 (only_drewN HNt.out _)
          · by_cases h3 : kd = 3
            · subst h3
              obtain ⟨⟨pt, ps⟩, hp⟩ : ∃ x, x = polls s := ⟨_, rfl⟩
              have HR1 : Hid (r = (pt, ps)) := Lib.hid (by rw [HR.out, hp]; unfold deedR; rw [if_neg (by rw [← HK.out]; decide), if_neg (by rw [← HK.out]; decide), if_neg (by rw [← HK.out]; decide), if_neg (by rw [← HK.out]; decide), if_pos HK.out.symm])
              have HP2 := Lib.hid hp
              clear hp p0 s0
              go_wp2_with (go_at_call 56; refine (polls_any w2 (TX w q5 T) B s HO2.out HOK.out).mono ?_; rw [← HP2.out]; rintro e w6 ⟨A6, n6, c6, rfl, hw6, ho6, hn6⟩; have HW6 := Lib.hid hw6; have HO6 := Lib.hid ho6; have HN6 := Lib.hid hn6; have hx6 := HX5.out.only hn6 hqB5; have HX6 := Lib.hid hx6; have p0 := hx6.cell 0 (.int .i64 0) rfl; have p1 := hx6.cell 1 (.int .i64 0) rfl; have p2 := hx6.cell 2 (.slice none 0 0) rfl; have p3 := hx6.cell 3 (.bool false) rfl; have p4 := hx6.cell 4 (.bool false) rfl; have p5 := hx6.cell 5 (.bool false) rfl; have p6 := hx6.cell 6 (.int .i64 0) rfl; have y0 := hx6.soft 0; have y1 := hx6.soft 1; have y2 := hx6.soft 2; have y3 := hx6.soft 3; have y4 := hx6.soft 4; have y5 := hx6.soft 5; have y6 := hx6.soft 6; unfold stC; clear hw6 ho6 hn6 hx6)
              go_meet
              rw [HR1.out]
              refine ⟨A6, n6, c6, rfl, ?_, ?_, HO6.out.only (only_put7 w6 q5 (.int .i64 pt.code) (.int .i64 pt.at_) (.slice A6 n6 c6) (.bool pt.fin) (.bool pt.again) (.bool pt.idle) (.int .i64 pt.left)) (fun j hj => .inl (.inr (by subst hj; exact ⟨hq5w, Nat.le_refl _⟩))) (fun j hj => .inl hj), (HN6.out.mono (fun k hk => .inl hk)).trans (only_put7 w6 q5 (.int .i64 pt.code) (.int .i64 pt.at_) (.slice A6 n6 c6) (.bool pt.fin) (.bool pt.again) (.bool pt.idle) (.int .i64 pt.left)) (fun j hj => .inl (.inr hj))⟩
              · exact HX6.out.put7 (.int .i64 pt.code) (.int .i64 pt.at_) (.slice A6 n6 c6) (.bool pt.fin) (.bool pt.again) (.bool pt.idle) (.int .i64 pt.left)
              · exact (HW6.out.only (only_put7 w6 q5 (.int .i64 pt.code) (.int .i64 pt.at_) (.slice A6 n6 c6) (.bool pt.fin) (.bool pt.again) (.bool pt.idle) (.int .i64 pt.left)) (fun k hk hs => by have := (HW6.out.lt k hk).1; rw [HS5.out] at this; omega)).base (by rw [HS5.out]; exact Nat.le_refl _)
            · have HR1 : Hid (r = ({ st0 with code := 3 }, s)) := Lib.hid (by rw [HR.out]; unfold deedR; rw [← HK.out, if_neg h1, if_neg h5, if_neg h2, if_neg h4, if_neg h3])
              go_wp2_with fail
              go_meet
              exact deX_code 3 HR1.out (Below.refl _ _) HX5.out HO2.out hq5w hBs
  case rest =>
    obtain ⟨Ar, nr, cr, rfl, hbx, hown, hol, hon⟩ := hcut
    have HBXc := Lib.hid hbx
    have HOWc := Lib.hid hown
    have HOLc := Lib.hid hol
    have HONc := Lib.hid hon
    have HOKr : Hid (SdOk r.2) := Lib.hid (by rw [HR.out]; exact deedR_ok HOK.out d)
    obtain ⟨⟨pc, pa, pd, pf, pg, pi, pL⟩, rs⟩ := r
    have hpL : pL = 0 := by have := deedR_left s d; rw [← HR.out] at this; exact this
    subst hpL
    have HQ : Hid (deed s d = (⟨pc, pa, pd, pf, pg, pi, left rs⟩, rs)) := Lib.hid (by rw [deed_eq, ← HR.out])
    obtain ⟨pl, hpl⟩ : ∃ x, x = places rs := ⟨_, rfl⟩
    obtain ⟨sn, hsn⟩ : ∃ x, x = rs.sent := ⟨_, rfl⟩
    have hsn1 : sn ≤ pl := by rw [hsn, hpl]; exact HOKr.out.sent
    have hpl1 : pl ≤ 1048576 := by rw [hpl]; have := places_le rs; have : rs.data.length ≤ 1048575 := HOKr.out.len; omega
    have HPL := Lib.hid hpl
    have HSN := Lib.hid hsn
    have HX4c : Hid (Bx 29 wc q4 #[.int .i64 0, .int .i64 0, .slice none 0 0, .bool false, .bool false, .bool false, .int .i64 0]) := Lib.hid (HX4.out.only hon (by omega))
    have p6 := hbx.cell 6 (.int .i64 0) rfl
    have s6 := hbx.soft 6
    have hq5c := hbx.lt
    clear hbx hown hol hon hpl hsn
    obtain ⟨w6, hw6⟩ : ∃ w6, w6 = wc.setCell ⟨q5, 6, none⟩ (.int .i64 pl) := ⟨_, rfl⟩
    have HX6 : Hid (Bx 29 w6 q5 #[.int .i64 pc, .int .i64 pa, .slice Ar nr cr, .bool pf, .bool pg, .bool pi, .int .i64 pl]) := Lib.hid (by rw [hw6]; have := HBXc.out.set 6 (.int .i64 pl); exact this)
    have HN6 : Hid (Only (fun k => k = q5) wc w6) := Lib.hid (by rw [hw6]; exact only_set _ _ _ _)
    have HO6 : Hid (Outl w6 (TX w q5 T) B rs) := Lib.hid (HOLc.out.only HN6.out (fun j hj => .inl (.inr (by subst hj; exact ⟨by rw [← HQ3.out]; omega, Nat.le_refl _⟩))) (fun j hj => .inl hj))
    go_wp2_with (go_at_call 55; refine (HP wc _ B rs HOLc.out HOKr.out pl HPL.out).mono ?_; rintro e wx ⟨rfl, rfl⟩)
    rw [← hw6]
    clear hw6 p6 s6 hq5c
    have hcl := cnt_le rs.known
    go_loopw [8] (fun i wr => ∃ (k : Nat), k ≤ sn ∧ i = .int .i64 k ∧ Bx 29 wr q5 #[.int .i64 pc, .int .i64 pa, .slice Ar nr cr, .bool pf, .bool pg, .bool pi, .int .i64 ((pl : Int) - (cnt rs.known k : Nat))] ∧ Only (fun k => k = q5) w6 wr) (fun i _ => sn - (intOf i).toNat)
    case atStart => exact ⟨0, Nat.zero_le _, rfl, by have := HX6.out; simpa [cnt] using this, Only.refl _ _⟩
    case round =>
      obtain ⟨k, hk, rfl, hbx, hon⟩ := hrel
      have HBXr := Lib.hid hbx
      have HONr := Lib.hid hon
      have HOr : Hid (Outl wr (TX w q5 T) B rs) := Lib.hid (HO6.out.only hon (fun j hj => .inl (.inr (by subst hj; exact ⟨by rw [← HQ3.out]; omega, Nat.le_refl _⟩))) (fun j hj => .inl hj))
      obtain ⟨D, cd, K, ck, ⟨c0, c1, c2, c3, c4, c5⟩, -, -, -⟩ := HOr.out.cells
      rw [← HSN.out] at c3
      have hBr := HOr.out.lt
      have hq5r := hbx.lt
      have hck := hcl k
      obtain ⟨y, hy⟩ : ∃ y, y = cnt rs.known k := ⟨_, rfl⟩
      rw [← hy] at hck hbx HBXr
      have p6 := hbx.cell 6 (.int .i64 ((pl : Int) - (y : Nat))) rfl
      have s6 := hbx.soft 6
      have HY := Lib.hid hy
      clear hbx hon hy
      by_cases hlt : k < sn
      · have hki : (k : Int) < (sn : Int) := by omega
        rcases hv : hd rs.known k with _ | _
        · have HV := Lib.hid hv
          have HC1 : Hid (cnt rs.known (k + 1) = y) := Lib.hid (by show cnt rs.known k + (if hd rs.known k then 1 else 0) = y; rw [hv, HY.out]; rfl)
          clear hv
          go_wp2_with (go_at_call 54; refine (HH wr _ B rs HOr.out HOKr.out k false HV.out (by omega)).mono ?_; rintro e wx ⟨rfl, rfl⟩)
          exact ⟨⟨k + 1, by omega, by go_num, by rw [HC1.out]; exact HBXr.out, HONr.out⟩, by simp [intOf]; omega⟩
        · have HV := Lib.hid hv
          have HC1 : Hid (cnt rs.known (k + 1) = y + 1) := Lib.hid (by show cnt rs.known k + (if hd rs.known k then 1 else 0) = y + 1; rw [hv, HY.out]; rfl)
          clear hv
          go_wp2_with (go_at_call 54; refine (HH wr _ B rs HOr.out HOKr.out k true HV.out (by omega)).mono ?_; rintro e wx ⟨rfl, rfl⟩)
          refine ⟨⟨k + 1, by omega, by go_num, ?_, HONr.out.setCell (.inl rfl) _⟩, by simp [intOf]; omega⟩
          rw [HC1.out, show (pl : Int) - ((y + 1 : Nat) : Int) = (pl : Int) - (y : Int) - 1 by omega]
          have := HBXr.out.set 6 (.int .i64 ((pl : Int) - (y : Nat) - 1))
          exact this
      · obtain rfl : k = sn := by omega
        have hki : ¬ (k : Int) < (k : Int) := by omega
        have HL : Hid (left rs = (pl : Int) - (y : Nat)) := Lib.hid (by unfold left; rw [← HPL.out, ← HSN.out, ← HY.out])
        have HX4r : Hid (Bx 29 wr q4 #[.int .i64 0, .int .i64 0, .slice none 0 0, .bool false, .bool false, .bool false, .int .i64 0]) := Lib.hid ((HX4c.out.only HN6.out (by omega)).only HONr.out (by omega))
        have b0 := HX4r.out.cell 0 (.int .i64 0) rfl
        have b1 := HX4r.out.cell 1 (.int .i64 0) rfl
        have b2 := HX4r.out.cell 2 (.slice none 0 0) rfl
        have b3 := HX4r.out.cell 3 (.bool false) rfl
        have b4 := HX4r.out.cell 4 (.bool false) rfl
        have b5 := HX4r.out.cell 5 (.bool false) rfl
        have b6 := HX4r.out.cell 6 (.int .i64 0) rfl
        have y0 := HX4r.out.soft 0
        have y1 := HX4r.out.soft 1
        have y2 := HX4r.out.soft 2
        have y3 := HX4r.out.soft 3
        have y4 := HX4r.out.soft 4
        have y5 := HX4r.out.soft 5
        have y6 := HX4r.out.soft 6
        have p0 := HBXr.out.cell 0 (.int .i64 pc) rfl
        have p1 := HBXr.out.cell 1 (.int .i64 pa) rfl
        have p2 := HBXr.out.cell 2 (.slice Ar nr cr) rfl
        have p3 := HBXr.out.cell 3 (.bool pf) rfl
        have p4 := HBXr.out.cell 4 (.bool pg) rfl
        have p5 := HBXr.out.cell 5 (.bool pi) rfl
        obtain ⟨W, hW⟩ : ∃ W, W = put7 wr q4 (.int .i64 pc) (.int .i64 pa) (.slice Ar nr cr) (.bool pf) (.bool pg) (.bool pi) (.int .i64 ((pl : Int) - (y : Nat))) := ⟨_, rfl⟩
        have HXW : Hid (Bx 29 W q4 #[.int .i64 pc, .int .i64 pa, .slice Ar nr cr, .bool pf, .bool pg, .bool pi, .int .i64 ((pl : Int) - (y : Nat))]) := Lib.hid (by rw [hW]; exact HX4r.out.put7 _ _ _ _ _ _ _)
        have HOW : Hid (Only (fun k => k = q4) wr W) := Lib.hid (by rw [hW]; exact only_put7 _ _ _ _ _ _ _ _ _)
        go_wp2_with fail
        unfold put7 at hW
        rw [← hW]
        clear hW p0 p1 p2 p3 p4 p5 p6 b0 b1 b2 b3 b4 b5 b6 y0 y1 y2 y3 y4 y5 y6 s6 c0 c1 c2 c3 c4 c5
        have r0 := HXW.out.cell 0 (.int .i64 pc) rfl
        have r1 := HXW.out.cell 1 (.int .i64 pa) rfl
        have r2 := HXW.out.cell 2 (.slice Ar nr cr) rfl
        have r3 := HXW.out.cell 3 (.bool pf) rfl
        have r4 := HXW.out.cell 4 (.bool pg) rfl
        have r5 := HXW.out.cell 5 (.bool pi) rfl
        have r6 := HXW.out.cell 6 (.int .i64 ((pl : Int) - (y : Nat))) rfl
        refine end_ret (v := .agg #[.int .i64 pc, .int .i64 pa, .slice Ar nr cr, .bool pf, .bool pg, .bool pi, .int .i64 ((pl : Int) - (y : Nat))]) (by simp [results, Try.results40, go_sem, r0, r1, r2, r3, r4, r5, r6]) ?_
        rw [HQ.out, HL.out]
        have HZ : Only (fun k => k = q4 ∨ k = q5) wc W := ((HN6.out.trans HONr.out (fun j hj => .inl hj)).mono (fun k hk => .inr hk)).trans HOW.out (fun j hj => .inl (.inl hj))
        have hq3w := HQ3.out
        have hs5' := HS5.out
        refine ⟨Ar, nr, cr, rfl, (HOWc.out.only HZ (fun k hk hs => by have := (HOWc.out.lt k hk).1; omega)).base (by omega), HOr.out.only HOW.out (fun k hk => .inl (.inr (by subst hk; omega))) (fun k hk => .inl (.inl hk)), ?_⟩
        exact ((only_new (S := fun k => k = B) HB2.out).trans HONc.out (fun j hj => by rcases hj with hj | hj; exact .inl hj; exact .inr (by omega))).trans HZ (fun j hj => .inr (by omega))

end Go.Proofs.Ytehckiihipnimaa
