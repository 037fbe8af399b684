/-
  The program's hearer: Hear.
-/
import Derived.Test.YtehckiihipnimaaHrr5
import Derived.Test.YtehckiihipnimaaSSacks
import Derived.Deep.CutBlock
namespace Go.Proofs.Ytehckiihipnimaa
open Go.RowKit
set_option linter.unusedVariables false
set_option linter.unusedSimpArgs false

/-- the block that an address leads to -/
def TS (S : Option Addr) (k : Nat) : Prop := ∃ a, S = some a ∧ a.block = k
/-- what Hear answers -/
def RetHr (E : Env) (w : World) (T : Nat → Prop) (B : Nat) (r : Tl × Hr) (e : Ending) (w' : World) : Prop :=
  ∃ S m sc A n c, e = .returned (.agg (tlC r.1 S m sc A n c)) ∧ r.1.sacks.length = m ∧ OwnL byS 5 w' w.heap.size A n c r.1.data ∧ Ls rgS w' S r.1.sacks ∧ (∀ a, S = some a → w.heap.size ≤ a.block ∧ a.block < w'.heap.size) ∧
    HM E w' (fun k => T k ∨ (Value.slice A n c).ownBlock = some k ∨ TS S k) B r.2 ∧ EffH T B w w'

theorem cell_set1 {w : World} {S j : Nat} {p : Addr} (hk : ¬ S = p.block) (u : Value) : (w.setCell ⟨S, j, none⟩ u).cell? p = w.cell? p := by
  rcases p with ⟨b, o, t⟩
  refine World.cell?_of_block ?_
  exact Below.heap_setCell _ _ _ _ (fun e => hk e.symm)
/-- what an arrival comes to lies in the box q5 -/
def HrX (E : Env) (T1 : Nat → Prop) (B q5 : Nat) (w2 : World) (last : Int) (r : (Int × List Int × Bool) × Hr) (p l : Value) (wc : World) : Prop :=
  ∃ A n c, p = .pointer (some ⟨q5, 0, none⟩) ∧ l = .int .i64 last ∧ Bx 52 wc q5 (tkC r.1.1 A n c r.1.2.2) ∧ OwnL byS 5 wc (q5 + 1) A n c r.1.2.1 ∧ HM E wc (fun k => T1 k ∨ (Value.slice A n c).ownBlock = some k) B r.2 ∧
    Only (fun k => (B ≤ k ∧ ¬ T1 k) ∨ k = q5) w2 wc
/-- the ack is laid -/
def AkX (q5 : Nat) (code ack : Int) (A : Option Addr) (n c : Nat) (stop : Bool) (last : Int) (w3 : World) (l : Value) (wc : World) : Prop :=
  l = .int .i64 last ∧ Bx 52 wc q5 #[.int .i64 code, .int .i64 ack, .int .i64 0, .slice none 0 0, .slice A n c, .bool stop] ∧ Only (fun k => k = q5) w3 wc

set_option maxRecDepth 100000 in
set_option maxHeartbeats 8000000 in
theorem hear_anyP (E : Env) (o : Nat) (ho : o = E.o) (w : World) (T : Nat → Prop) (B : Nat) (s : Hr) (h : HM E w T B s) (hok : HrOk s) (hT : ∀ k, T k → k < w.heap.size) (a : Ar) (A : Option Addr) (n c : Nat) (hb : Ls byS w A a.data) (hn : a.data.length = n) (hn47 : n ≤ 140737488355328) (hA : ∀ ad, A = some ad → 0 < n → T ad.block) :
    Calls Try.prog 43 #[.pointer (some ⟨B, o, none⟩), .agg (arC a A n c)] w (RetHr E w T B (hear s a)) := by
  have hB := h.lt
  have H := Lib.hid h
  have HO := Lib.hid ho
  have HOK := Lib.hid hok
  have HTT := Lib.hid hT
  have HBS := Lib.hid hb
  have HN := Lib.hid hn
  have HAT := Lib.hid hA
  obtain ⟨kd, hkd⟩ : ∃ q, q = a.kind := ⟨_, rfl⟩
  obtain ⟨ct, hct⟩ : ∃ q, q = a.count := ⟨_, rfl⟩
  obtain ⟨F, hF⟩ : ∃ q, q = a.at_ := ⟨_, rfl⟩
  obtain ⟨fin, hfin⟩ : ∃ q, q = a.fin := ⟨_, rfl⟩
  obtain ⟨last, hlast⟩ : ∃ q, q = lastOf a := ⟨_, rfl⟩
  obtain ⟨r, hr⟩ : ∃ q, q = hearR s a := ⟨_, rfl⟩
  have HKD := Lib.hid hkd
  have HCT := Lib.hid hct
  have HF := Lib.hid hF
  have HFIN := Lib.hid hfin
  have HLA := Lib.hid hlast
  have HR := Lib.hid hr
  unfold arC
  rw [← hkd, ← hct, ← hF, ← hfin]
  clear h ho hok hT hb hn hA hkd hct hF hfin hlast hr
  go_enter Try.func43, Try.ntmps43
  go_upto_block 0 with fail
  obtain ⟨q3, hq3⟩ : ∃ q, q = w.heap.size := ⟨_, rfl⟩
  obtain ⟨w2, hw2⟩ : ∃ w2, w2 = ((w.alloc (.cells #[.int .i64 kd, .int .i64 F, .slice A n c, .bool fin, .int .i64 ct] 61)).alloc (.cells #[.int .i64 0, .int .i64 0, .int .i64 0, .slice none 0 0, .slice none 0 0, .bool false] 52)).alloc (.cells #[.int .i64 0, .int .i64 0, .int .i64 0, .slice none 0 0, .slice none 0 0, .bool false] 52) := ⟨_, rfl⟩
  have HX3 : Hid (Bx 61 w2 q3 #[.int .i64 kd, .int .i64 F, .slice A n c, .bool fin, .int .i64 ct]) := Lib.hid (by rw [hw2, hq3]; exact ((bx_new _ _ _).below (ba1 _ _)).below (ba1 _ _))
  have HX4 : Hid (Bx 52 w2 (q3 + 1) #[.int .i64 0, .int .i64 0, .int .i64 0, .slice none 0 0, .slice none 0 0, .bool false]) := Lib.hid (by
    rw [hw2, hq3]
    have := bx_new (w.alloc (.cells #[.int .i64 kd, .int .i64 F, .slice A n c, .bool fin, .int .i64 ct] 61)) 52 #[.int .i64 0, .int .i64 0, .int .i64 0, .slice none 0 0, .slice none 0 0, .bool false]
    rw [World.size_alloc] at this
    exact this.below (ba1 _ _))
  have HX5 : Hid (Bx 52 w2 (q3 + 2) #[.int .i64 0, .int .i64 0, .int .i64 0, .slice none 0 0, .slice none 0 0, .bool false]) := Lib.hid (by
    rw [hw2, hq3]
    have := bx_new ((w.alloc (.cells #[.int .i64 kd, .int .i64 F, .slice A n c, .bool fin, .int .i64 ct] 61)).alloc (.cells #[.int .i64 0, .int .i64 0, .int .i64 0, .slice none 0 0, .slice none 0 0, .bool false] 52)) 52 #[.int .i64 0, .int .i64 0, .int .i64 0, .slice none 0 0, .slice none 0 0, .bool false]
    rw [World.size_alloc, World.size_alloc] at this
    exact this)
  have HB2 : Hid (Below w.heap.size w w2) := Lib.hid (by rw [hw2]; exact bthen (bthen (ba1 _ _) (ba1 _ _)) (ba1 _ _))
  have hs2 : w2.heap.size = q3 + 3 := by rw [hw2, hq3]; simp
  rw [← hw2, ← hq3]
  have hq3a : q3 ≤ w.heap.size := by omega
  have hq3b : w.heap.size ≤ q3 := by omega
  clear hw2 hq3
  obtain ⟨q4, hq4⟩ : ∃ q, q3 + 1 = q := ⟨_, rfl⟩
  rw [hq4]
  obtain ⟨q5, hq5⟩ : ∃ q, q4 + 1 = q := ⟨_, rfl⟩
  rw [hq5]
  rw [hq4] at HX4
  rw [show q3 + 2 = q5 by omega] at HX5
  have l34 : q3 < q4 := by omega
  have l45 : q4 < q5 := by omega
  have hs5a : w2.heap.size ≤ q5 + 1 := by omega
  have hs5b : q5 + 1 ≤ w2.heap.size := by omega
  have lB3 : B < q3 := by omega
  have hqB5 : ¬ q5 = B := by omega
  have hBq5 : ¬ B = q5 := by omega
  have hqB3 : ¬ q3 = B := by omega
  have hqB4 : ¬ q4 = B := by omega
  have hq45 : ¬ q4 = q5 := by omega
  have hq54 : ¬ q5 = q4 := by omega
  have hq35 : ¬ q3 = q5 := by omega
  have hq53 : ¬ q5 = q3 := by omega
  clear hq4 hq5 hs2
  obtain ⟨T1, hT1⟩ : ∃ T1 : Nat → Prop, T1 = TL T q3 (q5 + 1) := ⟨_, rfl⟩
  have HT1 := Lib.hid hT1
  have H2 : Hid (HM E w2 T1 B s) := Lib.hid (by rw [hT1]; exact H.out.only (T' := TL T q3 (q5 + 1)) (S := fun _ => False) (only_new HB2.out) (fun _ h => h.elim) (fun k hk => by rcases hk with hk | hk; exact .inl hk; exact .inr (by omega)))
  have HT2 : Hid (∀ k, T1 k → k < w2.heap.size) := Lib.hid (fun k hk => by
    rw [hT1] at hk
    have := HB2.out.size
    rcases hk with hk | hk
    · have := HTT.out k hk; omega
    · omega)
  have HTq : Hid (∀ k, q3 ≤ k → k ≤ q5 → T1 k) := Lib.hid (fun k h1 h2 => by rw [hT1]; exact .inr ⟨h1, by omega⟩)
  have HTs : Hid (∀ k, T k → T1 k) := Lib.hid (fun k hk => by rw [hT1]; exact .inl hk)
  clear hT1
  go_cut [5, 6] (fun p l wc => HrX E T1 B q5 w2 last r p l wc)
  case first =>
    have k0 := HX3.out.cell 0 (.int .i64 kd) rfl
    have k1 := HX3.out.cell 1 (.int .i64 F) rfl
    have k2 := HX3.out.cell 2 (.slice A n c) rfl
    have k3 := HX3.out.cell 3 (.bool fin) rfl
    have k4 := HX3.out.cell 4 (.int .i64 ct) rfl
    have hq3s := HX3.out.lt
    by_cases h1 : kd = 1
    · subst h1
      obtain ⟨⟨kc, sc⟩, hrc⟩ : ∃ x : Int × Hr, x = arrive s a := ⟨_, rfl⟩
      have HR1 : Hid (r = ((kc, [], false), sc)) := Lib.hid (by rw [HR.out]; unfold hearR; rw [if_pos HKD.out.symm, ← hrc])
      have HL1 : Hid (last = F) := Lib.hid (by rw [HLA.out, HF.out]; unfold lastOf; rw [if_pos HKD.out.symm])
      have HCL : Hid (Calls Try.prog 57 #[.pointer (some ⟨B, o, none⟩), .agg #[.int .i64 1, .int .i64 F, .slice A n c, .bool fin, .int .i64 ct]] w2 (RetAr E w2 T1 B (kc, sc))) := Lib.hid (by
        rw [hrc]
        have := arrive_any E o HO.out w2 T1 B s H2.out HOK.out HT2.out a A n c (HBS.out.below HB2.out) HN.out hn47 (fun ad had h0 => HTs.out _ (HAT.out ad had h0))
        unfold arC at this
        rw [← HKD.out, ← HCT.out, ← HF.out, ← HFIN.out] at this
        exact this)
      clear hrc
      go_wp2_with (go_at_call 57; refine HCL.out.mono ?_; rintro e wx ⟨rfl, hs, he⟩; have HSx := Lib.hid hs; have HEx := Lib.hid he; have hx := HX5.out.only he (fun g => g.2 (HTq.out q5 (by omega) (Nat.le_refl _))); have HXx := Lib.hid hx; have p0 := hx.cell 0 (.int .i64 0) rfl; have y0 := hx.soft 0; have hq5s := hx.lt; have hx3 := HX3.out.only he (fun g => g.2 (HTq.out q3 (Nat.le_refl _) (by omega))); have j1 := hx3.cell 1 (.int .i64 F) rfl; have hq3s' := hx3.lt; clear hs he hx hx3)
      go_meet
      rw [HR1.out, HL1.out]
      refine ⟨none, 0, 0, rfl, rfl, ?_, OwnL.nil _ _, ?_, ?_⟩
      · have := HXx.out.set 0 (.int .i64 kc); exact this
      · exact (HSx.out.only (only_set _ _ _ _) (fun k hk => .inl (by subst hk; exact HTq.out k (by omega) (Nat.le_refl _))) (fun k hk => .inl hk)).less (fun k hk => hk.elim id (fun g => by cases g))
      · exact (HEx.out.mono (fun k hk => .inl hk)).trans (only_set _ _ _ _) (fun k hk => .inl (.inr hk))
    · by_cases h2 : kd = 2
      · subst h2
        obtain ⟨⟨⟨kc, kb, ks⟩, sc⟩, hrc⟩ : ∃ x : (Int × List Int × Bool) × Hr, x = takes s ct := ⟨_, rfl⟩
        have HR1 : Hid (r = ((kc, kb, ks), sc)) := Lib.hid (by rw [HR.out]; unfold hearR; rw [← HKD.out, if_neg (by decide), if_pos rfl, ← HCT.out, ← hrc])
        have HL1 : Hid (last = -1) := Lib.hid (by rw [HLA.out]; unfold lastOf; rw [← HKD.out, if_neg (by decide)])
        have HCL : Hid (Calls Try.prog 58 #[.pointer (some ⟨B, o, none⟩), .int .i64 ct] w2 (RetTk E w2 T1 B ((kc, kb, ks), sc))) := Lib.hid (by
          rw [hrc]
          by_cases hc : ct < 0 ∨ 4096 < ct
          · exact take_range E o HO.out w2 T1 B s H2.out ct hc
          · exact take_ok E o HO.out w2 T1 B s H2.out HOK.out HT2.out ct hc)
        clear hrc k0 k1 k2 k3
        go_wp2_with (go_at_call 58; refine HCL.out.mono ?_; rintro e wx ⟨A6, n6, c6, rfl, ho6, hs, he⟩; unfold tkC; have HO6 := Lib.hid ho6; have HSx := Lib.hid hs; have HEx := Lib.hid he; have hx := HX5.out.only he (fun g => g.2 (HTq.out q5 (by omega) (Nat.le_refl _))); have HXx := Lib.hid hx; have p0 := hx.cell 0 (.int .i64 0) rfl; have p1 := hx.cell 1 (.int .i64 0) rfl; have p2 := hx.cell 2 (.int .i64 0) rfl; have p3 := hx.cell 3 (.slice none 0 0) rfl; have p4 := hx.cell 4 (.slice none 0 0) rfl; have p5 := hx.cell 5 (.bool false) rfl; have y0 := hx.soft 0; have y1 := hx.soft 1; have y2 := hx.soft 2; have y3 := hx.soft 3; have y4 := hx.soft 4; have y5 := hx.soft 5; have hq5s := hx.lt; clear hs he hx ho6)
        go_meet
        rw [HR1.out, HL1.out]
        have hb6 : ∀ k, (Value.slice A6 n6 c6).ownBlock = some k → w2.heap.size ≤ k := fun k hk => (HO6.out.lt k hk).1
        refine ⟨A6, n6, c6, rfl, rfl, HXx.out.put6 (.int .i64 kc) (.int .i64 0) (.int .i64 0) (.slice none 0 0) (.slice A6 n6 c6) (.bool ks), ?_, ?_, ?_⟩
        · exact (HO6.out.only (only_put6 wx q5 (.int .i64 kc) (.int .i64 0) (.int .i64 0) (.slice none 0 0) (.slice A6 n6 c6) (.bool ks)) (fun k hk hs => by have := hb6 k hk; omega)).base (by omega)
        · exact HSx.out.only (only_put6 wx q5 (.int .i64 kc) (.int .i64 0) (.int .i64 0) (.slice none 0 0) (.slice A6 n6 c6) (.bool ks)) (fun k hk => .inl (.inl (by subst hk; exact HTq.out k (by omega) (Nat.le_refl _)))) (fun k hk => .inl hk)
        · exact (HEx.out.mono (fun k hk => .inl hk)).trans (only_put6 wx q5 (.int .i64 kc) (.int .i64 0) (.int .i64 0) (.slice none 0 0) (.slice A6 n6 c6) (.bool ks)) (fun k hk => .inl (.inr hk))
      · have HR1 : Hid (r = ((3, [], false), s)) := Lib.hid (by rw [HR.out]; unfold hearR; rw [← HKD.out, if_neg h1, if_neg h2])
        have HL1 : Hid (last = -1) := Lib.hid (by rw [HLA.out]; unfold lastOf; rw [← HKD.out, if_neg h1])
        have p0 := HX5.out.cell 0 (.int .i64 0) rfl
        have y0 := HX5.out.soft 0
        have hq5s := HX5.out.lt
        clear k1 k2 k3 k4
        go_wp2_with fail
        go_meet
        rw [HR1.out, HL1.out]
        refine ⟨none, 0, 0, rfl, rfl, ?_, OwnL.nil _ _, ?_, ?_⟩
        · have := HX5.out.set 0 (.int .i64 3); exact this
        · exact (H2.out.only (only_set _ _ _ _) (fun k hk => .inl (by subst hk; exact HTq.out k (by omega) (Nat.le_refl _))) (fun k hk => .inl hk)).less (fun k hk => hk.elim id (fun g => by cases g))
        · exact (only_set w2 q5 _ _).mono (fun k hk => .inr hk)
  case rest =>
    obtain ⟨A6, n6, c6, rfl, rfl, hbx, how, hsn, hon⟩ := hcut
    obtain ⟨w3, hw3⟩ : ∃ w3, w3 = wc := ⟨_, rfl⟩
    subst hw3
    obtain ⟨⟨kc, kb, ks⟩, s3⟩ := r
    simp only at hbx how hsn
    unfold tkC at hbx
    have HBX3 := Lib.hid hbx
    have HOW3 := Lib.hid how
    have HSN3 := Lib.hid hsn
    have HON3 := Lib.hid hon
    have HRE : Hid (hearR s a = ((kc, kb, ks), s3)) := Lib.hid HR.out.symm
    have hok3 : HrOk s3 := by have := hear_ok HOK.out a; rw [show (hear s a).2 = (hearR s a).2 from rfl, HRE.out] at this; exact this
    have HOK3 := Lib.hid hok3
    have HX43 : Hid (Bx 52 w3 q4 #[.int .i64 0, .int .i64 0, .int .i64 0, .slice none 0 0, .slice none 0 0, .bool false]) := Lib.hid (HX4.out.only hon (fun g => g.elim (fun g => g.2 (HTq.out q4 (by omega) (by omega))) (fun g => hq45 g)))
    obtain ⟨D, dc, Y, yc, hx, -, hY, hcl, -, -⟩ := hsn
    have c0 := hx.cell 0 (.int .i64 s3.room) rfl
    have c2 := hx.cell 2 (.int .i64 s3.dn) rfl
    have c3 := hx.cell 3 (.slice Y s3.bt.length yc) rfl
    have c4 := hx.cell 4 (.int .i64 s3.taken) rfl
    have c5 := hx.cell 5 (.bool s3.ended) rfl
    have c6' := hx.cell 6 (.int .i64 s3.stop) rfl
    rw [Nat.add_zero] at c0
    have hcq : Clear (fun k => k = q5) Y := hcl.mono (fun k hk => .inr (.inl (.inl (by subst hk; exact HTq.out k (by omega) (Nat.le_refl _)))))
    obtain ⟨dn, hdn⟩ : ∃ d, d = s3.dn := ⟨_, rfl⟩
    obtain ⟨en, hen⟩ : ∃ d, d = s3.ended := ⟨_, rfl⟩
    obtain ⟨st, hst⟩ : ∃ d, d = s3.stop := ⟨_, rfl⟩
    obtain ⟨bl, hbl⟩ : ∃ d, d = s3.bt.length := ⟨_, rfl⟩
    obtain ⟨tk, htk⟩ : ∃ d, d = s3.taken := ⟨_, rfl⟩
    obtain ⟨rm, hrm⟩ : ∃ d, d = s3.room := ⟨_, rfl⟩
    obtain ⟨ack, hack⟩ : ∃ d, d = ackOf s3 := ⟨_, rfl⟩
    obtain ⟨win, hwin⟩ : ∃ d, d = tk + rm - dn := ⟨_, rfl⟩
    obtain ⟨sl, hsl⟩ : ∃ l, l = (sackAll last s3.bt).take 3 := ⟨_, rfl⟩
    obtain ⟨m, hm⟩ : ∃ m, sl.length = m := ⟨_, rfl⟩
    rw [← HO.out, ← hrm] at c0
    rw [← HO.out, ← hdn] at c2
    rw [← HO.out, ← hbl] at c3
    rw [← HO.out, ← htk] at c4
    rw [← HO.out, ← hen] at c5
    rw [← HO.out, ← hst] at c6'
    obtain ⟨m1, m2, m3, -, -, -⟩ := hmay_parts hok3.may
    have hdb : 0 ≤ dn ∧ dn ≤ 1048576 := by rw [hdn]; exact ⟨m1, m2⟩
    have htb : 0 ≤ tk ∧ tk ≤ dn ∧ 1 ≤ rm ∧ rm ≤ 4096 := by rw [htk, hdn, hrm]; exact ⟨hok3.t0, hok3.t1, hok3.r1, hok3.r2⟩
    have hbl16 : bl ≤ 16 := by rw [hbl]; exact m3
    have e1 : IntKind.i64.wrap (dn + 1) = dn + 1 := by rw [IntKind.wrap_i64]; omega
    have e2 : IntKind.i64.wrap (tk + rm) = tk + rm := by rw [IntKind.wrap_i64]; omega
    have e3 : IntKind.i64.wrap (tk + rm - dn) = win := by rw [IntKind.wrap_i64]; omega
    have HACK : Hid (ack = if en = true ∧ dn = st then dn + 1 else dn) := Lib.hid (by rw [hack, hen, hdn, hst]; rfl)
    have HQ : Hid (hear s a = (⟨kc, ack, win, sl, kb, ks⟩, s3)) := Lib.hid (by
      unfold hear; rw [HRE.out, hack, hwin, hsl, HLA.out, htk, hrm, hdn])
    have HSK : Hid (∀ wk, Only (fun k => k = q5) w3 wk → Calls Try.prog 59 #[.int .i64 dn, .slice Y bl yc, .int .i64 last, .int .i64 3] wk (RetSk wk sl)) := Lib.hid (fun wk hk => by
      rw [hsl, hdn]
      exact sacks_ok s3.dn Y bl yc s3.bt last 3 wk (ls_rsH.1 (hY.only hk hcq)) hbl.symm hok3.may (by omega))
    have HSL := Lib.hid hsl
    have HMM := Lib.hid hm
    clear hY hx hcl hcq hdn hen hst hbl htk hrm hack hwin hsl hm m1 m2 m3 how hon
    have HC := Lib.hid (And.intro c0 (And.intro c2 (And.intro c3 (And.intro c4 (And.intro c5 c6')))))
    have lB := HSN3.out.lt
    have p1 := hbx.cell 1 (.int .i64 0) rfl
    have y1 := hbx.soft 1
    have lq5 := hbx.lt
    clear c0 c3 c4 c5 c6' hbx
    go_upto_region 11 with fail
    obtain ⟨w4, hw4⟩ : ∃ w4, w4 = w3.setCell ⟨q5, 1, none⟩ (.int .i64 dn) := ⟨_, rfl⟩
    have HN4 : Hid (Only (fun k => k = q5) w3 w4) := Lib.hid (by rw [hw4]; exact only_set _ _ _ _)
    have HX54 : Hid (Bx 52 w4 q5 #[.int .i64 kc, .int .i64 dn, .int .i64 0, .slice none 0 0, .slice A6 n6 c6, .bool ks]) := Lib.hid (by rw [hw4]; have := HBX3.out.set 1 (.int .i64 dn); exact this)
    have HCS : Hid (∀ j v, w3.cell? ⟨B, j, none⟩ = some v → ∀ wk, Only (fun k => k = q5) w3 wk → wk.cell? ⟨B, j, none⟩ = some v) := Lib.hid (fun j v hv wk hk => (World.cell?_of_block (a := ⟨B, j, none⟩) (hk.block B lB hBq5)).trans hv)
    rw [← hw4]
    clear hw4 c2 p1 y1 lq5
    have k2 := HCS.out _ _ HC.out.2.1 w4 HN4.out
    have k5 := HCS.out _ _ HC.out.2.2.2.2.1 w4 HN4.out
    have k6 := HCS.out _ _ HC.out.2.2.2.2.2 w4 HN4.out
    have lB4 : B < w4.heap.size := Nat.lt_of_lt_of_le lB HN4.out.size
    obtain ⟨v11, hv11⟩ : ∃ v, v = (en && decide (dn = st)) := ⟨_, rfl⟩
    have HV := Lib.hid hv11
    clear hv11
    go_cut [6, 43] (fun l v wx => l = .int .i64 last ∧ v = .bool v11 ∧ Below w4.heap.size w4 wx)
    case first =>
      have hcs : (en = false ∧ v11 = false) ∨ (en = true ∧ dn = st ∧ v11 = true) ∨ (en = true ∧ ¬ dn = st ∧ v11 = false) := by
        have hv := HV.out
        cases en
        · exact .inl ⟨rfl, by simpa using hv⟩
        · by_cases g : dn = st
          · exact .inr (.inl ⟨rfl, g, by simpa [g] using hv⟩)
          · exact .inr (.inr ⟨rfl, g, by simpa [g] using hv⟩)
      rcases hcs with ⟨rfl, rfl⟩ | ⟨rfl, g, rfl⟩ | ⟨rfl, g, rfl⟩
      · go_quiet (fail)
        go_wp2
        go_meet
        exact ⟨rfl, rfl, below_drewN (Below.refl _ _) _⟩
      · have h3 : decide (dn = st) = true := by simp; omega
        have h4 : (dn == st) = true := by simp; omega
        clear g
        go_quiet (fail)
        go_wp2
        go_meet
        exact ⟨rfl, rfl, below_drewN (Below.refl _ _) _⟩
      · have h3 : decide (dn = st) = false := by simp; omega
        have h4 : (dn == st) = false := by simp; omega
        clear g
        go_quiet (fail)
        go_wp2
        go_meet
        exact ⟨rfl, rfl, below_drewN (Below.refl _ _) _⟩
    case rest =>
      obtain ⟨rfl, rfl, hbc⟩ := hcut
      obtain ⟨w5, hw5⟩ : ∃ w5, w5 = wc := ⟨_, rfl⟩
      subst hw5
      have HN5 : Hid (Only (fun k => k = q5) w3 w5) := Lib.hid (HN4.out.new hbc)
      have HX55 := Lib.hid (HX54.out.below hbc)
      clear hbc k2 k5 k6 lB4
      have p1 := HX55.out.cell 1 (.int .i64 dn) rfl
      have y1 := HX55.out.soft 1
      have lq5 := HX55.out.lt
      go_upto_if 43 with fail
      go_cut [6] (fun l wx => AkX q5 kc ack A6 n6 c6 ks last w3 l wx)
      case first =>
        rcases hv : v11 with _ | _
        · have HAD : Hid (ack = dn) := Lib.hid (by
            rw [HACK.out]; have := HV.out; rw [hv] at this
            rw [if_neg (fun g => by rw [g.1, g.2] at this; simp at this)])
          subst hv
          go_wp2_with fail
          go_meet
          exact ⟨rfl, by rw [HAD.out]; exact HX55.out, HN5.out⟩
        · have HAD : Hid (ack = dn + 1) := Lib.hid (by
            rw [HACK.out]; have := HV.out; rw [hv] at this
            have h2 := this.symm
            simp only [Bool.and_eq_true, decide_eq_true_eq] at h2
            rw [if_pos h2])
          subst hv
          go_wp2_with fail
          go_meet
          exact ⟨rfl, by rw [HAD.out]; have := HX55.out.set 1 (.int .i64 (dn + 1)); exact this, HN5.out.trans (only_set _ _ _ _) (fun k hk => .inl hk)⟩
      case rest =>
        obtain ⟨rfl, hx6, hn6⟩ := hcut
        obtain ⟨w6, hw6⟩ : ∃ w6, w6 = wc := ⟨_, rfl⟩
        subst hw6
        have HX6 := Lib.hid hx6
        have HN6 := Lib.hid hn6
        clear p1 y1 lq5 hn6
        go_upto_region 13 with fail
        have k0 := HCS.out _ _ HC.out.1 w6 HN6.out
        have k2 := HCS.out _ _ HC.out.2.1 w6 HN6.out
        have k4 := HCS.out _ _ HC.out.2.2.2.1 w6 HN6.out
        have lB6 : B < w6.heap.size := Nat.lt_of_lt_of_le lB HN6.out.size
        have p2 := hx6.cell 2 (.int .i64 0) rfl
        have y2 := hx6.soft 2
        have lq6 := hx6.lt
        clear hx6
        go_cut [6] (fun l wx => l = .int .i64 last ∧ Bx 52 wx q5 #[.int .i64 kc, .int .i64 ack, .int .i64 win, .slice none 0 0, .slice A6 n6 c6, .bool ks] ∧ Only (fun k => k = q5) w3 wx)
        case first =>
          have HB1 : Hid (Bx 52 (w6.setCell ⟨q5, 2, none⟩ (.int .i64 win)) q5 #[.int .i64 kc, .int .i64 ack, .int .i64 win, .slice none 0 0, .slice A6 n6 c6, .bool ks]) := Lib.hid (by have := HX6.out.set 2 (.int .i64 win); exact this)
          have HB2' : Hid (Bx 52 (w6.drew.setCell ⟨q5, 2, none⟩ (.int .i64 win)) q5 #[.int .i64 kc, .int .i64 ack, .int .i64 win, .slice none 0 0, .slice A6 n6 c6, .bool ks]) := Lib.hid (by have := (HX6.out.below (Below.refl _ _).drew).set 2 (.int .i64 win); exact this)
          have HO1 : Hid (Only (fun k => k = q5) w3 (w6.setCell ⟨q5, 2, none⟩ (.int .i64 win))) := Lib.hid (HN6.out.trans (only_set _ _ _ _) (fun k hk => .inl hk))
          have HO2 : Hid (Only (fun k => k = q5) w3 (w6.drew.setCell ⟨q5, 2, none⟩ (.int .i64 win))) := Lib.hid (HN6.out.drew.trans (only_set _ _ _ _) (fun k hk => .inl hk))
          go_region
          all_goals
            go_wp2
          all_goals
            go_meet
          all_goals
            first
            | exact ⟨rfl, HB1.out.below (Below.refl _ _).drew, HO1.out.drew⟩
            | exact ⟨rfl, HB2'.out, HO2.out⟩
        case rest =>
          obtain ⟨rfl, hx7, hn7⟩ := hcut
          obtain ⟨w7, hw7⟩ : ∃ w7, w7 = wc := ⟨_, rfl⟩
          subst hw7
          have HX7 := Lib.hid hx7
          have HN7 := Lib.hid hn7
          clear k0 k2 k4 lB6 p2 y2 lq6
          go_upto_region 14 with fail
          have k2 := HCS.out _ _ HC.out.2.1 w7 hn7
          have k3 := HCS.out _ _ HC.out.2.2.1 w7 hn7
          have lB7 : B < w7.heap.size := Nat.lt_of_lt_of_le lB hn7.size
          have b2 := cell_drew1 k2
          have b3 := cell_drew1 k3
          have lq7 := hx7.lt
          have HSKd := Lib.hid (HSK.out w7.drew hn7.drew)
          clear hx7 hn7
          go_region_held3 (fun w' => w'.cell? ⟨B, o + 2, none⟩ = some (.int .i64 dn) ∧ w'.cell? ⟨B, o + 3, none⟩ = some (.slice Y bl yc)) (first | (with_reducible exact ⟨m1, m2⟩) | (with_reducible exact ⟨b2, b3⟩) | (exact ⟨(cell_set1 hqB5 _).trans m1, (cell_set1 hqB5 _).trans m2⟩) | go_keep) (first
            | (go_at_call 59; (refine HSKd.out.mono ?_); unfold RetSk; rw [HMM.out]; rintro e w8 ⟨S8, sc8, rfl, hs8, hc8, hb8⟩; have HS8 := Lib.hid hs8; have HC8 := Lib.hid hc8; have HB8 := Lib.hid hb8; have m1 := (hb8.cell (p := ⟨B, o + 2, none⟩) lB7).trans b2; have m2 := (hb8.cell (p := ⟨B, o + 3, none⟩) lB7).trans b3; have hx8 := (HX7.out.below (Below.refl _ _).drew).below hb8; have HX8 := Lib.hid hx8; have p3 := hx8.cell 3 (.slice none 0 0) rfl; have y3 := hx8.soft 3; have lq8 := hx8.lt; clear hs8 hc8 hb8 hx8))
          all_goals
            go_upto_region 15 with fail
          obtain ⟨w9, hw9⟩ : ∃ w9, w9 = w8.setCell ⟨q5, 3, none⟩ (.slice S8 m sc8) := ⟨_, rfl⟩
          have HX9 : Hid (Bx 52 w9 q5 #[.int .i64 kc, .int .i64 ack, .int .i64 win, .slice S8 m sc8, .slice A6 n6 c6, .bool ks]) := Lib.hid (by rw [hw9]; have := HX8.out.set 3 (.slice S8 m sc8); exact this)
          have HN89 : Hid (Only (fun k => k = q5) w8 w9) := Lib.hid (by rw [hw9]; exact only_set _ _ _ _)
          have HB78 : Hid (Below w7.heap.size w7 w8) := Lib.hid (bthen (Below.refl _ _).drew HB8.out)
          have HN9 : Hid (Only (fun k => k = q5) w3 w9) := Lib.hid ((HN7.out.new HB78.out).trans HN89.out (fun j hj => .inl hj))
          have HX49 : Hid (Bx 52 w9 q4 #[.int .i64 0, .int .i64 0, .int .i64 0, .slice none 0 0, .slice none 0 0, .bool false]) := Lib.hid (HX43.out.only HN9.out hq45)
          rw [← hw9]
          clear hw9 m1 m2 p3 y3 lq8 k2 k3 b2 b3 lB7 lq7
          have p0 := HX9.out.cell 0 (.int .i64 kc) rfl
          have p1 := HX9.out.cell 1 (.int .i64 ack) rfl
          have p2 := HX9.out.cell 2 (.int .i64 win) rfl
          have p3 := HX9.out.cell 3 (.slice S8 m sc8) rfl
          have p4 := HX9.out.cell 4 (.slice A6 n6 c6) rfl
          have p5 := HX9.out.cell 5 (.bool ks) rfl
          have l9 := HX9.out.lt
          have b0 := HX49.out.cell 0 (.int .i64 0) rfl
          have b1 := HX49.out.cell 1 (.int .i64 0) rfl
          have b2 := HX49.out.cell 2 (.int .i64 0) rfl
          have b3 := HX49.out.cell 3 (.slice none 0 0) rfl
          have b4 := HX49.out.cell 4 (.slice none 0 0) rfl
          have b5 := HX49.out.cell 5 (.bool false) rfl
          have y0 := HX49.out.soft 0
          have y1 := HX49.out.soft 1
          have y2 := HX49.out.soft 2
          have y3 := HX49.out.soft 3
          have y4 := HX49.out.soft 4
          have y5 := HX49.out.soft 5
          have l49 := HX49.out.lt
          obtain ⟨W, hW⟩ : ∃ W, W = put6 w9 q4 (.int .i64 kc) (.int .i64 ack) (.int .i64 win) (.slice S8 m sc8) (.slice A6 n6 c6) (.bool ks) := ⟨_, rfl⟩
          have HXW : Hid (Bx 52 W q4 #[.int .i64 kc, .int .i64 ack, .int .i64 win, .slice S8 m sc8, .slice A6 n6 c6, .bool ks]) := Lib.hid (by rw [hW]; exact HX49.out.put6 _ _ _ _ _ _)
          have HOW4 : Hid (Only (fun k => k = q4) w9 W) := Lib.hid (by rw [hW]; exact only_put6 _ _ _ _ _ _ _ _)
          go_wp2_with fail
          unfold put6 at hW
          rw [← hW]
          clear hW p0 p1 p2 p3 p4 p5 b0 b1 b2 b3 b4 b5 y0 y1 y2 y3 y4 y5
          have r0 := HXW.out.cell 0 (.int .i64 kc) rfl
          have r1 := HXW.out.cell 1 (.int .i64 ack) rfl
          have r2 := HXW.out.cell 2 (.int .i64 win) rfl
          have r3 := HXW.out.cell 3 (.slice S8 m sc8) rfl
          have r4 := HXW.out.cell 4 (.slice A6 n6 c6) rfl
          have r5 := HXW.out.cell 5 (.bool ks) rfl
          refine end_ret (v := .agg #[.int .i64 kc, .int .i64 ack, .int .i64 win, .slice S8 m sc8, .slice A6 n6 c6, .bool ks]) (by simp [results, Try.results43, go_sem, r0, r1, r2, r3, r4, r5]) ?_
          rw [HQ.out]
          have hown : ∀ k, (Value.slice A6 n6 c6).ownBlock = some k → q5 + 1 ≤ k ∧ k < w3.heap.size := HOW3.out.lt
          have hs8 := HC8.out
          have hw73 := HN7.out.size
          have hw27 : w7.heap.size ≤ w7.drew.heap.size := Nat.le_refl _
          have hs8' : ∀ ad, S8 = some ad → w3.heap.size ≤ ad.block ∧ ad.block < w8.heap.size := fun ad had => by
            have h1 := hs8 ad had
            have h2 : w7.drew.heap.size = w7.heap.size := rfl
            omega
          have h32 : w2.heap.size ≤ w3.heap.size := HON3.out.size
          have h89 := HN89.out.size
          have h9W := HOW4.out.size
          have ho8W : Only (fun k => k = q5 ∨ k = q4) w8 W := (HN89.out.mono (fun k hk => .inl hk)).trans HOW4.out (fun j hj => .inl (.inr hj))
          have ho3W : Only (fun k => k = q5 ∨ k = q4) w3 W := (HN9.out.mono (fun k hk => .inl hk)).trans HOW4.out (fun j hj => .inl (.inr hj))
          refine ⟨S8, m, sc8, A6, n6, c6, rfl, HMM.out, ?_, ?_, ?_, ?_, ?_⟩
          · exact (HOW3.out.only ho3W (fun k hk hs => by have := hown k hk; omega)).base (by omega)
          · exact (ls_rsH.2 HS8.out).only ho8W (fun ad had hs => by have := hs8' ad had; omega)
          · exact fun ad had => by have := hs8' ad had; omega
          · have h7 : HM E w7 (fun k => T1 k ∨ (Value.slice A6 n6 c6).ownBlock = some k) B s3 := HSN3.out.only HN7.out (fun k hk => .inl (.inl (by subst hk; exact HTq.out k (by omega) (Nat.le_refl _)))) (fun k hk => .inl hk)
            have h8 : HM E w8 (fun k => (T1 k ∨ (Value.slice A6 n6 c6).ownBlock = some k) ∨ TS S8 k) B s3 := h7.only (S := fun _ => False) (only_new HB78.out) (fun _ h => h.elim) (fun k hk => by
              rcases hk with hk | ⟨ad, had, hb⟩
              · exact .inl hk
              · have h1 := hs8 ad had
                have h2 : w7.drew.heap.size = w7.heap.size := rfl
                exact .inr (by omega))
            refine h8.only ho8W (fun k hk => .inl (.inl (.inl (HTq.out k (by omega) (by omega))))) (fun k hk => .inl ?_)
            rcases hk with hk | hk | hk
            · exact .inl (.inl (HTs.out k hk))
            · exact .inl (.inr hk)
            · exact .inr hk
          · have h1 : Only (fun k => B ≤ k ∧ ¬ T k) w w3 := (only_new (S := fun k => B ≤ k ∧ ¬ T k) HB2.out).trans HON3.out (fun j hj => by
              rcases hj with ⟨g1, g2⟩ | hj
              · exact .inl ⟨g1, fun g => g2 (HTs.out j g)⟩
              · exact .inr (by omega))
            exact h1.trans ho3W (fun j hj => .inr (by omega))

end Go.Proofs.Ytehckiihipnimaa
