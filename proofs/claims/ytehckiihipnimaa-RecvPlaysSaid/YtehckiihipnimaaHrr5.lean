/-
  The program's hearer: arrive.
-/
import Derived.Test.YtehckiihipnimaaHrr4
import Derived.Test.YtehckiihipnimaaSAdd
import Derived.Test.YtehckiihipnimaaBox5
namespace Go.Proofs.Ytehckiihipnimaa
open Go.RowKit
set_option linter.unusedVariables false
set_option linter.unusedSimpArgs false

def arC (a : Ar) (A : Option Addr) (n c : Nat) : Array Value := #[.int .i64 a.kind, .int .i64 a.at_, .slice A n c, .bool a.fin, .int .i64 a.count]
/-- what arrive answers -/
def RetAr (E : Env) (w : World) (T : Nat → Prop) (B : Nat) (r : Int × Hr) (e : Ending) (w' : World) : Prop :=
  e = .returned (.int .i64 r.1) ∧ HM E w' T B r.2 ∧ EffH T B w w'

/-- other ranges, wherever they lie -/
theorem HM.setBeyond2 {E : Env} {w : World} {T : Nat → Prop} {B : Nat} {s s' : Hr} (h : HM E w T B s) (hd : s'.room = s.room ∧ s'.data = s.data ∧ s'.dn = s.dn ∧ s'.taken = s.taken ∧ s'.ended = s.ended ∧ s'.stop = s.stop) (Y' : Option Addr) (n yc' : Nat) (hn : s'.bt.length = n) (hl : Ls rgS w Y' s'.bt)
    (hc : ∀ D dc, w.cell? ⟨B, E.o + 1, none⟩ = some (.slice D s.data.length dc) → Clear (fun j => j = B ∨ T j ∨ w.heap.size ≤ j ∨ (Value.slice D s.data.length dc).ownBlock = some j) Y') : HM E (w.setCell ⟨B, E.o + 3, none⟩ (.slice Y' n yc')) T B s' := by
  subst hn
  obtain ⟨g1, g2, g3, g4, g5, g6⟩ := hd
  obtain ⟨D, dc, Y, yc, h1, h2, h3, h4, h5, h6⟩ := h
  have hc := hc D dc (h1.cell 1 _ rfl)
  unfold HM
  rw [g2]
  refine ⟨D, dc, Y', yc', ?_, h2.only (only_set w B _ _) (fun k hk e => by have := (h2.lt k hk).1; omega), hl.only (only_set w B _ _) (hc.mono fun k hk => .inl hk), hc.mono fun k hk => ?_, h5, h6⟩
  · have := h1.set 3 (by show 3 < 7; omega) (.slice Y' s'.bt.length yc')
    have ec : (hrC s D dc Y yc).modify 3 (fun _ => .slice Y' s'.bt.length yc') = hrC s' D dc Y' yc' := by
      show (#[.int .i64 s.room, .slice D s.data.length dc, .int .i64 s.dn, .slice Y' s'.bt.length yc', .int .i64 s.taken, .bool s.ended, .int .i64 s.stop] : Array Value) = _
      unfold hrC
      rw [g1, g2, g3, g4, g5, g6]
    rw [ec] at this
    exact this
  · rw [size_set] at hk; exact hk

set_option maxRecDepth 100000 in
set_option maxHeartbeats 2000000 in
theorem arrive_no (E : Env) (o : Nat) (ho : o = E.o) (w : World) (T : Nat → Prop) (B : Nat) (s : Hr) (h : HM E w T B s) (a : Ar) (A : Option Addr) (n c : Nat) (hn : a.data.length = n) (hn47 : n ≤ 140737488355328)
    (hr : (a.at_ < 0 ∨ 1048576 - (n : Int) ≤ a.at_) ∨ 64 < n) :
    Calls Try.prog 57 #[.pointer (some ⟨B, o, none⟩), .agg (arC a A n c)] w (RetAr E w T B (arrive s a)) := by
  have H := Lib.hid h
  have HR : Hid ((arrive s a).2 = s) := Lib.hid (by
    unfold arrive
    rcases hr with hr | hr
    · rw [if_pos (by rw [hn]; exact hr)]
    · split
      · rfl
      · rw [if_pos (by omega)])
  obtain ⟨cc, hcc⟩ : ∃ q, q = (arrive s a).1 := ⟨_, rfl⟩
  have hc2 : (a.at_ < 0 ∧ cc = 2) ∨ (0 ≤ a.at_ ∧ 1048576 - (n : Int) ≤ a.at_ ∧ cc = 2) ∨ (0 ≤ a.at_ ∧ a.at_ < 1048576 - (n : Int) ∧ 64 < n ∧ cc = 1) := by
    rw [hcc]; unfold arrive
    rw [hn]
    by_cases g1 : a.at_ < 0
    · exact .inl ⟨g1, by rw [if_pos (.inl g1)]⟩
    · by_cases g2 : 1048576 - (n : Int) ≤ a.at_
      · exact .inr (.inl ⟨by omega, g2, by rw [if_pos (.inr g2)]⟩)
      · exact .inr (.inr ⟨by omega, by omega, by omega, by rw [if_neg (by omega), if_pos (by omega)]⟩)
  have HCC := Lib.hid hcc
  obtain ⟨at_, hat⟩ : ∃ x, x = a.at_ := ⟨_, rfl⟩
  have hw : IntKind.i64.wrap (1048576 - (n : Int)) = 1048576 - (n : Int) := by rw [IntKind.wrap_i64]; omega
  unfold arC RetAr
  rw [← hat] at hc2 ⊢
  rw [HR.out, ← hcc]
  clear h hr hcc hat
  rcases hc2 with ⟨k0, rfl⟩ | ⟨k0, k1, rfl⟩ | ⟨k0, k1, k2, rfl⟩
  · go_enter Try.func57, Try.ntmps57
    go_wp2
    go_ret
    exact ⟨rfl, H.out.new (ba2 _ _ _), EffH.new (ba2 _ _ _)⟩
  · go_enter Try.func57, Try.ntmps57
    go_wp2
    go_ret
    exact ⟨rfl, H.out.new (ba2 _ _ _), EffH.new (ba2 _ _ _)⟩
  · have k3 : (64 : Int) < (n : Int) := by omega
    go_enter Try.func57, Try.ntmps57
    go_wp2
    go_ret
    exact ⟨rfl, H.out.new (ba2 _ _ _), EffH.new (ba2 _ _ _)⟩

/-- the end is known: both stores, in either order, and the draw ahead of them or behind -/
theorem HM.fin {E : Env} {w0 w : World} {T : Nat → Prop} {B : Nat} {s : Hr} (h : HM E w T B s) (he : EffH T B w0 w) (o : Nat) (ho : o = E.o) (t : Int) :
    (HM E ((w.setCell ⟨B, o + 5, none⟩ (.bool true)).setCell ⟨B, o + 6, none⟩ (.int .i64 t)) T B { s with ended := true, stop := t } ∧ EffH T B w0 ((w.setCell ⟨B, o + 5, none⟩ (.bool true)).setCell ⟨B, o + 6, none⟩ (.int .i64 t))) ∧
    (HM E ((w.setCell ⟨B, o + 6, none⟩ (.int .i64 t)).setCell ⟨B, o + 5, none⟩ (.bool true)) T B { s with ended := true, stop := t } ∧ EffH T B w0 ((w.setCell ⟨B, o + 6, none⟩ (.int .i64 t)).setCell ⟨B, o + 5, none⟩ (.bool true))) := by
  subst ho
  have hn := h.notT
  have h1 := HM.set (s' := { s with ended := true }) h 5 (by omega) (.bool true) rfl rfl (fun _ _ _ _ => rfl)
  have h2 := HM.set (s' := { s with ended := true, stop := t }) h1 6 (by omega) (.int .i64 t) rfl rfl (fun _ _ _ _ => rfl)
  have h3 := HM.set (s' := { s with stop := t }) h 6 (by omega) (.int .i64 t) rfl rfl (fun _ _ _ _ => rfl)
  have h4 := HM.set (s' := { s with ended := true, stop := t }) h3 5 (by omega) (.bool true) rfl rfl (fun _ _ _ _ => rfl)
  exact ⟨⟨h2, (he.trans (EffH.set _ hn _ _)).trans (EffH.set _ hn _ _)⟩, h4, (he.trans (EffH.set _ hn _ _)).trans (EffH.set _ hn _ _)⟩
theorem HM.finD {E : Env} {w0 w : World} {T : Nat → Prop} {B : Nat} {s : Hr} (h : HM E w T B s) (he : EffH T B w0 w) : HM E w.drew T B s ∧ EffH T B w0 w.drew := ⟨h.new (Below.refl _ _).drew, he.trans (EffH.new (Below.refl _ _).drew)⟩
theorem rcells_flatH : ∀ l : List Rg, rcells l = rgS.flat l
  | [] => rfl
  | x :: t => by show _ = rgS.cells x ++ rgS.flat t; rw [← rcells_flatH t]; rfl
theorem ls_rsH {w : World} {A : Option Addr} {l : List Rg} : Ls rgS w A l ↔ Rs w A l := by unfold Ls Rs; rw [rcells_flatH]

def FtX (wd : World) (r1 r2 : Int) (p : Value) (wx : World) : Prop := ∃ q, p = .pointer (some ⟨q, 0, none⟩) ∧ wd.heap.size ≤ q ∧ Bx 44 wx q #[.int .i64 r1, .int .i64 r2] ∧ Below wd.heap.size wd wx

set_option maxRecDepth 100000 in
set_option maxHeartbeats 8000000 in
theorem arrive_main (E : Env) (o : Nat) (ho : o = E.o) (w : World) (T : Nat → Prop) (B : Nat) (s : Hr) (h : HM E w T B s) (hok : HrOk s) (hT : ∀ k, T k → k < w.heap.size) (a : Ar) (A : Option Addr) (n c : Nat) (hb : Ls byS w A a.data) (hn : a.data.length = n) (hA : ∀ ad, A = some ad → 0 < n → T ad.block)
    (hr1 : ¬ (a.at_ < 0 ∨ 1048576 - (n : Int) ≤ a.at_)) (hr2 : ¬ 64 < n) :
    Calls Try.prog 57 #[.pointer (some ⟨B, o, none⟩), .agg (arC a A n c)] w (RetAr E w T B (arrive s a)) := by
  obtain ⟨D, dc, Y, yc, ⟨c0, c1, c2, c3, c4, c5, c6⟩, hf, hD, hY, hk⟩ := h.cells
  have hB := h.lt
  have H := Lib.hid h
  have HO := Lib.hid ho
  have HOK := Lib.hid hok
  have HTT := Lib.hid hT
  have HBS := Lib.hid hb
  have HN := Lib.hid hn
  have HAT := Lib.hid hA
  have HY := Lib.hid hY
  have HA0 : Hid (arrive s a = if s.ended = true ∧ (s.stop < a.at_ + a.data.length ∨ a.fin = true ∧ a.at_ + a.data.length ≠ s.stop) then (10, s) else if a.fin = true ∧ (a.at_ + a.data.length < s.dn ∨ ∃ r ∈ s.bt, a.at_ + a.data.length < r.2) then (10, s)
      else if 16 < (addL s.dn s.bt (fits s a)).length then (9, s) else (0, putR s a (fits s a))) := Lib.hid (by
    unfold arrive; rw [if_neg (by rw [hn]; exact hr1), if_neg (by rw [hn]; exact hr2)])
  obtain ⟨F, hF⟩ : ∃ F : Nat, a.at_ = F := ⟨a.at_.toNat, by omega⟩
  obtain ⟨t, ht⟩ : ∃ t, t = F + n := ⟨_, rfl⟩
  obtain ⟨fin, hfin⟩ : ∃ q, q = a.fin := ⟨_, rfl⟩
  obtain ⟨dn, hdn⟩ : ∃ d, d = s.dn := ⟨_, rfl⟩
  obtain ⟨en, hen⟩ : ∃ d, d = s.ended := ⟨_, rfl⟩
  obtain ⟨st, hst⟩ : ∃ d, d = s.stop := ⟨_, rfl⟩
  obtain ⟨bl, hbl⟩ : ∃ d, d = s.bt.length := ⟨_, rfl⟩
  obtain ⟨lim, hlim⟩ : ∃ d, d = s.taken + s.room := ⟨_, rfl⟩
  obtain ⟨tk, htk⟩ : ∃ d, d = s.taken := ⟨_, rfl⟩
  obtain ⟨rm, hrm⟩ : ∃ d, d = s.room := ⟨_, rfl⟩
  have hbl16 : bl ≤ 16 := by rw [hbl]; exact (hmay_parts hok.may).2.2.1
  have hlimb : 0 ≤ lim ∧ lim ≤ 1052672 := by have := hok.t0; have := hok.r1; have := hok.r2; have := hok.t1; have := (hmay_parts hok.may).2.1; omega
  have hwl : IntKind.i64.wrap (tk + rm) = lim := by rw [IntKind.wrap_i64]; rw [htk, hrm, hlim]; have := hok.t0; have := hok.r1; have := hok.r2; have := hok.t1; have := (hmay_parts hok.may).2.1; omega
  obtain ⟨v7, hv7⟩ : ∃ v, v = decide (s.ended = true ∧ (s.stop < a.at_ + a.data.length ∨ a.fin = true ∧ a.at_ + a.data.length ≠ s.stop)) := ⟨_, rfl⟩
  obtain ⟨v9, hv9⟩ : ∃ v, v = (a.fin && (decide (a.at_ + a.data.length < s.dn) || s.bt.any (laterB (a.at_ + a.data.length)))) := ⟨_, rfl⟩
  have HV7o : Hid (v7 = true ↔ s.ended = true ∧ (s.stop < a.at_ + a.data.length ∨ a.fin = true ∧ a.at_ + a.data.length ≠ s.stop)) := Lib.hid (by rw [hv7]; simp only [decide_eq_true_eq])
  have HV9o : Hid (v9 = true ↔ a.fin = true ∧ (a.at_ + a.data.length < s.dn ∨ ∃ r ∈ s.bt, a.at_ + a.data.length < r.2)) := Lib.hid (by
    rw [hv9]; simp only [Bool.and_eq_true, Bool.or_eq_true, decide_eq_true_eq, List.any_eq_true, laterB])
  obtain ⟨r1, hrr1⟩ : ∃ r, r = (fits s a).1 := ⟨_, rfl⟩
  obtain ⟨r2, hrr2⟩ : ∃ r, r = (fits s a).2 := ⟨_, rfl⟩
  have HFT : Hid (fits s a = (r1, r2)) := Lib.hid (by rw [hrr1, hrr2])
  obtain ⟨f1, f2, f3, f4, f5, f6⟩ := fits_bd hok (a := a) (by rw [hn]; exact hr1)
  rw [← hrr1] at f1 f2 f6
  rw [← hrr2] at f2 f3 f4 f5 f6
  have htI : a.at_ + a.data.length = (t : Int) := by rw [hF, hn]; omega
  have hmn1 : r1 = min (F : Int) lim := by rw [hrr1, hlim, ← hF]; rfl
  have hmn2 : r2 = min (t : Int) lim := by rw [hrr2, hlim, ← htI]; rfl
  have HFB : Hid (0 ≤ r1 ∧ r1 ≤ r2 ∧ r2 ≤ 1048575 ∧ r2 - r1 ≤ n) := Lib.hid (by refine ⟨f1, f2, f3, ?_⟩; rw [hmn1, hmn2]; omega)
  have HMN : Hid (r1 = min (F : Int) lim ∧ r2 = min (t : Int) lim) := Lib.hid ⟨hmn1, hmn2⟩
  clear hrr1 hrr2 f1 f2 f3 f4 f5 f6 hmn1 hmn2
  rw [htI] at hv7 hv9
  rw [← hen, ← hst, ← hfin] at hv7
  rw [← hfin, ← hdn] at hv9
  have HV7 := Lib.hid hv7
  have HV9 := Lib.hid hv9
  have HTI := Lib.hid htI
  have HF := Lib.hid hF
  have HST := Lib.hid hst
  have HEN := Lib.hid hen
  have HDN := Lib.hid hdn
  have HFIN := Lib.hid hfin
  have HBL := Lib.hid hbl
  have HLIM := Lib.hid hlim
  have hwt : IntKind.i64.wrap ((F : Int) + (n : Int)) = (t : Int) := by rw [IntKind.wrap_i64]; omega
  have hw : IntKind.i64.wrap (1048576 - (n : Int)) = 1048576 - (n : Int) := by rw [IntKind.wrap_i64]; omega
  rw [← ho] at c0 c2 c3 c4 c5 c6
  rw [← hrm] at c0
  rw [← hdn] at c2
  rw [← hbl] at c3
  rw [← htk] at c4
  rw [← hen] at c5
  rw [← hst] at c6
  unfold arC
  rw [hF, ← hfin]
  have HC := Lib.hid (And.intro c0 (And.intro c2 (And.intro c3 (And.intro c4 (And.intro c5 c6)))))
  have n1 : ¬ (F : Int) < 0 := by omega
  have n2 : ¬ 1048576 - (n : Int) ≤ (F : Int) := by rw [hF] at hr1; omega
  have n3 : ¬ (64 : Int) < (n : Int) := by omega
  have ht64 : t < 1048576 := by rw [hF] at hr1; omega
  have hn64 : n ≤ 64 := by omega
  have ht1 : t ≤ F + n := by omega
  have ht2 : F + n ≤ t := by omega
  clear ht h ho hok hT hb hn hA hf hD hY hk c0 c1 c2 c3 c4 c5 c6 hF hfin hdn hen hst hbl hlim htk hrm hv7 hv9 htI hr1 hr2
  obtain ⟨kd, hkd⟩ : ∃ q, q = a.kind := ⟨_, rfl⟩
  obtain ⟨ct, hct⟩ : ∃ q, q = a.count := ⟨_, rfl⟩
  rw [← hkd, ← hct]
  clear hkd hct
  go_enter Try.func57, Try.ntmps57
  go_upto_region 7 with fail
  obtain ⟨q3, hq3⟩ : ∃ q, q = w.heap.size := ⟨_, rfl⟩
  obtain ⟨w2, hw2⟩ : ∃ w2, w2 = (w.alloc (.cells #[.int .i64 kd, .int .i64 F, .slice A n c, .bool fin, .int .i64 ct] 61)).alloc (.cells #[.int .i64 t] 3) := ⟨_, rfl⟩
  have HB2 : Hid (Below w.heap.size w w2) := Lib.hid (by rw [hw2]; exact ba2 _ _ _)
  have HX3 : Hid (Bx 61 w2 q3 #[.int .i64 kd, .int .i64 F, .slice A n c, .bool fin, .int .i64 ct]) := Lib.hid (by rw [hw2, hq3]; exact (bx_new _ _ _).below (ba1 _ _))
  have HX5 : Hid (Bx 3 w2 (q3 + 1) #[.int .i64 t]) := Lib.hid (by
    rw [hw2, hq3]
    have := bx_new (w.alloc (.cells #[.int .i64 kd, .int .i64 F, .slice A n c, .bool fin, .int .i64 ct] 61)) 3 #[.int .i64 t]
    rw [World.size_alloc] at this
    exact this)
  have hs2 : w2.heap.size = q3 + 2 := by rw [hw2, hq3]; simp
  rw [← hw2, ← hq3]
  have HQ3 := Lib.hid hq3
  have hBq : B < q3 := by omega
  clear hw2 hq3
  obtain ⟨q5, hq5⟩ : ∃ q, q3 + 1 = q := ⟨_, rfl⟩
  rw [hq5]
  rw [hq5] at HX5
  have HQ5 := Lib.hid hq5
  have HS2 := Lib.hid hs2
  have H2 : Hid (HM E w2 T B s) := Lib.hid (H.out.new HB2.out)
  have hq35 : ¬ q3 = q5 := by omega
  clear hq5 hs2
  have k5 := (HB2.out.cell (p := ⟨B, o + 5, none⟩) hB).trans HC.out.2.2.2.2.1
  have k6 := (HB2.out.cell (p := ⟨B, o + 6, none⟩) hB).trans HC.out.2.2.2.2.2
  have a3 := HX3.out.cell 3 (.bool fin) rfl
  have t0 := HX5.out.cell 0 (.int .i64 t) rfl
  have l3 := HX3.out.lt
  have l5 := HX5.out.lt
  have lB := H2.out.lt
  go_cut [37] (fun v wx => v = .bool v7 ∧ Below w2.heap.size w2 wx)
  case first =>
    have hcs : (en = false ∧ v7 = false) ∨ (en = true ∧ st < (t : Int) ∧ v7 = true) ∨ (en = true ∧ ¬ st < (t : Int) ∧ fin = false ∧ v7 = false) ∨ (en = true ∧ ¬ st < (t : Int) ∧ fin = true ∧ ¬ (t : Int) = st ∧ v7 = true) ∨ (en = true ∧ ¬ st < (t : Int) ∧ fin = true ∧ (t : Int) = st ∧ v7 = false) := by
      have hv := HV7.out
      cases en
      · exact .inl ⟨rfl, by simpa using hv⟩
      · by_cases g1 : st < (t : Int)
        · exact .inr (.inl ⟨rfl, g1, by simpa [g1] using hv⟩)
        · cases fin
          · exact .inr (.inr (.inl ⟨rfl, g1, rfl, by simpa [g1] using hv⟩))
          · by_cases g2 : (t : Int) = st
            · exact .inr (.inr (.inr (.inr ⟨rfl, g1, rfl, g2, by simpa [g1, g2] using hv⟩)))
            · exact .inr (.inr (.inr (.inl ⟨rfl, g1, rfl, g2, by simpa [g1, g2] using hv⟩)))
    rcases hcs with ⟨rfl, rfl⟩ | ⟨rfl, g1, rfl⟩ | ⟨rfl, g1, rfl, rfl⟩ | ⟨rfl, g1, rfl, g2, rfl⟩ | ⟨rfl, g1, rfl, g2, rfl⟩
    · go_quiet (fail)
      go_wp2
      go_meet
      exact ⟨rfl, below_drewN (Below.refl _ _) _⟩
    · have e1 : decide (st < (t : Int)) = true := by simp; omega
      go_quiet (fail)
      go_wp2
      go_meet
      exact ⟨rfl, below_drewN (Below.refl _ _) _⟩
    · have e1 : decide (st < (t : Int)) = false := by simp; omega
      go_quiet (fail)
      go_wp2
      go_meet
      exact ⟨rfl, below_drewN (Below.refl _ _) _⟩
    · have e1 : decide (st < (t : Int)) = false := by simp; omega
      have e2 : decide ((t : Int) = st) = false := by simp; omega
      have e3 : ((t : Int) == st) = false := by simp; omega
      have e4 : ((t : Int) != st) = true := by simp; omega
      go_quiet (fail)
      go_wp2
      go_meet
      exact ⟨rfl, below_drewN (Below.refl _ _) _⟩
    · have e1 : decide (st < (t : Int)) = false := by simp; omega
      have e2 : decide ((t : Int) = st) = true := by simp; omega
      have e3 : ((t : Int) == st) = true := by simp; omega
      have e4 : ((t : Int) != st) = false := by simp; omega
      clear g2
      go_quiet (fail)
      go_wp2
      go_meet
      exact ⟨rfl, below_drewN (Below.refl _ _) _⟩
  case rest =>
    obtain ⟨rfl, hbc⟩ := hcut
    obtain ⟨w3, hw3⟩ : ∃ w3, w3 = wc := ⟨_, rfl⟩
    subst hw3
    have HB3 := Lib.hid hbc
    have HX33 := Lib.hid (HX3.out.below hbc)
    have HX53 := Lib.hid (HX5.out.below hbc)
    have H3 : Hid (HM E w3 T B s) := Lib.hid (H2.out.new hbc)
    have HBw3 : Hid (Below w.heap.size w w3) := Lib.hid (bthen HB2.out hbc)
    clear hbc k5 k6 a3 t0 l3 l5 lB
    rcases hv7 : v7 with _ | _
    · have HN7 : Hid (¬ (s.ended = true ∧ (s.stop < a.at_ + a.data.length ∨ a.fin = true ∧ a.at_ + a.data.length ≠ s.stop))) := Lib.hid (fun g => by have := HV7o.out.2 g; rw [hv7] at this; cases this)
      subst hv7
      go_upto_region 9 with fail
      have a3 := HX33.out.cell 3 (.bool fin) rfl
      have t0 := HX53.out.cell 0 (.int .i64 t) rfl
      have l3 := HX33.out.lt
      have l5 := HX53.out.lt
      have lB := H3.out.lt
      have k2 := (HBw3.out.cell (p := ⟨B, o + 2, none⟩) hB).trans HC.out.2.1
      have k3 := (HBw3.out.cell (p := ⟨B, o + 3, none⟩) hB).trans HC.out.2.2.1
      have HLC : Hid (∀ wk, Below w3.heap.size w3 wk → ∀ v, v = s.bt.any (laterB (t : Int)) → Calls Try.prog 67 #[.slice Y bl yc, .func (.func 73) #[] #[.pointer (some ⟨q5, 0, none⟩)]] wk fun e w' => e = .returned (.bool v) ∧ Below wk.heap.size wk w') := Lib.hid (fun wk hk v hv =>
        later_contains Y bl yc s.bt q5 (t : Int) wk ⟨(hk.cell (p := ⟨q5, 0, none⟩) l5).trans t0, Nat.lt_of_lt_of_le l5 hk.size⟩ ((HY.out.below HBw3.out).below hk) HBL.out.symm (by omega) v hv)
      go_cut [62] (fun v wx => v = .bool v9 ∧ Below w3.heap.size w3 wx)
      case first =>
        have hcs : (fin = false ∧ v9 = false) ∨ (fin = true ∧ (t : Int) < dn ∧ v9 = true) ∨ (fin = true ∧ ¬ (t : Int) < dn ∧ v9 = s.bt.any (laterB (t : Int))) := by
          have hv := HV9.out
          cases fin
          · exact .inl ⟨rfl, by simpa using hv⟩
          · by_cases g1 : (t : Int) < dn
            · exact .inr (.inl ⟨rfl, g1, by simpa [g1] using hv⟩)
            · exact .inr (.inr ⟨rfl, g1, by simpa [g1] using hv⟩)
        rcases hcs with ⟨rfl, rfl⟩ | ⟨rfl, g1, rfl⟩ | ⟨rfl, g1, g2⟩
        · go_quiet (fail)
          go_wp2
          go_meet
          exact ⟨rfl, below_drewN (Below.refl _ _) _⟩
        · have e1 : decide ((t : Int) < dn) = true := by simp; omega
          go_quiet (fail)
          go_wp2
          go_meet
          exact ⟨rfl, below_drewN (Below.refl _ _) _⟩
        · have e1 : decide ((t : Int) < dn) = false := by simp; omega
          have HLC2 := Lib.hid (HLC.out _ (Below.refl _ _).drew v9 g2)
          have b0 := cell_drew1 a3
          have b1 := cell_drew1 t0
          have b2 := cell_drew1 k2
          have b3 := cell_drew1 k3
          clear g2
          go_region_held3 (fun w' => w'.cell? ⟨q3, 3, none⟩ = some (.bool true) ∧ w'.cell? ⟨q5, 0, none⟩ = some (.int .i64 t) ∧ w'.cell? ⟨B, o + 2, none⟩ = some (.int .i64 dn) ∧ w'.cell? ⟨B, o + 3, none⟩ = some (.slice Y bl yc)) (first | (with_reducible exact ⟨m0, m1, m2, m3⟩) | (with_reducible exact ⟨b0, b1, b2, b3⟩) | go_keep) (first
            | (go_at_call 67; (refine HLC2.out.mono ?_); rintro e w5 ⟨rfl, hb5⟩; have HB5 := Lib.hid hb5; have m0 := (hb5.cell (p := ⟨q3, 3, none⟩) l3).trans b0; have m1 := (hb5.cell (p := ⟨q5, 0, none⟩) l5).trans b1; have m2 := (hb5.cell (p := ⟨B, o + 2, none⟩) lB).trans b2; have m3 := (hb5.cell (p := ⟨B, o + 3, none⟩) lB).trans b3; clear hb5))
          all_goals
            go_wp2
          all_goals
            go_meet
          all_goals
            exact ⟨rfl, bthen (Below.refl _ _).drew HB5.out⟩
      case rest =>
        obtain ⟨rfl, hbc⟩ := hcut
        obtain ⟨w4, hw4⟩ : ∃ w4, w4 = wc := ⟨_, rfl⟩
        subst hw4
        have HX34 := Lib.hid (HX33.out.below hbc)
        have HX54 := Lib.hid (HX53.out.below hbc)
        have H4 : Hid (HM E w4 T B s) := Lib.hid (H3.out.new hbc)
        have HBw4 : Hid (Below w.heap.size w w4) := Lib.hid (bthen HBw3.out hbc)
        clear hbc k2 k3 a3 t0 l3 l5 lB
        rcases hv9 : v9 with _ | _
        · have HN9 : Hid (¬ (a.fin = true ∧ (a.at_ + a.data.length < s.dn ∨ ∃ r ∈ s.bt, a.at_ + a.data.length < r.2))) := Lib.hid (fun g => by have := HV9o.out.2 g; rw [hv9] at this; cases this)
          subst hv9
          go_upto_region 11 with fail
          have k0 := (HBw4.out.cell (p := ⟨B, o, none⟩) hB).trans HC.out.1
          have k4 := (HBw4.out.cell (p := ⟨B, o + 4, none⟩) hB).trans HC.out.2.2.2.1
          have lB := H4.out.lt
          go_quiet (fail)
          generalize hwd : World.drewN w4 _ = w5
          have HB5 : Hid (Below w4.heap.size w4 w5) := Lib.hid (by rw [← hwd]; exact below_drewN (Below.refl _ _) _)
          clear hwd k0 k4 lB
          have HX35 := Lib.hid (HX34.out.below HB5.out)
          have HX55 := Lib.hid (HX54.out.below HB5.out)
          have HBw5 : Hid (Below w.heap.size w w5) := Lib.hid (bthen HBw4.out HB5.out)
          go_upto_region 12 with fail
          have a1 := HX35.out.cell 1 (.int .i64 F) rfl
          have t0 := HX55.out.cell 0 (.int .i64 t) rfl
          have l3 := HX35.out.lt
          have l5 := HX55.out.lt
          go_cut [8] (fun p wx => FtX w5 r1 r2 p wx)
          case first =>
            have hcs : ((F : Int) ≤ lim ∧ (t : Int) ≤ lim ∧ r1 = F ∧ r2 = t) ∨ ((F : Int) ≤ lim ∧ lim < (t : Int) ∧ r1 = F ∧ r2 = lim) ∨ (lim < (F : Int) ∧ lim < (t : Int) ∧ r1 = lim ∧ r2 = lim) := by
              obtain ⟨g1, g2⟩ := HMN.out
              omega
            clear HFT HFB HMN
            rcases hcs with ⟨g1, g2, rfl, rfl⟩ | ⟨g1, g2, rfl, rfl⟩ | ⟨g1, g2, rfl, rfl⟩
            all_goals
              go_wp2
            all_goals
              go_meet
            all_goals
              first
              | exact ⟨w5.heap.size, rfl, Nat.le_refl _, bx_new _ _ _, ba1 _ _⟩
              | (exfalso; omega)
          case rest =>
            obtain ⟨q8, rfl, hq8, hbx, hb6⟩ := hcut
            obtain ⟨w6, hw6⟩ : ∃ w6, w6 = wc := ⟨_, rfl⟩
            subst hw6
            have HX86 := Lib.hid hbx
            have HX36 := Lib.hid (HX35.out.below hb6)
            have HX56 := Lib.hid (HX55.out.below hb6)
            have HBw6 : Hid (Below w.heap.size w w6) := Lib.hid (bthen HBw5.out hb6)
            have hq3a : q3 ≤ w.heap.size := by have := HQ3.out; omega
            have hq3b : w.heap.size ≤ q3 := by have := HQ3.out; omega
            have hq8w : w.heap.size ≤ q8 := by have := HBw5.out.size; omega
            clear hbx hb6 a1 t0 l3 l5
            obtain ⟨D7, hD7⟩ : ∃ d, d = addD dn s.bt (r1, r2) := ⟨_, rfl⟩
            obtain ⟨L7, hL7⟩ : ∃ l, l = addL dn s.bt (r1, r2) := ⟨_, rfl⟩
            obtain ⟨N7, hN7⟩ : ∃ x, L7.length = x := ⟨_, rfl⟩
            have hmay : mayB dn s.bt = true := by rw [HDN.out]; exact HOK.out.may
            have HADD : Hid (Calls Try.prog 68 #[.int .i64 dn, .slice Y bl yc, .agg #[.int .i64 r1, .int .i64 r2]] w6.drew fun e w' => (N7 ≤ 16 → RetA w6.drew D7 N7 L7 e w') ∧ (16 < N7 → e = .returned (.tuple #[.int .i64 0, .slice none 0 0, .int .i64 9]) ∧ Below w6.drew.heap.size w6.drew w')) := Lib.hid
              (add_ok dn Y bl yc s.bt (r1, r2) w6.drew (ls_rsH.1 ((HY.out.below HBw6.out).below (Below.refl _ _).drew)) HBL.out.symm hbl16 hmay (by have := HFB.out; exact ⟨this.1, this.2.1, by have := this.2.2.1; omega⟩) D7 N7 L7 hD7 hL7 hN7)
            have HD7 := Lib.hid (And.intro hD7 (And.intro hL7 hN7))
            clear hD7 hL7 hN7 hmay
            go_upto_region 13 with fail
            have k2 := (HBw6.out.cell (p := ⟨B, o + 2, none⟩) hB).trans HC.out.2.1
            have k3 := (HBw6.out.cell (p := ⟨B, o + 3, none⟩) hB).trans HC.out.2.2.1
            have j0 := HX86.out.cell 0 (.int .i64 r1) rfl
            have j1 := HX86.out.cell 1 (.int .i64 r2) rfl
            have l8 := HX86.out.lt
            have lB : B < w6.heap.size := Nat.lt_of_lt_of_le hB HBw6.out.size
            have b0 := cell_drew1 j0
            have b1 := cell_drew1 j1
            have b2 := cell_drew1 k2
            have b3 := cell_drew1 k3
            by_cases h16 : 16 < N7
            · have HAR : Hid (arrive s a = (9, s)) := Lib.hid (by
                rw [HA0.out, if_neg HN7.out, if_neg HN9.out, HFT.out, ← HDN.out, ← HD7.out.2.1, HD7.out.2.2, if_pos h16])
              have HADE := Lib.hid (HADD.out.mono fun e w' g => g.2 h16)
              go_region_held3 (fun w' => w'.cell? ⟨q8, 0, none⟩ = some (.int .i64 r1) ∧ w'.cell? ⟨q8, 1, none⟩ = some (.int .i64 r2) ∧ w'.cell? ⟨B, o + 2, none⟩ = some (.int .i64 dn) ∧ w'.cell? ⟨B, o + 3, none⟩ = some (.slice Y bl yc)) (first | (with_reducible exact ⟨m0, m1, m2, m3⟩) | (with_reducible exact ⟨b0, b1, b2, b3⟩) | go_keep) (first
                | (go_at_call 68; (refine HADE.out.mono ?_); rintro e w7 ⟨rfl, hb7⟩; have HB7 := Lib.hid hb7; have m0 := (hb7.cell (p := ⟨q8, 0, none⟩) l8).trans b0; have m1 := (hb7.cell (p := ⟨q8, 1, none⟩) l8).trans b1; have m2 := (hb7.cell (p := ⟨B, o + 2, none⟩) lB).trans b2; have m3 := (hb7.cell (p := ⟨B, o + 3, none⟩) lB).trans b3; clear hb7))
              all_goals
                go_wp2
              all_goals
                go_ret
              all_goals
                rw [HAR.out]
                have hbw7 : Below w.heap.size w w7 := bthen HBw6.out (bthen (Below.refl _ _).drew HB7.out)
                exact ⟨rfl, H.out.new hbw7, EffH.new hbw7⟩
            · have HAR : Hid (arrive s a = (0, putR s a (r1, r2))) := Lib.hid (by
                rw [HA0.out, if_neg HN7.out, if_neg HN9.out, HFT.out, ← HDN.out, ← HD7.out.2.1, HD7.out.2.2, if_neg h16])
              have HADO : Hid (Calls Try.prog 68 #[.int .i64 dn, .slice Y bl yc, .agg #[.int .i64 r1, .int .i64 r2]] w6.drew (RetA w6.drew D7 N7 L7)) := Lib.hid (HADD.out.mono fun e w' g => g.1 (by omega))
              go_region_held3 (fun w' => w'.cell? ⟨q8, 0, none⟩ = some (.int .i64 r1) ∧ w'.cell? ⟨q8, 1, none⟩ = some (.int .i64 r2) ∧ w'.cell? ⟨B, o + 2, none⟩ = some (.int .i64 dn) ∧ w'.cell? ⟨B, o + 3, none⟩ = some (.slice Y bl yc)) (first | (with_reducible exact ⟨m0, m1, m2, m3⟩) | (with_reducible exact ⟨b0, b1, b2, b3⟩) | go_keep) (first
                | (go_at_call 68; (refine HADO.out.mono ?_); unfold RetA; rintro e w7 ⟨Y7, yc7, rfl, ho7, hb7⟩; have HB7 := Lib.hid hb7; have HO7 := Lib.hid ho7; have m0 := (hb7.cell (p := ⟨q8, 0, none⟩) l8).trans b0; have m1 := (hb7.cell (p := ⟨q8, 1, none⟩) l8).trans b1; have m2 := (hb7.cell (p := ⟨B, o + 2, none⟩) lB).trans b2; have m3 := (hb7.cell (p := ⟨B, o + 3, none⟩) lB).trans b3; clear hb7 ho7))
              all_goals
                go_upto_region 16 with fail
              have hbw7 : Below w.heap.size w w7 := bthen HBw6.out (bthen (Below.refl _ _).drew HB7.out)
              have HBw7 := Lib.hid hbw7
              have hb67 : Below w6.heap.size w6 w7 := bthen (Below.refl _ _).drew HB7.out
              have HX87 := Lib.hid (HX86.out.below hb67)
              have HX37 := Lib.hid (HX36.out.below hb67)
              have HX57 := Lib.hid (HX56.out.below hb67)
              have hs7 := hb67.size
              have l37 := HX37.out.lt
              have l57 := HX57.out.lt
              have l87 := HX87.out.lt
              have lB7 : B < w7.heap.size := Nat.lt_of_lt_of_le hB hbw7.size
              have H7 : Hid (HM E w7 (TL T q3 w7.heap.size) B s) := Lib.hid (H.out.only (T' := TL T q3 w7.heap.size) (S := fun _ => False) (only_new hbw7) (fun _ h => h.elim) (fun k hk => by
                rcases hk with hk | hk
                · exact .inl hk
                · exact .inr (by omega)))
              have HT7 : Hid (∀ k, TL T q3 w7.heap.size k → k < w7.heap.size) := Lib.hid (fun k hk => by
                rcases hk with hk | hk
                · have := HTT.out k hk; have := hbw7.size; omega
                · exact hk.2)
              have HKP : Hid (Calls Try.prog 74 #[.pointer (some ⟨B, o, none⟩), .agg #[.int .i64 r1, .int .i64 r2], .slice A n c] w7 fun e w' => e = .returned (.tuple #[]) ∧ HM E w' (TL T q3 w7.heap.size) B (keptS s (r1, r2) a.data (r2 - r1).toNat) ∧ EffH (TL T q3 w7.heap.size) B w7 w') := Lib.hid
                (keep_any E o HO.out w7 (TL T q3 w7.heap.size) B s H7.out (by rw [← HBL.out]; exact hbl16) HT7.out r1 r2 A n c a.data (HBS.out.below hbw7) HN.out (fun ad had h0 => .inl (HAT.out ad had h0)) (by have := HFB.out; exact ⟨this.1, this.2.1, by have := this.2.2.1; omega⟩) HFB.out.2.2.2 (by omega) HOK.out.l3)
              have j0 := HX87.out.cell 0 (.int .i64 r1) rfl
              have j1 := HX87.out.cell 1 (.int .i64 r2) rfl
              have a2 := HX37.out.cell 2 (.slice A n c) rfl
              clear hbw7 hb67 k2 k3 b0 b1 b2 b3 m0 m1 m2 m3 l8 lB
              go_upto_region 17 with (go_at_call 74; (refine HKP.out.mono ?_); rintro e w8 ⟨rfl, hm8, he8⟩; have HM8 := Lib.hid hm8; have HE8 := Lib.hid he8; clear hm8 he8 j0 j1 a2)
              obtain ⟨D8, dc8, Y8, yc8, ⟨-, d1, d2, d3, -, -, -⟩, hf8, -, -, hk8⟩ := HM8.out.cells
              have k2 : w8.cell? ⟨B, o + 2, none⟩ = some (.int .i64 s.dn) := by rw [HO.out]; exact d2
              have k3 : w8.cell? ⟨B, o + 3, none⟩ = some (.slice Y8 s.bt.length yc8) := by rw [HO.out]; exact d3
              have f2 := hf8 (o + 2)
              have f3 := hf8 (o + 3)
              have lB8 := HM8.out.lt
              have HD1 := Lib.hid d1
              have HK8 := Lib.hid hk8
              clear d1 d2 d3 hf8 hk8
              go_upto_region 18 with fail
              obtain ⟨w9, hw9⟩ : ∃ w9, w9 = (w8.setCell ⟨B, o + 2, none⟩ (.int .i64 D7)).setCell ⟨B, o + 3, none⟩ (.slice Y7 N7 yc7) := ⟨_, rfl⟩
              obtain ⟨s9, hs9⟩ : ∃ s9, s9 = ({ s with data := kept s.dn s.bt r1 a.data (growTo s.data r2) (r2 - r1).toNat, dn := D7, bt := L7 } : Hr) := ⟨_, rfl⟩
              have HS9 := Lib.hid hs9
              have hown7 : ∀ ad, Y7 = some ad → w6.heap.size ≤ ad.block ∧ ad.block < w7.heap.size := fun ad had => by
                have := HO7.out.lt ad.block (by rw [had]; rfl); exact this
              have HM9 : Hid (HM E w9 T B s9) := Lib.hid (by
                have h1 := HM8.out.less (T' := T) (fun k hk => .inl hk)
                have h2 := HM.set (s' := { keptS s (r1, r2) a.data (r2 - r1).toNat with dn := D7 }) h1 2 (by omega) (.int .i64 D7) rfl rfl (fun _ _ _ _ => rfl)
                have h2' := HM.set (s' := { keptS s (r1, r2) a.data (r2 - r1).toNat with dn := D7 }) HM8.out 2 (by omega) (.int .i64 D7) rfl rfl (fun _ _ _ _ => rfl)
                have hz8 := HE8.out.size
                have hyc : Ls rgS w8 Y7 L7 := (ls_rsH.2 HO7.out.rs).only HE8.out (fun ad had g => g.2 (.inr (by have := hown7 ad had; have := HBw6.out.size; omega)))
                rw [hw9, HO.out, hs9]
                refine HM.setBeyond2 (s' := { s with data := kept s.dn s.bt r1 a.data (growTo s.data r2) (r2 - r1).toNat, dn := D7, bt := L7 }) h2 ⟨rfl, rfl, rfl, rfl, rfl, rfl⟩ Y7 N7 yc7 HD7.out.2.2 (hyc.only (only_set _ _ _ _) (fun ad had g => by have := hown7 ad had; have := HBw6.out.size; omega)) ?_
                intro D dc hc ad had g
                have h3 := hown7 ad had
                have h4 := HBw6.out.size
                rcases g with g | g | g | g
                · omega
                · have := HTT.out _ g; omega
                · rw [size_set] at g; omega
                · obtain ⟨D0, dc0, -, -, ⟨-, e1, -, -, -, -, -⟩, -, -, -, hk⟩ := h2'.cells
                  rw [hc] at e1
                  injection e1 with e1
                  injection e1 with q1 _ q3
                  subst q1; subst q3
                  exact (hk _ g).2.2 (.inr (by omega)))
              have HON9 : Hid (Only (fun k => k = B) w8 w9) := Lib.hid (by rw [hw9]; exact (only_set w8 B _ _).trans (only_set _ B _ _) (fun j hj => .inl hj))
              have HE9 : Hid (EffH T B w w9) := Lib.hid ((((EffH.new HBw7.out).trans (HE8.out.less (fun k hk => .inl hk)))).trans (EffH.of HON9.out (fun k hk => by subst hk; exact ⟨Nat.le_refl _, H.out.notT⟩)))
              have HX39 : Hid (Bx 61 w9 q3 #[.int .i64 kd, .int .i64 F, .slice A n c, .bool fin, .int .i64 ct]) := Lib.hid ((HX37.out.only HE8.out (fun g => g.2 (.inr ⟨Nat.le_refl _, l37⟩))).only HON9.out (by omega))
              have HX59 : Hid (Bx 3 w9 q5 #[.int .i64 t]) := Lib.hid ((HX57.out.only HE8.out (fun g => g.2 (.inr (by have := HQ5.out; omega)))).only HON9.out (by have := HQ5.out; omega))
              rw [← hw9]
              clear hw9 hs9 k2 k3 f2 f3 lB8 hown7
              have a3 := HX39.out.cell 3 (.bool fin) rfl
              have l39 := HX39.out.lt
              rcases hfc : fin with _ | _
              · have HFC : Hid (putR s a (r1, r2) = s9) := Lib.hid (by
                  rw [HS9.out, HD7.out.1, HD7.out.2.1, HDN.out]
                  unfold putR
                  rw [← HFIN.out, hfc]
                  simp)
                subst hfc
                go_wp2_with fail
                go_ret
                rw [HAR.out, HFC.out]
                exact ⟨rfl, HM9.out, HE9.out⟩
              · have HFC : Hid (putR s a (r1, r2) = { s9 with ended := true, stop := (t : Int) }) := Lib.hid (by
                  rw [HS9.out, HD7.out.1, HD7.out.2.1, HDN.out]
                  unfold putR
                  rw [← HFIN.out, hfc, HTI.out]
                  simp)
                subst hfc
                have t0 := HX59.out.cell 0 (.int .i64 t) rfl
                have l59 := HX59.out.lt
                obtain ⟨D9, dc9, Y9, yc9, ⟨-, -, -, -, -, d5, d6⟩, hf9, -, -, -⟩ := HM9.out.cells
                rw [← HO.out] at d5 d6
                have f5 := hf9 (o + 5)
                have f6 := hf9 (o + 6)
                have lB9 := HM9.out.lt
                have z1 : ¬ q5 = B := by have := HQ5.out; omega
                have z2 : ¬ B = q5 := by have := HQ5.out; omega
                clear hf9
                go_upto_region 19 with fail
                go_region
                all_goals
                  go_wp2
                all_goals
                  go_ret
                all_goals
                  rw [HAR.out, HFC.out]
                  first
                  | exact ⟨rfl, HM.finD (HM9.out.fin HE9.out o HO.out t).1.1 (HM9.out.fin HE9.out o HO.out t).1.2⟩
                  | exact ⟨rfl, HM.finD (HM9.out.fin HE9.out o HO.out t).2.1 (HM9.out.fin HE9.out o HO.out t).2.2⟩
                  | exact ⟨rfl, (HM.fin (HM9.out.finD HE9.out).1 (HM9.out.finD HE9.out).2 o HO.out t).1⟩
                  | exact ⟨rfl, (HM.fin (HM9.out.finD HE9.out).1 (HM9.out.finD HE9.out).2 o HO.out t).2⟩
        · have HAR : Hid (arrive s a = (10, s)) := Lib.hid (by
            rw [HA0.out, if_neg HN7.out, if_pos (HV9o.out.1 hv9)])
          subst hv9
          go_wp2_with fail
          go_ret
          rw [HAR.out]
          exact ⟨rfl, H4.out, EffH.new HBw4.out⟩
    · have HAR : Hid (arrive s a = (10, s)) := Lib.hid (by
        rw [HA0.out, if_pos (HV7o.out.1 hv7)])
      subst hv7
      go_wp2_with fail
      go_ret
      rw [HAR.out]
      exact ⟨rfl, H3.out, EffH.new HBw3.out⟩


theorem arrive_any (E : Env) (o : Nat) (ho : o = E.o) (w : World) (T : Nat → Prop) (B : Nat) (s : Hr) (h : HM E w T B s) (hok : HrOk s) (hT : ∀ k, T k → k < w.heap.size) (a : Ar) (A : Option Addr) (n c : Nat) (hb : Ls byS w A a.data) (hn : a.data.length = n) (hn47 : n ≤ 140737488355328) (hA : ∀ ad, A = some ad → 0 < n → T ad.block) :
    Calls Try.prog 57 #[.pointer (some ⟨B, o, none⟩), .agg (arC a A n c)] w (RetAr E w T B (arrive s a)) := by
  by_cases h1 : (a.at_ < 0 ∨ 1048576 - (n : Int) ≤ a.at_) ∨ 64 < n
  · exact arrive_no E o ho w T B s h a A n c hn hn47 h1
  · exact arrive_main E o ho w T B s h hok hT a A n c hb hn hA (fun g => h1 (.inl g)) (fun g => h1 (.inr g))

end Go.Proofs.Ytehckiihipnimaa
