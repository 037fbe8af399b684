/-
  The program's hearer: keep.
-/
import Derived.Test.YtehckiihipnimaaHrr2
import Derived.Test.YtehckiihipnimaaZeros
import Derived.BigRegion
import Derived.Deep.DeepCutAuto
namespace Go.Proofs.Ytehckiihipnimaa
open Go.RowKit
set_option linter.unusedVariables false
set_option linter.unusedSimpArgs false

/-- what a method may turn: nothing below B, nothing of T -/
def EffH (T : Nat → Prop) (B : Nat) (w w' : World) : Prop := Only (fun k => B ≤ k ∧ ¬ T k) w w'
theorem EffH.refl (T : Nat → Prop) (B : Nat) (w : World) : EffH T B w w := Only.refl _ _
theorem EffH.trans {T : Nat → Prop} {B : Nat} {w0 w w' : World} (h : EffH T B w0 w) (k : EffH T B w w') : EffH T B w0 w' := Only.trans h k (fun _ hj => .inl hj)
theorem EffH.of {T S : Nat → Prop} {B : Nat} {w w' : World} (h : Only S w w') (hS : ∀ k, S k → B ≤ k ∧ ¬ T k) : EffH T B w w' := h.mono hS
theorem EffH.set {T : Nat → Prop} {B : Nat} (w : World) (hT : ¬ T B) (j : Nat) (u : Value) : EffH T B w (w.setCell ⟨B, j, none⟩ u) := EffH.of (only_set w B j u) (fun k hk => by subst hk; exact ⟨Nat.le_refl _, hT⟩)
theorem EffH.new {T : Nat → Prop} {B : Nat} {w w' : World} (h : Below w.heap.size w w') : EffH T B w w' := only_new h
theorem EffH.less {T T' : Nat → Prop} {B : Nat} {w w' : World} (h : EffH T B w w') (hT : ∀ k, T' k → T k) : EffH T' B w w' := Only.mono h (fun k hk => ⟨hk.1, fun g => hk.2 (hT k g)⟩)
/-- T, and what was laid since -/
def TL (T : Nat → Prop) (lo hi k : Nat) : Prop := T k ∨ (lo ≤ k ∧ k < hi)

theorem kept_succ (d : Int) (l : List Rg) (at_ : Int) (bs base : List Int) (k : Nat) : kept d l at_ bs base (k + 1) = if cameB d l (at_ + k) = true then kept d l at_ bs base k else (kept d l at_ bs base k).set (at_ + k).toNat (bs.getD k 0) := rfl
/-- where bytes that come in lie -/
def keptS (s : Hr) (r : Rg) (bs : List Int) (k : Nat) : Hr := { s with data := kept s.dn s.bt r.1 bs (growTo s.data r.2) k }
def KpX (E : Env) (T : Nat → Prop) (B : Nat) (s : Hr) (r : Rg) (bs : List Int) (K : Nat) (w2 : World) (v : Value) (wr : World) : Prop :=
  ∃ k : Nat, k ≤ K ∧ v = .int .i64 (r.1 + k) ∧ HM E wr T B (keptS s r bs k) ∧ EffH T B w2 wr

set_option maxRecDepth 100000 in
set_option maxHeartbeats 1000000 in
theorem keep_any (E : Env) (o : Nat) (ho : o = E.o) (w : World) (T : Nat → Prop) (B : Nat) (s : Hr) (h : HM E w T B s) (hbl : s.bt.length ≤ 16) (hT : ∀ k, T k → k < w.heap.size) (r1 r2 : Int) (A : Option Addr) (n c : Nat) (bs : List Int) (hb : Ls byS w A bs) (hn : bs.length = n) (hA : ∀ a, A = some a → 0 < n → T a.block)
    (hr : 0 ≤ r1 ∧ r1 ≤ r2 ∧ r2 ≤ 1048576) (hfit : r2 - r1 ≤ n) (hn47 : n ≤ 140737488355328) (hdl : s.data.length ≤ 1048576) :
    Calls Try.prog 74 #[.pointer (some ⟨B, o, none⟩), .agg #[.int .i64 r1, .int .i64 r2], .slice A n c] w fun e w' => e = .returned (.tuple #[]) ∧ HM E w' T B (keptS s (r1, r2) bs (r2 - r1).toNat) ∧ EffH T B w w' := by
  have HB := Lib.hid hb
  have HN := Lib.hid hn
  have HAT := Lib.hid hA
  have HTT := Lib.hid hT
  have hB := h.lt
  have HBL := Lib.hid hbl
  have H := Lib.hid h
  have HO := Lib.hid ho
  obtain ⟨dl, hdl2⟩ : ∃ x, x = s.data.length := ⟨_, rfl⟩
  have HDL := Lib.hid hdl2
  rw [← hdl2] at hdl
  clear hb hn hA hT h ho hdl2
  obtain ⟨R, hR⟩ : ∃ R : Nat, r1 = R := ⟨r1.toNat, by omega⟩
  subst hR
  obtain ⟨K, hK⟩ : ∃ K, K = (r2 - (R : Int)).toNat := ⟨_, rfl⟩
  have hK2 : r2 ≤ (R : Int) + (K : Int) := by omega
  have hK3 : (R : Int) + (K : Int) ≤ r2 := by omega
  rw [← hK]
  clear hK
  go_enter Try.func74, Try.ntmps74
  go_upto_region 1 with fail
  obtain ⟨q4, hq4⟩ : ∃ q, q = w.heap.size := ⟨_, rfl⟩
  obtain ⟨w2, hw2⟩ : ∃ w2, w2 = w.alloc (.cells #[.int .i64 (R : Int), .int .i64 r2] 44) := ⟨_, rfl⟩
  have HB2 : Hid (Below w.heap.size w w2) := Lib.hid (by rw [hw2]; exact ba1 _ _)
  have HX4 : Hid (Bx 44 w2 q4 #[.int .i64 (R : Int), .int .i64 r2]) := Lib.hid (by rw [hw2, hq4]; exact bx_new _ _ _)
  have HS2 : Hid (w2.heap.size = q4 + 1) := Lib.hid (by rw [hw2, hq4]; simp)
  rw [← hw2, ← hq4]
  have HQ4 := Lib.hid hq4
  have hBq : ¬ B = q4 := by omega
  have hqB : ¬ q4 = B := by omega
  clear hw2 hq4
  have H2 : Hid (HM E w2 (TL T q4 (q4 + 1)) B s) := Lib.hid (H.out.only (S := fun _ => False) (only_new HB2.out) (fun _ h => h.elim) (fun k hk => by
    rcases hk with hk | hk
    · exact .inl hk
    · exact .inr (by have := HQ4.out; omega)))
  have HT2 : Hid (∀ k, TL T q4 (q4 + 1) k → k < w2.heap.size) := Lib.hid (fun k hk => by
    have h1 := HS2.out; have h2 := HQ4.out
    rcases hk with hk | hk
    · have := HTT.out k hk; omega
    · omega)
  have HTq : Hid (TL T q4 (q4 + 1) q4) := Lib.hid (.inr ⟨Nat.le_refl _, by omega⟩)
  obtain ⟨D, dc, Y, yc, ⟨-, c1, -, -, -, -, -⟩, hf, hD, -, hk⟩ := H2.out.cells
  rw [← HO.out, ← HDL.out] at c1
  have HC1 := Lib.hid c1
  have HD := Lib.hid hD
  have HK := Lib.hid hk
  have f1 := hf (o + 1)
  have a0 := HX4.out.cell 0 (.int .i64 (R : Int)) rfl
  have a1 := HX4.out.cell 1 (.int .i64 r2) rfl
  have l4 := HX4.out.lt
  have lB := H2.out.lt
  have e1 : IntKind.i64.wrap (r2 - (dl : Int)) = r2 - (dl : Int) := by rw [IntKind.wrap_i64]; omega
  clear hf hD hk
  go_quiet (fail)
  generalize hwd : World.drewN w2 _ = wd
  have HBd : Hid (Below w2.heap.size w2 wd) := Lib.hid (by rw [← hwd]; exact below_drewN (Below.refl _ _) _)
  clear hwd a0 a1 l4 lB c1 f1
  go_upto_if 17 with fail
  go_cut [6] (fun v wc => HM E wc (TL T q4 (q4 + 1)) B (keptS s ((R : Int), r2) bs 0) ∧ EffH (TL T q4 (q4 + 1)) B w2 wc)
  case first =>
    obtain ⟨m, hm⟩ : ∃ m, m = (r2 - (s.data.length : Int)).toNat := ⟨_, rfl⟩
    have Hd := H2.out.new HBd.out
    have HDd := Lib.hid (HD.out.below HBd.out)
    have c1d := (HBd.out.cell (p := ⟨B, o + 1, none⟩) H2.out.lt).trans HC1.out
    have hfl : Hid (D = none ∨ True) := Lib.hid (.inr trivial)
    have lBd := Hd.lt
    have lBq : B < wd.heap.size := lBd
    have hsd := HBd.out.size
    by_cases g : (dl : Int) < r2
    · have hm0 : 0 < m := by rw [hm, ← HDL.out]; omega
      have hmI : r2 - (dl : Int) = (m : Int) := by rw [hm, ← HDL.out]; omega
      have hm2 : dl + m ≤ 1048576 := by omega
      have g2 : (0 : Int) < (m : Int) := by omega
      have HM0 := Lib.hid hm
      have HD0 : Hid (OwnL byS 5 wd (B + 1) D dl dc s.data) := Lib.hid (by rw [HDL.out]; exact HDd.out)
      have HHd := Lib.hid Hd
      have f1d : wd.frozen? ⟨B, o + 1, none⟩ = false := by
        obtain ⟨D9, dc9, Y9, yc9, -, hf, -, -, -⟩ := Hd.cells
        exact hf _
      have HNT : Hid (∀ k, (Value.slice D dl dc).ownBlock = some k → B ≠ k) := Lib.hid (fun k hk => by
        have := HK.out k (by rw [← HDL.out]; exact hk); omega)
      rw [hmI]
      clear hm Hd
      go_wp2_with (at_builtin; refine wpList_appZ rfl wd (.tmp 22) (.tmp 23) rfl (B + 1) D dl dc s.data rfl HD0.out (m : Int) m rfl rfl (by omega) (dl + m) rfl (by omega) (by omega) ?_; intro A' c' w5 ho5 hb5 hs5; have HO5 := Lib.hid ho5; have HB5 := Lib.hid hb5; have HS5 := Lib.hid hs5; have f5 := (hs5.frozen ⟨B, o + 1, none⟩ lBd HNT.out).trans f1d; have c5 := (hs5.cell ⟨B, o + 1, none⟩ lBd HNT.out).trans c1d; have l5 : B < w5.heap.size := Nat.lt_of_lt_of_le lBd hb5.size; clear ho5 hb5 hs5)
      go_meet
      have hlen : (keptS s ((R : Int), r2) bs 0).data.length = dl + m := by
        show (growTo s.data r2).length = dl + m
        unfold growTo
        rw [List.length_append, List.length_replicate, ← HM0.out, ← HDL.out]
      obtain ⟨q1, q2⟩ := HM.setData (s' := keptS s ((R : Int), r2) bs 0) HHd.out ⟨rfl, rfl, rfl, rfl, rfl, rfl⟩ D dc (by rw [← HO.out, ← HDL.out]; exact c1d) A' c' (by have := HS5.out.only HB5.out; rw [HDL.out] at this; exact this)
        (by rw [hlen]; show OwnL byS 5 w5 (B + 1) A' (dl + m) c' (growTo s.data r2); unfold growTo; rw [← HM0.out]; exact HO5.out)
        (fun k hk => by rw [hlen] at hk; have := HS5.out.own k hk; rw [HDL.out] at this; exact this) (fun k hk => by have := HT2.out k hk; omega)
      rw [hlen, ← HO.out] at q1 q2
      refine ⟨by first | exact q1 | simpa using q1, ?_⟩
      have q3 : EffH (TL T q4 (q4 + 1)) B w2 (w5.setCell ⟨B, o + 1, none⟩ (.slice A' (dl + m) c')) := (EffH.new HBd.out).trans (EffH.of q2 (fun k hk => by
        rcases hk with hk | hk
        · subst hk; exact ⟨Nat.le_refl _, HHd.out.notT⟩
        · have := HK.out k hk; exact ⟨by omega, this.2.2⟩))
      first | exact q3 | simpa using q3
    · have hs0 : keptS s ((R : Int), r2) bs 0 = s := by
        show { s with data := growTo s.data r2 } = s
        unfold growTo
        rw [show (r2 - (s.data.length : Int)).toNat = 0 by rw [← HDL.out]; omega]
        simp
      have g2 : ¬ (0 : Int) < r2 - (dl : Int) := by omega
      have HHd := Lib.hid Hd
      have HS0 := Lib.hid hs0
      clear hm Hd hs0
      go_wp2_with fail
      go_meet
      exact ⟨by rw [HS0.out]; exact HHd.out, EffH.new HBd.out⟩
  case rest =>
    obtain ⟨hmc, hec⟩ := hcut
    have HXc : Hid (Bx 44 wc q4 #[.int .i64 (R : Int), .int .i64 r2]) := Lib.hid (HX4.out.only hec (fun g => g.2 HTq.out))
    have HMC := Lib.hid hmc
    have HEC := Lib.hid hec
    have a0 := HXc.out.cell 0 (.int .i64 (R : Int)) rfl
    have l4 := HXc.out.lt
    clear hmc hec
    go_upto_region 5 with fail
    clear a0 l4
    go_loopw [7] (fun v wr => KpX E (TL T q4 (q4 + 1)) B s ((R : Int), r2) bs K w2 v wr) (fun v _ => (r2 - intOf v).toNat)
    case atStart => exact ⟨0, Nat.zero_le _, by simp, HMC.out, HEC.out⟩
    case round =>
      obtain ⟨k, hk, rfl, hmr, her⟩ := hrel
      have HMR := Lib.hid hmr
      have HER := Lib.hid her
      have HXr : Hid (Bx 44 wr q4 #[.int .i64 R, .int .i64 r2]) := Lib.hid (HX4.out.only her (fun g => g.2 HTq.out))
      clear hmr her
      obtain ⟨p, hp⟩ : ∃ p, p = R + k := ⟨_, rfl⟩
      rw [show (R : Int) + (k : Int) = (p : Int) by omega]
      have HP := Lib.hid hp
      have a1 := HXr.out.cell 1 (.int .i64 r2) rfl
      have l4 := HXr.out.lt
      by_cases hlt : k < K
      · have hpr : (p : Int) < r2 := by omega
        have hw1 : IntKind.i64.wrap ((p : Int) + 1) = ((p + 1 : Nat) : Int) := by rw [IntKind.wrap_i64]; omega
        rcases hv : cameB s.dn s.bt (p : Int) with _ | _
        · have HV := Lib.hid hv
          clear hv hp
          go_upto_region 8 with (go_at_call 89; (refine (came_any E o HO.out wr (TL T q4 (q4 + 1)) B (keptS s ((R : Int), r2) bs k) HMR.out HBL.out (p : Int) false HV.out.symm).mono ?_); rintro e w5 ⟨rfl, hb5⟩; have HB5 := Lib.hid hb5; clear hb5 a1 l4)
          have HM5 := HMR.out.new HB5.out
          obtain ⟨D5, dc5, Y5, yc5, ⟨-, c1, -, -, -, -, -⟩, hf5, hD5, -, hk5⟩ := HM5.cells
          have hLr : r2 ≤ ((keptS s ((R : Int), r2) bs k).data.length : Int) := by
            show r2 ≤ ((kept s.dn s.bt (R : Int) bs (growTo s.data r2) k).length : Int)
            rw [kept_len, growTo_len _ _ (by omega)]; omega
          have hLm : ((keptS s ((R : Int), r2) bs k).data.length : Int) ≤ 1048576 := by
            show ((kept s.dn s.bt (R : Int) bs (growTo s.data r2) k).length : Int) ≤ 1048576
            rw [kept_len, growTo_len _ _ (by omega), ← HDL.out]; omega
          have HC5 := Lib.hid c1
          obtain ⟨L, hL⟩ : ∃ L, L = (keptS s ((R : Int), r2) bs k).data.length := ⟨_, rfl⟩
          rw [← HO.out, ← hL] at c1
          rw [← hL] at hLr hLm hD5
          rcases hD5.addr with ⟨_, h0, _⟩ | ⟨g, rfl, hg⟩
          · exfalso; omega
          · have HX5 := HXr.out.below HB5.out
            have a0 := HX5.cell 0 (.int .i64 R) rfl
            have l4 := HX5.lt
            have hkn : k < n := by omega
            obtain ⟨x, hx⟩ : ∃ x, bs[k]? = some x := ⟨_, List.getElem?_eq_getElem (by rw [HN.out]; exact hkn)⟩
            have hls : Ls byS w5 A bs := ((((HB.out.below HB2.out).only HER.out (fun a ha g => g.2 (.inl (HAT.out a ha (by omega))))).below HB5.out))
            obtain ⟨bA, oA, rfl, hbA, hcA⟩ := hls.one k x hx rfl (.int .u8 x) rfl
            have fg := hD5.softB p
            have cg := hD5.cellB p (by omega)
            have lB5 := HM5.lt
            have v1 : (0 : Int) ≤ (p : Int) := by omega
            have v2 : (p : Int) < (L : Int) := by omega
            have v3 : IntKind.i64.wrap ((p : Int) - (R : Int)) = (k : Int) := by rw [IntKind.wrap_i64]; have := HP.out; omega
            have v4 : (0 : Int) ≤ (k : Int) := by omega
            have v5 : (k : Int) < (n : Int) := by omega
            have v6 : ((p : Int)).toNat = p := by omega
            have v7 : ((k : Int)).toNat = k := by omega
            have hg5 := hk5 g rfl
            have z1 : ¬ g = B := by omega
            have z2 : ¬ B = g := by omega
            have z3 : ¬ g = q4 := fun e => hg5.2.2 (e ▸ HTq.out)
            have z4 : ¬ q4 = g := fun e => hg5.2.2 (e ▸ HTq.out)
            have z5 : ¬ g = bA := fun e => hg5.2.2 (.inl (e ▸ HAT.out _ rfl (by omega)))
            have z6 : ¬ bA = g := fun e => hg5.2.2 (.inl (e ▸ HAT.out _ rfl (by omega)))
            have HM5' := Lib.hid HM5
            have HL := Lib.hid hL
            have HXX := Lib.hid hx
            clear HM5 hf5 hD5 hk5 HX5 hls hL hx hLm hg5 hLr
            go_region
            all_goals
              go_wp2
            all_goals
              refine ⟨⟨k + 1, by omega, congrArg (Value.int .i64) (by have := HP.out; omega), ?_, ?_⟩, by simp [intOf]; omega⟩
            · refine (HM.putByte (s' := keptS s ((R : Int), r2) bs (k + 1)) HM5'.out ⟨rfl, rfl, rfl, rfl, rfl, rfl⟩ g dc5 HC5.out p x ?_).new (Below.refl _ _).drew
              show kept s.dn s.bt (R : Int) bs (growTo s.data r2) (k + 1) = (kept s.dn s.bt (R : Int) bs (growTo s.data r2) k).set p x
              rw [kept_succ, show (R : Int) + (k : Int) = (p : Int) by have := HP.out; omega, HV.out]
              simp only [Bool.false_eq_true, if_false]
              rw [v6, List.getD_eq_getElem?_getD, HXX.out]; rfl
            · have hgT := HM5'.out.cells
              obtain ⟨D6, dc6, Y6, yc6, ⟨-, c6, -, -, -, -, -⟩, -, -, -, hk6⟩ := hgT
              rw [HC5.out] at c6
              injection c6 with c6
              injection c6 with c6a _ c6c
              subst c6a; subst c6c
              have hg6 := hk6 g rfl
              exact (HER.out.trans (EffH.new HB5.out)).trans ((EffH.of (only_set _ g p _) (fun j hj => by subst hj; exact ⟨by omega, hg6.2.2⟩)).trans (EffH.new (Below.refl _ _).drew))
        · have HV := Lib.hid hv
          clear hv hp
          go_wp2_with (go_at_call 89; (refine (came_any E o HO.out wr (TL T q4 (q4 + 1)) B (keptS s ((R : Int), r2) bs k) HMR.out HBL.out (p : Int) true HV.out.symm).mono ?_); rintro e w5 ⟨rfl, hb5⟩; have HB5 := Lib.hid hb5; clear hb5 a1 l4)
          refine ⟨⟨k + 1, by omega, congrArg (Value.int .i64) (by have := HP.out; omega), ?_, ?_⟩, by simp [intOf]; omega⟩
          · have e : keptS s ((R : Int), r2) bs (k + 1) = keptS s ((R : Int), r2) bs k := by
              show { s with data := kept s.dn s.bt (R : Int) bs (growTo s.data r2) (k + 1) } = _
              rw [kept_succ, show (R : Int) + (k : Int) = (p : Int) by have := HP.out; omega, HV.out]
              rfl
            rw [e]
            exact HMR.out.new HB5.out
          · exact HER.out.trans (EffH.new HB5.out)
      · obtain rfl : k = K := by omega
        have hpr : ¬ (p : Int) < r2 := by omega
        go_wp2_with fail
        go_end0
        refine ⟨rfl, HMR.out.less (fun k hk => .inl hk), ?_⟩
        exact (EffH.new HB2.out).trans (HER.out.less (fun k hk => .inl hk))

end Go.Proofs.Ytehckiihipnimaa
