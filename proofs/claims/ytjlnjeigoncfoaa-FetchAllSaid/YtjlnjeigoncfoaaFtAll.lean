/-
  packthreadkeep.fetched.
-/
import Derived.Test.YtjlnjeigoncfoaaFtPlay
import Derived.Test.YtjlnjeigoncfoaaFtAllMath
import Derived.Test.YtjlnjeigoncfoaaFtStill
import Derived.Test.YtjlnjeigoncfoaaInArg
namespace Go.Proofs.Ytjlnjeigoncfoaa
open Go.RowKit
set_option linter.unusedVariables false
set_option linter.unusedSimpArgs false

/-- the file that was fetched -/
def RetFd (F : List Int) (w : World) (e : Ending) (w' : World) : Prop := ∃ A n c, e = .returned (.tuple #[.slice A n c, .bool true]) ∧ Ls byS w' A F ∧ F.length = n ∧ Below w.heap.size w w'
/-- how far the rounds have come -/
def FdI (F : List Int) (w : World) (gots out i : Value) (wr : World) : Prop :=
  ∃ (k no : Nat) (Ab : Option Addr) (cb : Nat) (lb : List Gv) (Ao : Option Addr) (co : Nat), i = .int .i64 k ∧ gots = .slice Ab k cb ∧ out = .slice Ao no co ∧
    OwnL gtS 42 wr w.heap.size Ab k cb lb ∧ OwnL wtS 33 wr w.heap.size Ao no co (stG (lb.map Gv.g)).out ∧ Apart (.slice Ab k cb) (.slice Ao no co) ∧
    GEI wr (fun j => (Value.slice Ab k cb).ownBlock = some j) lb ∧ InvF F (stG (lb.map Gv.g)) ∧ pot F (stG (lb.map Gv.g)) + k ≤ 168 ∧ came (stG (lb.map Gv.g)) = false ∧ mayOn (stG (lb.map Gv.g)) = false ∧ Below w.heap.size w wr

/-- how far the wants that were told are appended -/
def FdJ (L W : List Wt) (m no1 : Nat) (w5 w8 w11 : World) (o j : Value) (wx : World) : Prop :=
  ∃ (t : Nat) (A : Option Addr) (c : Nat), t ≤ m ∧ j = .int .i64 t ∧ o = .slice A (no1 + t) c ∧ OwnL wtS 33 wx w5.heap.size A (no1 + t) c (L ++ W.take t) ∧
    (∀ k, (Value.slice A (no1 + t) c).ownBlock = some k → k < w8.heap.size ∨ w11.heap.size ≤ k) ∧ Only (fun k => w5.heap.size ≤ k ∧ k < w8.heap.size) w11 wx
theorem dj_false {a b c d : Int} (h : Dj (a, b) (c, d)) (h2 : a < c + d) : ¬ c < a + b := by
  rcases h with h | h
  · simp only at h; omega
  · simp only at h; omega
theorem wt_at {w : World} {S : Option Addr} {l : List Wt} (h : Ls wtS w S l) (k : Nat) (a b : Int) (hk : l[k]? = some (a, b)) : ∃ g o, S = some ⟨g, o, none⟩ ∧ g < w.heap.size ∧ w.cell? ⟨g, o + k * 2, none⟩ = some (.int .i64 a) ∧ w.cell? ⟨g, o + k * 2 + 1, none⟩ = some (.int .i64 b) := by
  obtain ⟨g, o, e, hl, hc⟩ := h.at k _ hk
  have h0 := hc 0 _ rfl
  have h1 := hc 1 _ rfl
  simp only [wtS, Nat.add_zero] at h0 h1
  exact ⟨g, o, e, hl, h0, h1⟩
/-- the bytes that are answered to a want -/
def FdD (F : List Int) (an wbn : Nat) (w3 : World) (d : Value) (wc : World) : Prop :=
  ∃ (D : Option Addr) (dl dc : Nat) (g : List Int), d = .slice D dl dc ∧ Ls byS wc D g ∧ g.length = dl ∧ dl ≤ 100 ∧ Ans F ((an : Int), (wbn : Int)) ⟨an, wbn, g⟩ ∧ (∀ a, D = some a → w3.heap.size ≤ a.block ∧ a.block < wc.heap.size) ∧ Below w3.heap.size w3 wc

set_option maxRecDepth 100000 in
set_option maxHeartbeats 32000000 in
theorem fetched_any (Fa : Option Addr) (N cF : Nat) (F : List Int) (A : Option Addr) (n c : Nat) (l : List Int) (w : World) (hF : OwnL byS 5 w 0 Fa N cF F) (hN : N < 900)
    (hb : Ls inS w A l) (hn : l.length = n) (hc : n ≤ c) (hr : c ≤ 17592186043904) (hi : ∀ z ∈ l, i64in z) :
    Calls Try.prog 11 #[.slice Fa N cF, .slice A n c] w (RetFd F w) := by
  have HF := Lib.hid hF
  have HL := Lib.hid hb
  have HLN := Lib.hid hn
  have HI := Lib.hid hi
  have HFL : Hid (F.length = N) := Lib.hid hF.1
  have hNc := hF.cap
  have HAD := Lib.hid hF.addr
  have HP0 := Lib.hid (fplay_ok none 0 0 [] w (by omega) (Ls.nil _ _) rfl (fun x hx => by cases hx))
  obtain ⟨r0, hr0⟩ : ∃ r, r = nextT 0 fs0 := ⟨_, rfl⟩
  have HR0 := Lib.hid hr0
  have HT0 : Hid (fetchT ([].map Gv.g) = [r0.1]) := Lib.hid (by rw [hr0]; rfl)
  rw [HT0.out] at HP0
  have HST0 : Hid (stG [] = r0.2) := Lib.hid (by rw [hr0]; rfl)
  have HI0 : Hid (InvF F r0.2) := Lib.hid (by rw [hr0]; exact (invF0 F).on)
  have HM0 : Hid (mayOn r0.2 = false) := Lib.hid (by rw [hr0]; exact askOn_stop fs0)
  have HPT0 : Hid (pot F r0.2 ≤ 168) := Lib.hid (by rw [hr0]; exact pot0 F)
  have HC0 : Hid (came r0.2 = false) := Lib.hid (by
    have : r0.2.ended = false := by rw [hr0]; rfl
    unfold came; rw [this]; rfl)
  have HW0 : Hid (r0.1.wants = r0.2.out) := Lib.hid (by rw [hr0]; show (askOn fs0).out.drop 0 = _; rw [List.drop_zero]; rfl)
  have hF1 := HFL.out
  clear hF hb hn hi hr0 hF1
  go_enter Try.func11, Try.ntmps11
  go_upto_region 3 with (go_at_call 6; (with_reducible refine HP0.out.mono ?_); rintro e w1 ⟨Ax, cx, lx, rfl, hox, hmx, hex, hbx⟩; have HOX := Lib.hid hox; have HMX := Lib.hid hmx; have HEX := Lib.hid hex; have HBX := Lib.hid hbx; clear hox hmx hex hbx)
  simp only [List.length_cons, List.length_nil, Nat.zero_add] at HOX ⊢
  have hcx := HOX.out.cap
  obtain ⟨gX, hgX⟩ : ∃ gX, Ax = some ⟨gX, 0, none⟩ := by
    rcases HOX.out.addr with ⟨-, h0, -⟩ | ⟨gX, h, -⟩
    · omega
    · exact ⟨gX, h⟩
  subst hgX
  obtain ⟨x0, hx0⟩ : ∃ x, lx[0]? = some x := ⟨_, List.getElem?_eq_getElem (by rw [HOX.out.1]; omega)⟩
  obtain ⟨k0, k1, k2, k3⟩ := ne_cells HOX.out 0 x0 hx0
  simp only [Nat.zero_mul, Nat.zero_add] at k0 k1 k2 k3
  have hxx : x0.x = r0.1 := by
    have h1 : (lx.map Nv.x)[0]? = some x0.x := by rw [List.getElem?_map, hx0]; rfl
    rw [HMX.out] at h1
    simpa using h1.symm
  obtain ⟨-, q3, q4, -⟩ := HEX.out x0 (List.mem_of_getElem? hx0)
  rw [hxx, HW0.out] at q3 q4
  have HQ4 := Lib.hid q4
  have HQ3 := Lib.hid q3
  have hm6 : x0.m ≤ 6 := by rw [← q3]; exact HI0.out.ok.few
  clear hx0 hxx q3 q4
  go_upto_region 6 with (at_builtin; refine wpList_appL (F := wtS) rfl _ (.const (.slice none 0 0)) (.tmp 33) 27 rfl _ 16 Try.underlying27 wtInfo rfl w1.heap.size none 0 0 [] rfl (OwnL.nil _ _) x0.S x0.m x0.e r0.2.out rfl HQ4.out HQ3.out x0.m (by omega) (by omega) (by omega) (by omega) ?_; intro A2 c2 w2 ho2 hb2 _; have O2 := Lib.hid ho2; have B2 := Lib.hid hb2; clear ho2 hb2)
  clear k0 k1 k2 k3
  go_wp2
  have HB02 : Hid (Below w.heap.size w w2) := Lib.hid (bthen HBX.out B2.out)
  go_loopw [6, 9, 10] (fun g o i wr => FdI F w g o i wr) (fun _ _ i _ => 281 - (intOf i).toNat)
  case atStart =>
    refine ⟨0, x0.m, none, 0, [], A2, c2, rfl, rfl, rfl, OwnL.nil _ _, ?_, Apart.nil _ _ _, (fun x hx => by cases hx), ?_, ?_, ?_, ?_, HB02.out⟩
    · show OwnL wtS _ w2 w.heap.size A2 x0.m c2 (stG []).out
      rw [HST0.out]
      have := O2.out
      simp only [List.nil_append] at this
      exact this.base HBX.out.size
    · show InvF F (stG [])
      rw [HST0.out]; exact HI0.out
    · show pot F (stG []) + 0 ≤ 168
      rw [HST0.out]; exact HPT0.out
    · show came (stG []) = false
      rw [HST0.out]; exact HC0.out
    · show mayOn (stG []) = false
      rw [HST0.out]; exact HM0.out
  case round =>
    obtain ⟨k, no, Ab, cb, lb, Ao, co, rfl, rfl, rfl, hog, hoo, hap, hge, hinv, hpot, hcm, hmo, hbw⟩ := hrel
    obtain ⟨s, hs⟩ : ∃ s, s = stG (lb.map Gv.g) := ⟨_, rfl⟩
    rw [← hs] at hoo hinv hpot hcm hmo
    have HS := Lib.hid hs
    have HOG := Lib.hid hog
    have HOO := Lib.hid hoo
    have HAP := Lib.hid hap
    have HGE := Lib.hid hge
    have HINV := Lib.hid hinv
    have HPOT := Lib.hid hpot
    have HBW := Lib.hid hbw
    have HNE := Lib.hid (hinv.exist (by rw [HFL.out]; omega) hmo hcm)
    have hno6 : no ≤ 6 := by rw [← hoo.1]; exact hinv.ok.few
    have hno1 : 1 ≤ no := by
      rw [← hoo.1]
      rcases hso : s.out with _ | ⟨a, t⟩
      · exact absurd hso HNE.out
      · simp
    have hk168 : k ≤ 168 := by omega
    have hcap := hoo.cap
    obtain ⟨gO, hgO⟩ : ∃ gO, Ao = some ⟨gO, 0, none⟩ := by
      rcases hoo.addr with ⟨-, h0, -⟩ | ⟨gO, h, -⟩
      · omega
      · exact ⟨gO, h⟩
    subst hgO
    clear hs hog hoo hap hge hinv hpot hcm hmo hbw
    have e1 : (k : Int) < 280 := by omega
    have e2 : ((no : Int) == 0) = false := by rw [beq_eq_false_iff_ne]; omega
    have e2' : ¬ (no : Int) = 0 := by omega
    have e3 : ¬ (6 : Int) < (no : Int) := by omega
    have e4 : IntKind.i64.wrap ((k : Int) * 3) = ((k * 3 : Nat) : Int) := by rw [IntKind.wrap_i64]; omega
    go_upto_if 52 with fail
    go_cut [11] (fun x wc => wc = wr ∧ ∃ xv, x = .int .i64 xv ∧ i64in xv)
    case first =>
      by_cases hlt : k < n
      · have hki : (k : Int) < (n : Int) := by omega
        obtain ⟨z, hz⟩ : ∃ z, l[k]? = some z := ⟨_, List.getElem?_eq_getElem (by rw [HLN.out]; exact hlt)⟩
        obtain ⟨bL, oL, rfl, hbl, hcc⟩ := (HL.out.below HBW.out).at k z hz
        have g0 := hcc 0 (.int .i64 z) rfl
        simp only [inS, Nat.add_zero, Nat.mul_one] at g0
        have HZI := Lib.hid (HI.out z (List.mem_of_getElem? hz))
        clear hcc hz
        go_wp2_with fail
        go_meet
        exact ⟨rfl, z, rfl, HZI.out⟩
      · have hki : ¬ (k : Int) < (n : Int) := by omega
        go_wp2_with fail
        go_meet
        exact ⟨rfl, _, rfl, by omega, by omega⟩
    case rest =>
      obtain ⟨hwc, xv, rfl, hx1, hx2⟩ := hcut
      subst wc
      obtain ⟨pk, hpk, hpkn⟩ := pick_nat xv (no : Int) (by omega)
      have hpkn' : pk < no := by omega
      obtain ⟨⟨wa, wb⟩, hwt⟩ : ∃ x, s.out[pk]? = some x := ⟨_, List.getElem?_eq_getElem (by rw [HOO.out.1]; exact hpkn')⟩
      have HWT := Lib.hid hwt
      have hmem := List.mem_of_getElem? hwt
      have HMEM := Lib.hid hmem
      obtain ⟨v0, v1, v2, v3⟩ := HINV.out.ok.wants _ hmem
      simp only at v0 v1 v2 v3
      have v4 := HINV.out.ok.f1
      obtain ⟨b1, o1, ho1, hb1', hcc⟩ := HOO.out.ls.at pk _ hwt
      injection ho1 with ho1
      injection ho1 with ho1 ho2
      subst ho1
      subst ho2
      have g0 := hcc 0 (.int .i64 wa) rfl
      have g1 := hcc 1 (.int .i64 wb) rfl
      simp only [wtS, Nat.add_zero, Nat.zero_add] at g0 g1
      obtain ⟨an, han⟩ : ∃ an : Nat, wa = an := ⟨wa.toNat, by omega⟩
      subst han
      obtain ⟨q13, hq13⟩ : ∃ q, q = wr.heap.size := ⟨_, rfl⟩
      obtain ⟨w3, hw3⟩ : ∃ x, x = wr.alloc (.cells #[.int .i64 (an : Int), .int .i64 wb] 33) := ⟨_, rfl⟩
      have HB3 : Hid (Below wr.heap.size wr w3) := Lib.hid (by rw [hw3]; exact ba1 _ _)
      have HX3 : Hid (Bx 33 w3 q13 #[.int .i64 (an : Int), .int .i64 wb]) := Lib.hid (by rw [hw3, hq13]; exact bx_new _ _ _)
      have HQ13 := Lib.hid hq13
      clear hcc hwt hmem hb1'
      have hpki : (pk : Int) < (no : Int) := by omega
      go_upto_region 16 with (go_at_call 10; (with_reducible refine (picked_n xv no pk _ hpk hx1 hx2 (by omega) (by omega)).mono ?_); rintro e wq ⟨rfl, hq⟩; subst wq)
      rw [← hw3, ← hq13]
      clear hw3 hq13 g0 g1
      have l13 := HX3.out.lt
      have x0 := HX3.out.cell 0 _ rfl
      have x1 := HX3.out.cell 1 _ rfl
      have y0 : ¬ (an : Int) < 0 := by omega
      have y1 : ¬ wb < 1 := by omega
      have y2 : ¬ 100 < wb := by omega
      obtain ⟨wbn, hwbn⟩ : ∃ b : Nat, wb = b := ⟨wb.toNat, by omega⟩
      subst hwbn
      go_upto_if 82 with fail
      go_cut [14] (fun d wc => FdD F an wbn w3 d wc)
      case first =>
        by_cases hin : an < N
        · have hini : (an : Int) < (N : Int) := by omega
          obtain ⟨gF, hgF⟩ : ∃ gF, Fa = some ⟨gF, 0, none⟩ := by
            rcases HAD.out with ⟨-, h0, -⟩ | ⟨gF, h, -⟩
            · omega
            · exact ⟨gF, h⟩
          subst hgF
          have hca : ¬ cF = an := by omega
          have HSLm : Hid (∀ m, Ls byS w3 (some ⟨gF, an, none⟩) ((F.drop an).take m)) := Lib.hid (fun m => by
            have := ((((HF.out.below HBW.out).below HB3.out).ls.drop1 rfl an)).take m
            rwa [Nat.zero_add] at this)
          obtain ⟨xd1, xd2⟩ := tdiv_in (k := 8) (by omega) (show i64in xv from ⟨hx1, hx2⟩)
          have exw : IntKind.i64.wrap (xv.tdiv 8) = xv.tdiv 8 := wrap_in ⟨xd1, xd2⟩
          obtain ⟨ph, hph3, -⟩ := pick_nat (xv.tdiv 8) 3 (by omega)
          obtain ⟨rn, hrn⟩ : ∃ r, r = N - an := ⟨_, rfl⟩
          have ern : IntKind.i64.wrap ((N : Int) - (an : Int)) = (rn : Int) := by rw [IntKind.wrap_i64]; omega
          have HRN := Lib.hid hrn
          have hcs : (wbn ≤ rn) ∨ (rn < wbn) := by omega
          rcases hcs with hq | hq
          · have hq1 : (wbn : Int) ≤ (rn : Int) := by omega
            obtain ⟨m0, hm0⟩ : ∃ m0, m0 = wbn := ⟨_, rfl⟩
            subst hm0
            have hrn' : rn = N - an := hrn
            clear hrn
            by_cases hph : ph = 0
            · subst hph
              obtain ⟨m, hm⟩ : ∃ m, m = (m0 + 1) / 2 := ⟨_, rfl⟩
              have em1 : IntKind.i64.wrap ((m0 : Int) + 1) = (m0 : Int) + 1 := by rw [IntKind.wrap_i64]; omega
              have em2 : ((m0 : Int) + 1).tdiv 2 = (m : Int) := by rw [Int.tdiv_eq_ediv_of_nonneg (by omega)]; omega
              have em2' : ((m0 : Int) + 1) / 2 = (m : Int) := by omega
              have em3 : IntKind.i64.wrap (m : Int) = (m : Int) := by rw [IntKind.wrap_i64]; omega
              obtain ⟨en, hen⟩ : ∃ e, e = an + m := ⟨_, rfl⟩
              have em4 : IntKind.i64.wrap ((an : Int) + (m : Int)) = (en : Int) := by rw [IntKind.wrap_i64]; omega
              have em5 : (an : Int) ≤ (en : Int) := by omega
              have em6 : (en : Int) ≤ (cF : Int) := by omega
              have HML : Hid (((F.drop an).take m).length = en - an) := Lib.hid (by rw [List.length_take, List.length_drop, HFL.out]; omega)
              have HANS : Hid (Ans F ((an : Int), (m0 : Int)) ⟨an, m0, (F.drop an).take m⟩) := Lib.hid ⟨rfl, rfl, .inr ⟨m, an, rfl, by rw [HFL.out]; omega, by omega, rfl, by rw [HFL.out]; omega, by simp only; omega, by simp only; rw [HFL.out]; omega⟩⟩
              have HSL := Lib.hid (HSLm.out m)
              have hmle : m ≤ 100 := by omega
              have HEN : Hid (en - an = m) := Lib.hid (by omega)
              clear hm hen hrn'
              as_aux_lemma =>
                go_wp2_with (first | (go_at_call 10; (with_reducible refine (picked_n (xv.tdiv 8) 3 0 _ hph3 xd1 xd2 (by omega) (by omega)).mono ?_); rintro e wq ⟨rfl, hq⟩; subst wq) | (at_builtin; refine wpList_appL (F := byS) rfl _ (.tmp 98) (.tmp 106) 28 rfl _ 1 Try.underlying28 byInfo rfl w3.heap.size none 0 0 [] rfl (OwnL.nil _ _) (some ⟨gF, an, none⟩) (en - an) (cF - an) ((F.drop an).take m) rfl HSL.out HML.out m (by have := HEN.out; omega) (by have := HEN.out; omega) (by have := HEN.out; omega) (by omega) ?_; intro A5 c5 w5 ho5 hb5 _; have O5 := Lib.hid ho5; have B5 := Lib.hid hb5; clear ho5 hb5))
                go_meet
                exact ⟨A5, m, c5, (F.drop an).take m, rfl, by simpa using O5.out.ls, by rw [HML.out, HEN.out], hmle, HANS.out, fun a ha => O5.out.lt a.block (by rw [ha]; rfl), B5.out⟩
            · have hphb : (((ph : Nat) : Int) == 0) = false := by rw [beq_eq_false_iff_ne]; omega
              have hphi : ¬ ((ph : Nat) : Int) = 0 := by omega
              obtain ⟨en, hen⟩ : ∃ e, e = an + m0 := ⟨_, rfl⟩
              have em4 : IntKind.i64.wrap ((an : Int) + (m0 : Int)) = (en : Int) := by rw [IntKind.wrap_i64]; omega
              have em5 : (an : Int) ≤ (en : Int) := by omega
              have em6 : (en : Int) ≤ (cF : Int) := by omega
              have HML : Hid (((F.drop an).take m0).length = en - an) := Lib.hid (by rw [List.length_take, List.length_drop, HFL.out]; omega)
              have HANS : Hid (Ans F ((an : Int), (m0 : Int)) ⟨an, m0, (F.drop an).take m0⟩) := Lib.hid ⟨rfl, rfl, .inr ⟨m0, an, rfl, by rw [HFL.out]; omega, by omega, rfl, by rw [HFL.out]; omega, by simp only; omega, by simp only; rw [HFL.out]; omega⟩⟩
              have HSL := Lib.hid (HSLm.out m0)
              have hmle : m0 ≤ 100 := by omega
              have HEN : Hid (en - an = m0) := Lib.hid (by omega)
              clear hen hrn'
              as_aux_lemma =>
                go_wp2_with (first | (go_at_call 10; (with_reducible refine (picked_n (xv.tdiv 8) 3 ph _ hph3 xd1 xd2 (by omega) (by omega)).mono ?_); rintro e wq ⟨rfl, hq⟩; subst wq) | (at_builtin; refine wpList_appL (F := byS) rfl _ (.tmp 98) (.tmp 106) 28 rfl _ 1 Try.underlying28 byInfo rfl w3.heap.size none 0 0 [] rfl (OwnL.nil _ _) (some ⟨gF, an, none⟩) (en - an) (cF - an) ((F.drop an).take m0) rfl HSL.out HML.out m0 (by have := HEN.out; omega) (by have := HEN.out; omega) (by have := HEN.out; omega) (by omega) ?_; intro A5 c5 w5 ho5 hb5 _; have O5 := Lib.hid ho5; have B5 := Lib.hid hb5; clear ho5 hb5))
                go_meet
                exact ⟨A5, m0, c5, (F.drop an).take m0, rfl, by simpa using O5.out.ls, by rw [HML.out, HEN.out], hmle, HANS.out, fun a ha => O5.out.lt a.block (by rw [ha]; rfl), B5.out⟩
          · have hq1 : ¬ (wbn : Int) ≤ (rn : Int) := by omega
            have hq2 : (rn : Int) < (wbn : Int) := by omega
            obtain ⟨m0, hm0⟩ : ∃ m0, m0 = rn := ⟨_, rfl⟩
            subst hm0
            have hrn' : m0 = N - an := hrn
            clear hrn
            by_cases hph : ph = 0
            · subst hph
              obtain ⟨m, hm⟩ : ∃ m, m = (m0 + 1) / 2 := ⟨_, rfl⟩
              have em1 : IntKind.i64.wrap ((m0 : Int) + 1) = (m0 : Int) + 1 := by rw [IntKind.wrap_i64]; omega
              have em2 : ((m0 : Int) + 1).tdiv 2 = (m : Int) := by rw [Int.tdiv_eq_ediv_of_nonneg (by omega)]; omega
              have em2' : ((m0 : Int) + 1) / 2 = (m : Int) := by omega
              have em3 : IntKind.i64.wrap (m : Int) = (m : Int) := by rw [IntKind.wrap_i64]; omega
              obtain ⟨en, hen⟩ : ∃ e, e = an + m := ⟨_, rfl⟩
              have em4 : IntKind.i64.wrap ((an : Int) + (m : Int)) = (en : Int) := by rw [IntKind.wrap_i64]; omega
              have em5 : (an : Int) ≤ (en : Int) := by omega
              have em6 : (en : Int) ≤ (cF : Int) := by omega
              have HML : Hid (((F.drop an).take m).length = en - an) := Lib.hid (by rw [List.length_take, List.length_drop, HFL.out]; omega)
              have HANS : Hid (Ans F ((an : Int), (wbn : Int)) ⟨an, wbn, (F.drop an).take m⟩) := Lib.hid ⟨rfl, rfl, .inr ⟨m, an, rfl, by rw [HFL.out]; omega, by omega, rfl, by rw [HFL.out]; omega, by simp only; omega, by simp only; rw [HFL.out]; omega⟩⟩
              have HSL := Lib.hid (HSLm.out m)
              have hmle : m ≤ 100 := by omega
              have HEN : Hid (en - an = m) := Lib.hid (by omega)
              clear hm hen hrn'
              as_aux_lemma =>
                go_wp2_with (first | (go_at_call 10; (with_reducible refine (picked_n (xv.tdiv 8) 3 0 _ hph3 xd1 xd2 (by omega) (by omega)).mono ?_); rintro e wq ⟨rfl, hq⟩; subst wq) | (at_builtin; refine wpList_appL (F := byS) rfl _ (.tmp 98) (.tmp 106) 28 rfl _ 1 Try.underlying28 byInfo rfl w3.heap.size none 0 0 [] rfl (OwnL.nil _ _) (some ⟨gF, an, none⟩) (en - an) (cF - an) ((F.drop an).take m) rfl HSL.out HML.out m (by have := HEN.out; omega) (by have := HEN.out; omega) (by have := HEN.out; omega) (by omega) ?_; intro A5 c5 w5 ho5 hb5 _; have O5 := Lib.hid ho5; have B5 := Lib.hid hb5; clear ho5 hb5))
                go_meet
                exact ⟨A5, m, c5, (F.drop an).take m, rfl, by simpa using O5.out.ls, by rw [HML.out, HEN.out], hmle, HANS.out, fun a ha => O5.out.lt a.block (by rw [ha]; rfl), B5.out⟩
            · have hphb : (((ph : Nat) : Int) == 0) = false := by rw [beq_eq_false_iff_ne]; omega
              have hphi : ¬ ((ph : Nat) : Int) = 0 := by omega
              obtain ⟨en, hen⟩ : ∃ e, e = an + m0 := ⟨_, rfl⟩
              have em4 : IntKind.i64.wrap ((an : Int) + (m0 : Int)) = (en : Int) := by rw [IntKind.wrap_i64]; omega
              have em5 : (an : Int) ≤ (en : Int) := by omega
              have em6 : (en : Int) ≤ (cF : Int) := by omega
              have HML : Hid (((F.drop an).take m0).length = en - an) := Lib.hid (by rw [List.length_take, List.length_drop, HFL.out]; omega)
              have HANS : Hid (Ans F ((an : Int), (wbn : Int)) ⟨an, wbn, (F.drop an).take m0⟩) := Lib.hid ⟨rfl, rfl, .inr ⟨m0, an, rfl, by rw [HFL.out]; omega, by omega, rfl, by rw [HFL.out]; omega, by simp only; omega, by simp only; rw [HFL.out]; omega⟩⟩
              have HSL := Lib.hid (HSLm.out m0)
              have hmle : m0 ≤ 100 := by omega
              have HEN : Hid (en - an = m0) := Lib.hid (by omega)
              clear hen hrn'
              as_aux_lemma =>
                go_wp2_with (first | (go_at_call 10; (with_reducible refine (picked_n (xv.tdiv 8) 3 ph _ hph3 xd1 xd2 (by omega) (by omega)).mono ?_); rintro e wq ⟨rfl, hq⟩; subst wq) | (at_builtin; refine wpList_appL (F := byS) rfl _ (.tmp 98) (.tmp 106) 28 rfl _ 1 Try.underlying28 byInfo rfl w3.heap.size none 0 0 [] rfl (OwnL.nil _ _) (some ⟨gF, an, none⟩) (en - an) (cF - an) ((F.drop an).take m0) rfl HSL.out HML.out m0 (by have := HEN.out; omega) (by have := HEN.out; omega) (by have := HEN.out; omega) (by omega) ?_; intro A5 c5 w5 ho5 hb5 _; have O5 := Lib.hid ho5; have B5 := Lib.hid hb5; clear ho5 hb5))
                go_meet
                exact ⟨A5, m0, c5, (F.drop an).take m0, rfl, by simpa using O5.out.ls, by rw [HML.out, HEN.out], hmle, HANS.out, fun a ha => O5.out.lt a.block (by rw [ha]; rfl), B5.out⟩
        · have hini : ¬ (an : Int) < (N : Int) := by omega
          go_wp2_with fail
          go_meet
          exact ⟨none, 0, 0, [], rfl, Ls.nil _ _, rfl, Nat.zero_le _, ⟨rfl, rfl, .inl ⟨rfl, by rw [HFL.out]; simp only; omega⟩⟩, (fun a ha => by cases ha), Below.refl _ _⟩
      case rest =>
        obtain ⟨D, dl, dc, gd, rfl, hgd, hgl, hgl100, hans, hgb, hb4⟩ := hcut
        obtain ⟨w4, hw4⟩ : ∃ x, x = wc := ⟨_, rfl⟩
        subst hw4
        have HB4 : Hid (Below wr.heap.size wr w4) := Lib.hid (bthen HB3.out hb4)
        have HX4 : Hid (Bx 33 w4 q13 #[.int .i64 (an : Int), .int .i64 (wbn : Int)]) := Lib.hid (HX3.out.below hb4)
        obtain ⟨gg, hgg⟩ : ∃ g : Gt, g = ⟨an, wbn, gd⟩ := ⟨_, rfl⟩
        have HANS : Hid (Ans F ((an : Int), (wbn : Int)) gg) := Lib.hid (by rw [hgg]; exact hans)
        have HGG := Lib.hid hgg
        have HGD := Lib.hid hgd
        have HGL := Lib.hid hgl
        have HGB : Hid (∀ a, D = some a → wr.heap.size ≤ a.block ∧ a.block < w4.heap.size) := Lib.hid (fun a ha => ⟨Nat.le_trans HB3.out.size (hgb a ha).1, (hgb a ha).2⟩)
        have HOG4 := Lib.hid (HOG.out.below HB4.out)
        have HOO4 := Lib.hid (HOO.out.below HB4.out)
        have HGE4 := Lib.hid (HGE.out.new HB4.out)
        clear hgd hgl hans hgb hb4 hgg l13 x0 x1
        have l13 := HX4.out.lt
        have x0 := HX4.out.cell 0 _ rfl
        have x1 := HX4.out.cell 1 _ rfl
        go_upto_region 25 with (at_builtin; refine wpList_appL (F := gtS) rfl _ (.tmp 108) (.tmp 115) 22 rfl _ 40 Try.underlying22 gtInfo rfl w.heap.size Ab k cb lb rfl (HOG4.out.below (ba1 _ _)) (some ⟨w4.heap.size, 0, none⟩) 1 1 [⟨gg, D, dl, dc⟩] rfl (ls_new w4 _ _ _ (by rw [HGG.out]; rfl) _ rfl) rfl (k + 1) rfl (by omega) (by omega) (by have := HBW.out.size; have := HB4.out.size; simp; omega) ?_; intro Ab5 cb5 w5 ho5 hb5 hs5; have O5 := Lib.hid ho5; have B5 := Lib.hid hb5; have S5 := Lib.hid hs5; clear ho5 hb5 hs5)
        clear l13 x0 x1
        have HW5 : Hid (Below w.heap.size w w5) := Lib.hid (by
          have z1 := HBW.out.size
          have z2 := HB4.out.size
          exact ((HBW.out.trans (HB4.out.mono z1)).trans ((ba1 w4 _).mono (by omega))).trans B5.out)
        have HO5 : Hid (OwnL wtS 33 w5 w.heap.size (some ⟨gO, 0, none⟩) no co s.out) := Lib.hid ((HOO4.out.below (ba1 _ _)).beside S5.out HAP.out.symm)
        have HGE5 : Hid (GEI w5 (fun j => (Value.slice Ab5 (k + 1) cb5).ownBlock = some j) (lb ++ [⟨gg, D, dl, dc⟩])) := Lib.hid (by
          have hg4 : GEI w4 (fun j => (Value.slice Ab k cb).ownBlock = some j) (lb ++ [⟨gg, D, dl, dc⟩]) := HGE4.out.app ⟨by rw [HGG.out]; exact HGD.out, by rw [HGG.out]; exact HGL.out, hgl100, fun a ha g => by
            obtain ⟨q1, q2⟩ := HGB.out a ha
            rcases g with g | g
            · have := (HOG.out.lt _ g).2; omega
            · omega⟩
          exact (hg4.new (ba1 _ _)).only (S5.out.only B5.out) (fun j hj => .inl hj) (fun j hj => S5.out.own j hj))
        obtain ⟨s', hs'⟩ : ∃ s', s' = (takeG s gg).2 := ⟨_, rfl⟩
        have HS' : Hid (stG ((lb ++ [(⟨gg, D, dl, dc⟩ : Gv)]).map Gv.g) = s') := Lib.hid (by rw [List.map_append, hs', HS.out]; exact stG_snoc _ _)
        have HINV' : Hid (InvF F s') := Lib.hid (by rw [hs']; exact (HINV.out.take HMEM.out HANS.out).2)
        have HPOT' : Hid (pot F s' + (k + 1) ≤ 168) := Lib.hid (by have h1 := pot_take HINV.out HMEM.out HANS.out; have h2 := HPOT.out; rw [hs']; omega)
        have HMO' : Hid (mayOn s' = false) := Lib.hid (by rw [hs', (HINV.out.take HMEM.out HANS.out).1]; exact askOn_stop _)
        have HOUT' : Hid (s'.out = s.out.take pk ++ s.out.drop (pk + 1) ++ (takeG s gg).1.wants) := Lib.hid (by rw [hs', HINV.out.out HMEM.out HANS.out, HINV.out.once HWT.out])
        have HTX : Hid (fetchT ((lb ++ [(⟨gg, D, dl, dc⟩ : Gv)]).map Gv.g) = fetchT (lb.map Gv.g) ++ [(takeG s gg).1]) := Lib.hid (by rw [List.map_append, HS.out]; exact fetchT_snoc _ _)
        have HTK : Hid ((takeG s gg).1.code = 0 ∧ (takeG s gg).1.done = came s' ∧ (takeG s gg).1.data = if came s' then s'.dat.take s'.fin.toNat else []) := Lib.hid (by
          rw [hs', (HINV.out.take HMEM.out HANS.out).1]; exact ⟨rfl, rfl, rfl⟩)
        obtain ⟨lb5, hlb5⟩ : ∃ x, x = lb ++ [(⟨gg, D, dl, dc⟩ : Gv)] := ⟨_, rfl⟩
        rw [← hlb5] at O5 HGE5 HS' HTX
        obtain ⟨nx, hnx⟩ : ∃ x, x = (takeG s gg).1 := ⟨_, rfl⟩
        rw [← hnx] at HOUT' HTX HTK
        clear hs' hlb5 hnx
        have hcap5 := HO5.out.cap
        have hwp : IntKind.i64.wrap ((pk : Int) + 1) = (pk : Int) + 1 := by rw [IntKind.wrap_i64]; omega
        have hwt' : ((pk : Int) + 1).toNat = pk + 1 := by omega
        have hz1 : (0 : Int) ≤ (pk : Int) + 1 := by omega
        have hz2 : (pk : Int) + 1 ≤ (no : Int) := by omega
        have hz3 : (pk : Int) ≤ (co : Int) := by omega
        have hz4 : (no : Int) ≤ (co : Int) := by omega
        have hz5 : (pk : Int) + 1 ≤ (co : Int) := by omega
        have HTK5 : Hid ((s.out.take pk).length = pk) := Lib.hid (by rw [List.length_take, HO5.out.1]; omega)
        have HDR5 : Hid ((s.out.drop (pk + 1)).length = no - (pk + 1)) := Lib.hid (by rw [List.length_drop, HO5.out.1])
        have HL2 : Hid (∃ A2 c2, (c2 = co - (pk + 1)) ∧ (A2 = (if co = pk + 1 then (some ⟨gO, 0, none⟩ : Option Addr) else some ⟨gO, (pk + 1) * 2, none⟩)) ∧ ∀ wx, Below w5.heap.size w5 wx → Ls wtS wx A2 (s.out.drop (pk + 1))) := Lib.hid ⟨_, _, rfl, rfl, fun wx hx => by
          split
          · have : s.out.drop (pk + 1) = [] := List.eq_nil_of_length_eq_zero (by rw [HDR5.out]; omega)
            rw [this]; exact Ls.nil _ _
          · exact wt_drop (HO5.out.below hx) gO rfl (pk + 1) (by omega)⟩
        obtain ⟨A2, c2', hc2', hA2, hL2⟩ := HL2.out
        have HL2' := Lib.hid hL2
        go_cut [9] (fun o wc => ∃ A8 c8, o = .slice A8 (no - 1) c8 ∧ OwnL wtS 33 wc w5.heap.size A8 (no - 1) c8 (s.out.take pk ++ s.out.drop (pk + 1)) ∧ Below w5.heap.size w5 wc)
        case first =>
          clear hL2
          by_cases hck : co = pk + 1
          · rw [if_pos hck] at hA2
            subst hA2
            have hnp : no = pk + 1 := by omega
            subst hnp
            subst hck
            rw [Nat.sub_self] at hc2'
            subst hc2'
            have hz6 : (pk : Int) ≤ (pk : Int) + 1 := by omega
            have hz7 : (pk : Int) ≤ ((pk + 1 : Nat) : Int) := by omega
            focus
              go_region_law (first
                | (refine step_appL (F := wtS) rfl _ (.const (.slice none 0 0)) (.tmp 119) 27 rfl _ 16 Try.underlying27 wtInfo rfl w5.heap.size none 0 0 [] (by simp [Act.eval, Act.put]) (OwnL.nil _ _) (some ⟨gO, 0, none⟩) pk (pk + 1) (s.out.take pk) (by simp [Act.eval, Act.put]) ((HO5.out.below (Below.refl _ _).drew).ls.take pk) HTK5.out pk (by omega) (by omega) (by omega) (by first | exact Nat.le_refl _ | simp) ?_; intro A7 c7 w7 ho7 hb7 _; rw [List.nil_append] at ho7; have O7 := Lib.hid ho7; have B7 : Hid (Below w5.heap.size w5 w7) := Lib.hid ((Below.refl _ _).drew.trans hb7); clear ho7 hb7)
                | (refine step_appL (F := wtS) rfl _ (.tmp 120) (.tmp 124) 27 rfl _ 16 Try.underlying27 wtInfo rfl w5.heap.size A7 pk c7 (s.out.take pk) (by simp [Act.eval, Act.put]) O7.out (some ⟨gO, 0, none⟩) 0 0 (s.out.drop (pk + 1)) (by simp [Act.eval, Act.put]) (HL2'.out _ B7.out) (by rw [HDR5.out]; omega) (pk + 1 - 1) (by omega) (by omega) (by omega) (by have := B7.out.size; omega) ?_; intro A8 c8 w8 ho8 hb8 _; have O8 := Lib.hid ho8; have B8 : Hid (Below w5.heap.size w5 w8) := Lib.hid (B7.out.trans hb8); clear ho8 hb8))
              all_goals
                go_wp2_with fail
              all_goals
                go_meet
              all_goals
                exact ⟨A8, c8, rfl, O8.out, B8.out⟩
          · rw [if_neg hck] at hA2
            subst hA2
            subst hc2'
            focus
              go_region_law (first
                | (refine step_appL (F := wtS) rfl _ (.const (.slice none 0 0)) (.tmp 119) 27 rfl _ 16 Try.underlying27 wtInfo rfl w5.heap.size none 0 0 [] (by simp [Act.eval, Act.put]) (OwnL.nil _ _) (some ⟨gO, 0, none⟩) pk co (s.out.take pk) (by simp [Act.eval, Act.put]) ((HO5.out.below (Below.refl _ _).drew).ls.take pk) HTK5.out pk (by omega) (by omega) (by omega) (by first | exact Nat.le_refl _ | simp) ?_; intro A7 c7 w7 ho7 hb7 _; rw [List.nil_append] at ho7; have O7 := Lib.hid ho7; have B7 : Hid (Below w5.heap.size w5 w7) := Lib.hid ((Below.refl _ _).drew.trans hb7); clear ho7 hb7)
                | (refine step_appL (F := wtS) rfl _ (.tmp 120) (.tmp 124) 27 rfl _ 16 Try.underlying27 wtInfo rfl w5.heap.size A7 pk c7 (s.out.take pk) (by simp [Act.eval, Act.put]) O7.out (some ⟨gO, (pk + 1) * 2, none⟩) (no - (pk + 1)) (co - (pk + 1)) (s.out.drop (pk + 1)) (by simp [Act.eval, Act.put]) (HL2'.out _ B7.out) HDR5.out (no - 1) (by omega) (by omega) (by omega) (by have := B7.out.size; omega) ?_; intro A8 c8 w8 ho8 hb8 _; have O8 := Lib.hid ho8; have B8 : Hid (Below w5.heap.size w5 w8) := Lib.hid (B7.out.trans hb8); clear ho8 hb8))
              all_goals
                go_wp2_with fail
              all_goals
                go_meet
              all_goals
                exact ⟨A8, c8, rfl, O8.out, B8.out⟩
        case rest =>
          obtain ⟨A8, c8, rfl, ho8, hb8⟩ := hcut
          obtain ⟨w8, hw8⟩ : ∃ x, x = wc := ⟨_, rfl⟩
          subst hw8
          have HO8 := Lib.hid ho8
          have HB8 := Lib.hid hb8
          have HOG8 := Lib.hid (O5.out.below hb8)
          have HGE8 := Lib.hid (HGE5.out.new hb8)
          have HW8 : Hid (Below w.heap.size w w8) := Lib.hid (HW5.out.trans (hb8.mono HW5.out.size))
          clear ho8 hb8 hL2 hc2' hA2 hwp hwt' hz1 hz2 hz3 hz4 hz5
          have HPL : Hid (∀ A9 c9 (w9 : World), Below w8.heap.size w8 w9 → Ls gtS w9 A9 lb5 → Calls Try.prog 6 #[.slice A9 (k + 1) c9] w9 (RetN2 w9 (fetchT (lb5.map Gv.g)))) := Lib.hid (fun A9 c9 w9 hb h => fplay_ok2 A9 (k + 1) c9 lb5 w9 (by omega) h HOG8.out.1 (HGE8.out.gin.below hb))
          obtain ⟨ts, hts⟩ : ∃ ts, ts = fetchT (lb5.map Gv.g) := ⟨_, rfl⟩
          rw [← hts] at HPL HTX
          have HTS := Lib.hid hts
          have HTL : Hid (ts.length = k + 1 + 1) := Lib.hid (by rw [hts, fetchT_len, List.length_map, HOG8.out.1])
          have HTN : Hid (ts[k + 1]? = some nx) := Lib.hid (by
            have h1 := HTL.out
            rw [HTX.out, List.length_append] at h1
            rw [HTX.out, List.getElem?_append_right (by simp at h1; omega)]
            have : k + 1 - (fetchT (lb.map Gv.g)).length = 0 := by simp at h1; omega
            rw [this]; rfl)
          clear hts
          have hkw : IntKind.i64.wrap (((k + 1 : Nat) : Int) + 1) = ((k + 1 + 1 : Nat) : Int) := by rw [IntKind.wrap_i64]; omega
          have hkw2 : IntKind.i64.wrap ((k : Int) + 1 + 1) = ((k + 1 + 1 : Nat) : Int) := by rw [IntKind.wrap_i64]; omega
          have hkw3 : IntKind.i64.wrap (((k + 1 + 1 : Nat) : Int) - 1) = ((k + 1 : Nat) : Int) := by rw [IntKind.wrap_i64]; omega
          go_upto_region 27 with (first
            | (at_builtin; refine wpList_appL (F := gtS) rfl _ (.const (.slice none 0 0)) (.tmp 127) 22 rfl _ 40 Try.underlying22 gtInfo rfl w8.heap.size none 0 0 [] rfl (OwnL.nil _ _) Ab5 (k + 1) cb5 lb5 rfl HOG8.out.ls HOG8.out.1 (k + 1) (by omega) (by omega) (by omega) (by omega) ?_; intro A9 c9 w9 ho9 hb9 _; have O9 := Lib.hid ho9; have B9 := Lib.hid hb9; clear ho9 hb9)
            | (go_at_call 6; (with_reducible refine (HPL.out _ _ _ B9.out (by have := O9.out.ls; simpa using this)).mono ?_); rintro e w10 ⟨Ay, cy, ly, rfl, hoy, hmy, hey, hby, hny⟩; have HNY := Lib.hid hny; have HOY := Lib.hid hoy; have HMY := Lib.hid hmy; have HEY := Lib.hid hey; have HBY := Lib.hid hby; clear hoy hmy hey hby hny))
          rw [HTL.out] at HOY ⊢
          obtain ⟨gY, hgY⟩ : ∃ gY, Ay = some ⟨gY, 0, none⟩ := by
            rcases HOY.out.addr with ⟨-, h0, -⟩ | ⟨gX, h, -⟩
            · omega
            · exact ⟨gX, h⟩
          subst hgY
          obtain ⟨y, hy⟩ : ∃ y, ly[k + 1]? = some y := ⟨_, List.getElem?_eq_getElem (by rw [HOY.out.1]; omega)⟩
          obtain ⟨k0, k1, k2, k3⟩ := ne_cells HOY.out (k + 1) y hy
          have hyx : y.x = nx := by
            have h1 : (ly.map Nv.x)[k + 1]? = some y.x := by rw [List.getElem?_map, hy]; rfl
            rw [HMY.out, HTN.out] at h1
            injection h1 with h1; exact h1.symm
          obtain ⟨⟨p1, p2, -⟩, p3, p4, -⟩ := HEY.out y (List.mem_of_getElem? hy)
          rw [hyx] at k0 k2 p1 p2 p3 p4
          rw [HTK.out.1] at k0
          have HSN : Hid (∀ j, TS y.S j ∨ TS y.A j → w9.heap.size ≤ j) := Lib.hid (HNY.out y (List.mem_of_getElem? hy))
          have HP1 := Lib.hid p1
          have HP2 := Lib.hid p2
          have HP3 := Lib.hid p3
          have HP4 := Lib.hid p4
          have hyi : ((k + 1 : Nat) : Int) < ((k + 1 + 1 : Nat) : Int) := by omega
          obtain ⟨q16, hq16⟩ : ∃ q, q = w10.heap.size := ⟨_, rfl⟩
          obtain ⟨w11, hw11⟩ : ∃ x, x = w10.alloc (.cells #[.int .i64 0, .slice y.S y.m y.e, .bool nx.done, .slice y.A y.n y.c] 30) := ⟨_, rfl⟩
          have HB11 : Hid (Below w10.heap.size w10 w11) := Lib.hid (by rw [hw11]; exact ba1 _ _)
          have HX11 : Hid (Bx 30 w11 q16 #[.int .i64 0, .slice y.S y.m y.e, .bool nx.done, .slice y.A y.n y.c]) := Lib.hid (by rw [hw11, hq16]; exact bx_new _ _ _)
          have HB811 : Hid (Below w8.heap.size w8 w11) := Lib.hid (bthen (bthen B9.out HBY.out) HB11.out)
          clear hy hyx p1 p2 p3 p4
          have hkk : (((k + 1 : Nat) : Int)) + 1 = ((k + 1 + 1 : Nat) : Int) := by omega
          go_upto_region 30 with fail
          rw [← hw11, ← hq16]
          have HQ16e : Hid (w10.heap.size = q16) := Lib.hid hq16.symm
          clear hw11 hq16 k0 k1 k2 k3
          obtain ⟨l16, x0, x1, x2, x3, -⟩ := HX11.out.cells4
          obtain ⟨L, hL⟩ : ∃ L, L = s.out.take pk ++ s.out.drop (pk + 1) := ⟨_, rfl⟩
          rw [← hL] at HO8 HOUT'
          have HLL : Hid (L.length = no - 1) := Lib.hid HO8.out.1
          have HFEW : Hid (∀ x ∈ s'.out, 0 ≤ x.1 ∧ 1 ≤ x.2 ∧ x.2 ≤ 100 ∧ x.1 + x.2 ≤ 2148) := Lib.hid (fun x hx => by
            obtain ⟨u1, u2, u3, u4⟩ := HINV'.out.ok.wants x hx
            have := HINV'.out.ok.f1
            exact ⟨u1, u2, u3, by omega⟩)
          have HL6 : Hid (no - 1 + y.m ≤ 6) := Lib.hid (by
            have h1 := HINV'.out.ok.few
            rw [HOUT'.out, List.length_append, HLL.out, HP3.out] at h1
            exact h1)
          have hL6 := HL6.out
          have HOB : Hid (OwnL wtS 33 w11 w5.heap.size A8 (no - 1) c8 L) := Lib.hid (HO8.out.below HB811.out)
          have HSZ : Hid (w5.heap.size ≤ w8.heap.size ∧ w8.heap.size ≤ w9.heap.size ∧ w9.heap.size ≤ w10.heap.size ∧ w10.heap.size ≤ w11.heap.size) := Lib.hid ⟨HB8.out.size, B9.out.size, HBY.out.size, HB11.out.size⟩
          have HOLO : Hid (∀ j, (Value.slice A8 (no - 1) c8).ownBlock = some j → j < w8.heap.size) := Lib.hid (fun j hj => (HO8.out.lt j hj).2)
          have HQ16 : Hid (w10.heap.size = q16) := Lib.hid HQ16e.out
          clear hL
          go_wp2_with fail
          go_loopw [9, 17] (fun o j wx => FdJ L nx.wants y.m (no - 1) w5 w8 w11 o j wx) (fun _ j _ => y.m - (intOf j).toNat)
          case atStart => exact ⟨0, A8, c8, Nat.zero_le _, rfl, rfl, by simpa using HOB.out, (fun k hk => .inl (HOLO.out k hk)), Only.refl _ _⟩
          case round =>
            obtain ⟨t, A12, c12, ht, rfl, rfl, hoj, hbj, honj⟩ := hrel
            obtain ⟨wj, hwj⟩ : ∃ x, x = wr := ⟨_, rfl⟩
            subst hwj
            have HOJ := Lib.hid hoj
            have HBJ := Lib.hid hbj
            have HONJ := Lib.hid honj
            obtain ⟨hz1, hz2, hz3, hz4⟩ := HSZ.out
            have HXJ : Hid (Bx 30 wj q16 #[.int .i64 0, .slice y.S y.m y.e, .bool nx.done, .slice y.A y.n y.c]) := Lib.hid (HX11.out.only honj (fun e => by have := HQ16.out; omega))
            have HWJ : Hid (Ls wtS wj y.S nx.wants) := Lib.hid ((HP4.out.below HB11.out).only honj (fun a ha e => by have := HSN.out _ (.inl ⟨a, ha, rfl⟩); omega))
            have HDJ : Hid (Ls byS wj y.A nx.data) := Lib.hid ((HP2.out.below HB11.out).only honj (fun a ha e => by have := HSN.out _ (.inr ⟨a, ha, rfl⟩); omega))
            have HB5J : Hid (Below w5.heap.size w5 wj) := Lib.hid (((HB8.out.trans (HB811.out.mono hz1))).trans (honj.below (B := w5.heap.size) (fun j hj => hj.1) (by omega)))
            clear hoj hbj honj
            obtain ⟨l16, x0, x1, x2, x3, -⟩ := HXJ.out.cells4
            by_cases hlt : t < y.m
            · have hti : (t : Int) < (y.m : Int) := by omega
              obtain ⟨⟨a, b⟩, hab⟩ : ∃ x, nx.wants[t]? = some x := ⟨_, List.getElem?_eq_getElem (by rw [HP3.out]; exact hlt)⟩
              obtain ⟨gS, oS, hSe, hSl, cs0, cs1⟩ := wt_at HWJ.out t a b hab
              rw [hSe] at x1
              have HAB := Lib.hid hab
              have HSO : Hid (∀ u : Nat, u < no - 1 + t → ∀ x, (L ++ nx.wants.take t)[u]? = some x → Dj (a, b) x ∧ 0 ≤ x.1 ∧ 1 ≤ x.2 ∧ x.2 ≤ 100 ∧ x.1 + x.2 ≤ 2148) := Lib.hid (fun u hu x hx => by
                have h1 : s'.out[u]? = some x := by
                  have h0 := hx
                  rw [HOUT'.out]
                  rw [List.getElem?_append] at h0 ⊢
                  split at h0
                  · rename_i q; rw [if_pos q]; exact h0
                  · rename_i q
                    rw [if_neg q]
                    rw [List.getElem?_take] at h0
                    split at h0
                    · exact h0
                    · cases h0
                have h2 : s'.out[no - 1 + t]? = some (a, b) := by
                  rw [HOUT'.out, List.getElem?_append_right (by rw [HLL.out]; omega), HLL.out, Nat.add_sub_cancel_left]
                  exact HAB.out
                obtain ⟨q1, q2⟩ := List.getElem?_eq_some_iff.1 h1
                obtain ⟨q3, q4⟩ := List.getElem?_eq_some_iff.1 h2
                have hd := List.pairwise_iff_getElem.1 HINV'.out.apart u (no - 1 + t) q1 q3 hu
                rw [q2, q4] at hd
                exact ⟨hd.symm, HFEW.out x (List.mem_of_getElem? h1)⟩)
              obtain ⟨va0, va1, va2, va3⟩ := HFEW.out (a, b) (by rw [HOUT'.out]; exact List.mem_append_right _ (List.mem_of_getElem? hab))
              simp only at va0 va1 va2 va3
              have hwab : IntKind.i64.wrap (a + b) = a + b := by rw [IntKind.wrap_i64]; omega
              have HSE := Lib.hid hSe
              clear hab
              go_wp2_with fail
              go_loopw [18] (fun q wz => ∃ u : Nat, u ≤ no - 1 + t ∧ q = .int .i64 u ∧ Below wj.heap.size wj wz) (fun q _ => no - 1 + t - (intOf q).toNat)
              case atStart => exact ⟨0, Nat.zero_le _, rfl, Below.refl _ _⟩
              case round =>
                obtain ⟨u, hu, rfl, hbz⟩ := hrel
                have HBZ := Lib.hid hbz
                obtain ⟨z16, y0, y1, y2, y3, -⟩ := (HXJ.out.below hbz).cells4
                rw [HSE.out] at y1
                have cz0 := (hbz.cell (p := ⟨gS, oS + t * 2, none⟩) hSl).trans cs0
                have cz1 := (hbz.cell (p := ⟨gS, oS + t * 2 + 1, none⟩) hSl).trans cs1
                by_cases hlu : u < no - 1 + t
                · have hui : (u : Int) < ((no - 1 + t : Nat) : Int) := by omega
                  obtain ⟨⟨cc, dd⟩, hcd⟩ : ∃ x, (L ++ nx.wants.take t)[u]? = some x := ⟨_, List.getElem?_eq_getElem (by rw [HOJ.out.1]; exact hlu)⟩
                  obtain ⟨gR, oR, hRe, hRl, ce0, ce1⟩ := wt_at (HOJ.out.below hbz).ls u cc dd hcd
                  subst hRe
                  obtain ⟨hdj, vc0, vc1, vc2, vc3⟩ := HSO.out u hlu _ hcd
                  simp only at vc0 vc1 vc2 vc3
                  have hwcd : IntKind.i64.wrap (cc + dd) = cc + dd := by rw [IntKind.wrap_i64]; omega
                  clear hcd hbz
                  by_cases hac : a < cc + dd
                  · have hca := dj_false hdj hac
                    clear hdj
                    as_aux_lemma =>
                      go_upto_region 38 with fail
                      go_quiet (fail)
                      go_wp2_with fail
                      exact ⟨⟨u + 1, by omega, by go_num, below_drewN HBZ.out _⟩, by simp [intOf]; omega⟩
                  · clear hdj
                    as_aux_lemma =>
                      go_upto_region 38 with fail
                      go_quiet (fail)
                      go_wp2_with fail
                      exact ⟨⟨u + 1, by omega, by go_num, below_drewN HBZ.out _⟩, by simp [intOf]; omega⟩
                · obtain rfl : u = no - 1 + t := by omega
                  have hui : ¬ ((no - 1 + t : Nat) : Int) < ((no - 1 + t : Nat) : Int) := by omega
                  obtain ⟨wz, hwz⟩ : ∃ x, x = wr := ⟨_, rfl⟩
                  subst hwz
                  have HSZJ : Hid (w11.heap.size ≤ wj.heap.size ∧ wj.heap.size ≤ wz.heap.size) := Lib.hid ⟨HONJ.out.size, HBZ.out.size⟩
                  clear hbz
                  go_wp2_with (at_builtin; refine wpList_appL (F := wtS) rfl _ (.tmp 203) (.tmp 209) 27 rfl _ 16 Try.underlying27 wtInfo rfl w5.heap.size A12 (no - 1 + t) c12 (L ++ nx.wants.take t) rfl ((HOJ.out.below HBZ.out).below (ba1 _ _)) (some ⟨wz.heap.size, 0, none⟩) 1 1 [(a, b)] rfl (ls_new wz _ _ _ rfl _ rfl) rfl (no - 1 + (t + 1)) (by omega) (by omega) (by omega) (by have := HSZJ.out; simp; omega) ?_; intro A13 c13 w13 ho13 hb13 hs13; have O13 := Lib.hid ho13; have B13 := Lib.hid hb13; have S13 := Lib.hid hs13; clear ho13 hb13 hs13)
                  obtain ⟨hj1, hj2⟩ := HSZJ.out
                  go_roundw
                  case measure => simp [intOf]; omega
                  case rel =>
                    refine ⟨_, _, .slice A13 (no - 1 + (t + 1)) c13, .int .i64 ((t : Int) + 1), ⟨t + 1, A13, c13, by omega, by go_num, rfl, ?_, ?_, ?_⟩, rfl, rfl, rfl, rfl⟩
                    · have e : L ++ nx.wants.take (t + 1) = L ++ nx.wants.take t ++ [(a, b)] := by rw [List.take_add_one, HAB.out, List.append_assoc]; rfl
                      rw [e]; exact O13.out
                    · intro j hj
                      rcases S13.out.own j hj with g | g
                      · exact HBJ.out j g
                      · right; have : wz.heap.size ≤ (wz.alloc (.cells #[.int .i64 a, .int .i64 b] 33)).heap.size := by simp
                        omega
                    · refine ((HONJ.out.new HBZ.out).trans (T := fun j => (Value.slice A12 (no - 1 + t) c12).ownBlock = some j) ?_ (fun j hj => ?_))
                      · exact (only_new (ba1 wz _)).trans (S13.out.only B13.out) (fun j hj => .inl hj)
                      · rcases HBJ.out j hj with g | g
                        · exact .inl ⟨(HOJ.out.lt j hj).1, g⟩
                        · exact .inr g
            · obtain rfl : t = y.m := by omega
              have hti : ¬ ((y.m : Nat) : Int) < (y.m : Int) := by omega
              have hall : Hid (L ++ nx.wants.take y.m = s'.out) := Lib.hid (by rw [HOUT'.out, List.take_of_length_le (by rw [HP3.out]; exact Nat.le_refl _)])
              rw [HTK.out.2.1] at x2
              have HWJ2 : Hid (Below w.heap.size w wj) := Lib.hid (HW5.out.trans (HB5J.out.mono HW5.out.size))
              rcases hcs : came s' with _ | _
              · rw [hcs] at x2
                have HCS := Lib.hid hcs
                clear hcs
                as_aux_lemma =>
                  go_wp2_with fail
                  go_roundw
                  case measure => simp [intOf]; omega
                  case rel =>
                    refine ⟨k + 1, no - 1 + y.m, Ab5, cb5, lb5, A12, c12, by go_num, rfl, rfl, O5.out.below HB5J.out, ?_, ?_, HGE5.out.new HB5J.out, ?_, ?_, ?_, ?_, HWJ2.out⟩
                    · rw [HS'.out, ← hall.out]; exact HOJ.out.base HW5.out.size
                    · intro j i hj hi e
                      have h1 := (O5.out.lt j hj).2
                      have h2 := (HOJ.out.lt i hi).1
                      omega
                    · rw [HS'.out]; exact HINV'.out
                    · rw [HS'.out]; exact HPOT'.out
                    · rw [HS'.out]; exact HCS.out
                    · rw [HS'.out]; exact HMO'.out
              · rw [hcs] at x2
                have HCS := Lib.hid hcs
                clear hcs
                as_aux_lemma =>
                  have HDF : Hid (nx.data = F) := Lib.hid (by rw [HTK.out.2.2, HCS.out, if_pos rfl]; exact HINV'.out.came HCS.out)
                  go_wp2_with fail
                  go_ret2
                  exact ⟨y.A, y.n, y.c, rfl, by rw [← HDF.out]; exact HDJ.out, by rw [← HDF.out]; exact HP1.out, HWJ2.out⟩

end Go.Proofs.Ytjlnjeigoncfoaa
