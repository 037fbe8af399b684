/-
  The document's Inlet: an arrival.
-/
import Derived.Test.YtehckiihipnimaaInl3
import Derived.BigRegion
import Derived.Deep.DeepCutAuto
import Derived.Deep.RegionLaw
namespace Go.Proofs.Ytehckiihipnimaa
open Go.RowKit Go.Maps
set_option linter.unusedVariables false
set_option linter.unusedSimpArgs false

/-- the Inlet lies at B, its map at bm -/
def Inl (w : World) (B bm K : Nat) (s : Hr) : Prop := Bx 121 w B (inC s.room bm s.taken s.stop s.ended) ∧ MapIs w bm K (mapOf s)
theorem Inl.below {w w' : World} {B bm K : Nat} {s : Hr} (h : Inl w B bm K s) (hb : Below w.heap.size w w') : Inl w' B bm K s := ⟨h.1.below hb, h.2.below hb⟩
/-- what 'arrives' answers -/
def ArrR (w : World) (B bm K : Nat) (s : Hr) (a : Ar) (e : Ending) (w' : World) : Prop :=
  e = .returned (.int .i64 (arrive s a).1) ∧ Inl w' B bm (K + 64) (arrive s a).2 ∧ Only (fun k => k = B ∨ k = bm) w w'
theorem arr_same {w w' : World} {B bm K : Nat} {s : Hr} {a : Ar} {c : Int} (h : Inl w B bm K s) (ha : arrive s a = (c, s)) (hb : Below w.heap.size w w') : ArrR w B bm K s a (.returned (.int .i64 c)) w' := by
  refine ⟨by rw [ha], by rw [ha]; exact ⟨h.1.below hb, (h.2.below hb).mono (by omega)⟩, Only.mono (S := fun _ => False) (only_new hb) (fun _ h => h.elim)⟩

def RngI (w1 : World) (bm q K : Nat) (s : Hr) (tt : Int) (wr : World) : Prop :=
  ∃ (D : DataW Unit) (left : Lit → Bool) (cnt : Nat), wr.ranges Try.prog 3 (plainElem Try.prog 5) bm q K D left cnt ∧ Says D (mapOf s) ∧ (∀ x, i64in x → (mapOf s x).isSome = true → left (.int .i64 x) = false → x < tt) ∧ Below w1.heap.size w1 wr

theorem inInfo : (Try.prog.info? 3).map (fun i => (i.zero, i.size, i.bytes)) = some (some (.int .i64 0), inS.size, 8) := by kernel_rfl
theorem only_ge {S : Nat → Prop} {w0 w w' : World} {B : Nat} (h : Only S w0 w) (hb : Below B w w') (hB : w0.heap.size ≤ B) : Only S w0 w' :=
  ⟨hb.os.trans h.os, hb.tape.trans h.tape, hb.output.trans h.output, Nat.le_trans h.size hb.size, fun k hk hS => (hb.block k (by omega)).trans (h.block k hk hS)⟩
/-- the bytes kept so far -/
def FrI (w2 : World) (bm K : Nat) (s : Hr) (a : Ar) (xn : Nat) (fr i : Value) (wr : World) : Prop :=
  ∃ (k m : Nat) (Af : Option Addr) (cf : Nat) (l : List Int), k ≤ xn ∧ m ≤ k ∧ i = .int .i64 k ∧ fr = .slice Af m cf ∧ OwnL inS 3 wr w2.heap.size Af m cf l ∧ MapIs wr bm (K + k) (mapK s a k) ∧ (∀ x, x ∈ l ↔ frC s a k x) ∧ Only (fun j => j = bm) w2 wr
/-- the bytes struck again -/
def DlI (w5 : World) (bm K : Nat) (s : Hr) (a : Ar) (xn m : Nat) (l : List Int) (i : Value) (wr : World) : Prop :=
  ∃ j : Nat, j ≤ m ∧ i = .int .i64 j ∧ MapIs wr bm K (fun x => if x ∈ l.take j then mapOf s x else mapK s a xn x) ∧ Only (fun j => j = bm) w5 wr

set_option maxRecDepth 100000 in
set_option maxHeartbeats 8000000 in
theorem arrives_any (w : World) (B bm K : Nat) (s : Hr) (a : Ar) (A : Option Addr) (xn xc : Nat) (hi : Inl w B bm K s) (hne : bm ≠ B) (hK : K ≤ 1000000) (hok : HrOk s) (hd : Ls byS w A a.data) (hn : a.data.length = xn) (h47 : xn ≤ 140737488355328) (hby : ∀ z ∈ a.data, 0 ≤ z ∧ z ≤ 255)
    (hA : ∀ ad, A = some ad → 0 < xn → ad.block ≠ bm ∧ ad.block ≠ B) (ha : i64in a.at_) (hc : i64in a.count) :
    Calls Try.prog 60 #[.pointer (some ⟨B, 0, none⟩), .agg #[.int .i64 a.kind, .int .i64 a.at_, .slice A xn xc, .bool a.fin, .int .i64 a.count]] w (ArrR w B bm K s a) := by
  have HI := Lib.hid hi
  have HOK := Lib.hid hok
  have HD := Lib.hid hd
  have HN := Lib.hid hn
  have HBY := Lib.hid hby
  have HA := Lib.hid hA
  have HAT : Hid (arrive s a = (if a.at_ < 0 ∨ 1048576 - (xn : Int) ≤ a.at_ then (2, s)
      else if 64 < xn then (1, s)
      else if s.ended = true ∧ (s.stop < a.at_ + xn ∨ a.fin = true ∧ a.at_ + xn ≠ s.stop) then (10, s)
      else if a.fin = true ∧ (a.at_ + xn < s.dn ∨ ∃ r ∈ s.bt, a.at_ + xn < r.2) then (10, s)
      else if 16 < (addL s.dn s.bt (fits s a)).length then (9, s)
      else (0, putR s a (fits s a)))) := Lib.hid (by unfold arrive; rw [hn])
  obtain ⟨ha1, ha2⟩ := ha
  obtain ⟨at_, hat⟩ : ∃ q, q = a.at_ := ⟨_, rfl⟩
  obtain ⟨fin, hfn⟩ : ∃ q, q = a.fin := ⟨_, rfl⟩
  obtain ⟨ct, hct⟩ : ∃ q, q = a.count := ⟨_, rfl⟩
  obtain ⟨kd, hkd⟩ : ∃ q, q = a.kind := ⟨_, rfl⟩
  have hs0 := hok.e0
  have hs1 := hok.e1
  rw [← hat] at HAT ha1 ha2
  rw [← hfn] at HAT
  rw [← hat, ← hfn, ← hct, ← hkd]
  have HEQ : Hid (at_ = a.at_ ∧ fin = a.fin) := Lib.hid ⟨hat, hfn⟩
  clear hi hok hd hn hby hA hat hfn hct hkd hc
  go_enter Try.func60, Try.ntmps60
  by_cases h1 : at_ < 0 ∨ 1048576 - (xn : Int) ≤ at_
  · have HR : Hid (arrive s a = (2, s)) := Lib.hid (by rw [HAT.out, if_pos h1])
    have h3 : at_ < 0 ∨ (¬ at_ < 0 ∧ 1048576 < at_) ∨ (¬ at_ < 0 ∧ ¬ 1048576 < at_ ∧ 1048575 < at_ + (xn : Int)) := by omega
    rcases h3 with g | ⟨g1, g2⟩ | ⟨g1, g2, g3⟩
    · go_wp2_with fail
      go_ret
      exact arr_same HI.out HR.out (ba1 _ _)
    · go_wp2_with fail
      go_ret
      exact arr_same HI.out HR.out (ba1 _ _)
    · have e1 : IntKind.i64.wrap (at_ + (xn : Int)) = at_ + (xn : Int) := by rw [IntKind.wrap_i64]; omega
      go_wp2_with fail
      go_ret
      exact arr_same HI.out HR.out (ba1 _ _)
  obtain ⟨tt, htt⟩ : ∃ q, q = at_ + (xn : Int) := ⟨_, rfl⟩
  have e1 : IntKind.i64.wrap (at_ + (xn : Int)) = tt := by rw [IntKind.wrap_i64]; omega
  have g1 : ¬ at_ < 0 := by omega
  have g2 : ¬ 1048576 < at_ := by omega
  have g3 : ¬ 1048575 < tt := by omega
  have H1 := Lib.hid h1
  have HTT := Lib.hid htt
  rw [if_neg h1, ← htt] at HAT
  clear h1 htt
  by_cases h2 : 64 < xn
  · have HR : Hid (arrive s a = (1, s)) := Lib.hid (by rw [HAT.out, if_pos h2])
    have g4 : (64 : Int) < (xn : Int) := by omega
    go_wp2_with fail
    go_ret
    exact arr_same HI.out HR.out (ba1 _ _)
  have g4 : ¬ (64 : Int) < (xn : Int) := by omega
  rw [if_neg h2] at HAT
  go_upto_region 5 with fail
  obtain ⟨w1, hw1⟩ : ∃ w1, w1 = w.alloc (.cells #[.int .i64 kd, .int .i64 at_, .slice A xn xc, .bool fin, .int .i64 ct] 61) := ⟨_, rfl⟩
  obtain ⟨q3, hq3⟩ : ∃ q, q = w.heap.size := ⟨_, rfl⟩
  have HX1 : Hid (Bx 61 w1 q3 #[.int .i64 kd, .int .i64 at_, .slice A xn xc, .bool fin, .int .i64 ct]) := Lib.hid (by rw [hw1, hq3]; exact bx_new _ _ _)
  have HB1 : Hid (Below w.heap.size w w1) := Lib.hid (by rw [hw1]; exact ba1 _ _)
  have HI1 : Hid (Inl w1 B bm K s) := Lib.hid (HI.out.below HB1.out)
  have HQ3 : Hid (q3 = w.heap.size) := Lib.hid hq3
  rw [← hw1, ← hq3]
  clear hw1 hq3
  have j1 := HX1.out.cell 1 (.int .i64 at_) rfl
  have j2 := HX1.out.cell 2 (.slice A xn xc) rfl
  have j3 := HX1.out.cell 3 (.bool fin) rfl
  have lq := HX1.out.lt
  have k3 := HI1.out.1.cell 3 (.int .i64 s.stop) rfl
  have k4 := HI1.out.1.cell 4 (.bool s.ended) rfl
  have lB := HI1.out.1.lt
  obtain ⟨en, hen⟩ : ∃ q, q = s.ended := ⟨_, rfl⟩
  obtain ⟨sp, hsp⟩ : ∃ q, q = s.stop := ⟨_, rfl⟩
  rw [← hsp] at k3 hs0 hs1
  rw [← hen] at k4
  rw [← hen, ← hsp] at HAT
  have HES : Hid (en = s.ended ∧ sp = s.stop) := Lib.hid ⟨hen, hsp⟩
  clear hen hsp
  by_cases h3 : en = true ∧ (sp < tt ∨ fin = true ∧ tt ≠ sp)
  · have HR : Hid (arrive s a = (10, s)) := Lib.hid (by rw [HAT.out, if_pos h3])
    obtain ⟨rfl, h3⟩ := h3
    have h3' : sp < tt ∨ (¬ sp < tt ∧ fin = true ∧ tt ≠ sp) := by
      rcases h3 with g | ⟨g, g'⟩
      · exact .inl g
      · by_cases q : sp < tt
        · exact .inl q
        · exact .inr ⟨q, g, g'⟩
    clear h3
    rcases h3' with g | ⟨g, rfl, g'⟩
    · go_wp2_with fail
      go_ret
      exact arr_same HI.out HR.out HB1.out
    · have z1 : (tt == sp) = false := by simp; exact g'
      have z2 : decide (tt = sp) = false := by simp; exact g'
      clear g'
      go_wp2_with fail
      go_ret
      exact arr_same HI.out HR.out HB1.out
  rw [if_neg h3] at HAT
  go_upto_region 6 with fail
  go_cut [65] (fun v wx => v = .bool false ∧ w1 = wx)
  case first =>
    have h3' : en = false ∨ (en = true ∧ ¬ sp < tt ∧ fin = false) ∨ (en = true ∧ ¬ sp < tt ∧ fin = true ∧ tt = sp) := by
      rcases he : en with _ | _
      · exact .inl rfl
      · right
        have q1 : ¬ sp < tt := fun q => h3 ⟨he, .inl q⟩
        rcases hf : fin with _ | _
        · exact .inl ⟨rfl, q1, rfl⟩
        · exact .inr ⟨rfl, q1, rfl, Decidable.byContradiction fun q => h3 ⟨he, .inr ⟨hf, q⟩⟩⟩
    clear h3
    rcases h3' with rfl | ⟨rfl, g, rfl⟩ | ⟨rfl, g, rfl, rfl⟩
    · go_wp2_with fail
      go_meet
      exact ⟨rfl, rfl⟩
    · go_wp2_with fail
      go_meet
      exact ⟨rfl, rfl⟩
    · go_wp2_with fail
      go_meet
      exact ⟨rfl, rfl⟩
  case rest =>
    obtain ⟨rfl, hwx⟩ := hcut
    subst hwx
    clear h3 k3 k4
    have HMAY := Lib.hid (hmay_parts HOK.out.may)
    have HLOW : Hid (∀ wx, Below w1.heap.size w1 wx → Calls Try.prog 61 #[.pointer (some ⟨B, 0, none⟩)] wx fun e w' => e = .returned (.int .i64 s.dn) ∧ wx = w') := Lib.hid (fun wx hx => by
      have hI := HI1.out.below hx
      obtain ⟨m1, m2, m3, m4, m5, m6⟩ := HMAY.out
      exact low_any wx B bm K s.room s.taken s.stop s.ended (mapOf s) s.dn hI.1 hI.2 HOK.out.t0 HOK.out.t1 m2 (fun x g1 g2 => (mapOf_some (by have := HOK.out.t0; omega)).2 (.inl g2)) ((mapOf_none m1).2 (fun g => by
        rcases g with g | g
        · omega
        · have := ch_in _ _ m4 _ g; omega)))
    go_upto_region 8 with fail
    go_upto_if 67 with fail
    obtain ⟨dn, hdn⟩ : ∃ q, q = s.dn := ⟨_, rfl⟩
    have HDN := Lib.hid hdn
    rw [← hdn] at HLOW
    clear hdn
    have k1 := HI1.out.1.cell 1 (.map (some bm)) rfl
    go_cut [6] (fun v wx => Below w1.heap.size w1 wx ∧ ¬ (fin = true ∧ (tt < dn ∨ ∃ r ∈ s.bt, tt < r.2)))
    case first =>
      have hfc : fin = false ∨ fin = true := by cases fin <;> simp
      rcases hfc with rfl | rfl
      · go_wp2_with fail
        go_meet
        exact ⟨Below.refl _ _, fun g => by cases g.1⟩
      · have H10 : Hid ((tt < dn ∨ ∃ r ∈ s.bt, tt < r.2) → arrive s a = (10, s)) := Lib.hid (fun q => by rw [HAT.out, if_pos ⟨rfl, by rw [← HDN.out]; exact q⟩])
        by_cases g : tt < dn
        · have HR : Hid (arrive s a = (10, s)) := Lib.hid (H10.out (.inl g))
          clear HAT
          go_wp2_with (go_at_call 61; (refine (HLOW.out w1 (Below.refl _ _)).mono ?_); rintro e w' ⟨rfl, rfl⟩)
          go_ret
          exact arr_same HI.out HR.out HB1.out
        · have HI1' := HI1.out.2
          obtain ⟨D, hown, hsays⟩ := HI1'
          have HSY := Lib.hid hsays
          have HG := Lib.hid g
          go_wp2_with (first
            | (go_at_call 61; (refine (HLOW.out w1 (Below.refl _ _)).mono ?_); rintro e w' ⟨rfl, rfl⟩)
            | (at_range; refine wpList_range_own _ rfl _ _ rfl 3 5 lawI Try.underlying119 _ bm K D rfl hown ?_; intro w0 hrg0 hg0 hs0))
          go_frame
          obtain ⟨qi, hqi⟩ : ∃ q, q = w1.heap.size := ⟨_, rfl⟩
          rw [← hqi] at hrg0 ⊢
          have HRG0 := Lib.hid hrg0
          have HBR0 : Hid (Below w1.heap.size w1 w0) := Lib.hid ((Below.refl _ _).grown hg0 (Nat.le_refl _) (fun j hj => by cases hj))
          have HQI := Lib.hid hqi
          clear hrg0 hg0 hown hsays hqi
          go_loopw [6] (fun _ wr => RngI w1 bm qi K s tt wr) (fun _ wr => wr.rangeLeft bm qi)
          case atStart => exact ⟨D, _, _, HRG0.out, HSY.out, (fun x hx hm hl => by rw [(HSY.out x hx).1, hm] at hl; cases hl), HBR0.out⟩
          case round =>
            obtain ⟨D', left, cnt, hrg, hsy, hinv, hbw⟩ := hrel
            have HRG := Lib.hid hrg
            have HSD := Lib.hid hsy
            have HINV := Lib.hid hinv
            have HBR := Lib.hid hbw
            clear hsy hinv hbw
            go_wp2_with (at_next; refine wpList_next_ranges_ii _ rfl _ rfl 3 5 .i64 .u8 lawI Try.underlying3 Try.underlying5 bm qi K D' left cnt rfl hrg ?_ ?_)
            · intro _ hl0
              have hno : ¬ (true = true ∧ (tt < dn ∨ ∃ r ∈ s.bt, tt < r.2)) := by
                rintro ⟨-, q | ⟨r, hr, q⟩⟩
                · exact absurd q (by have := HG.out; omega)
                · obtain ⟨m1, m2, m3, m4, m5, m6⟩ := HMAY.out
                  have q1 := ch_lo _ _ m4 r hr
                  have q2 := m5 r hr
                  have := HINV.out (r.2 - 1) ⟨by omega, by omega⟩ ((mapOf_some (by omega)).2 (.inr ⟨r, hr, by omega, by omega⟩)) (hl0 _)
                  omega
              have HNO := Lib.hid hno
              clear hno hrg
              go_wp2_with fail
              go_meet
              exact ⟨HBR.out, HNO.out⟩
            · intro x c w4 cnt1 hwx hwc hlx hat hrg1 hlt hg1 hs1 hen
              have hix : i64in x := by
                simp [Lit.wf, IntKind.min, IntKind.max, IntKind.signed, IntKind.bits] at hwx
                exact ⟨by omega, by omega⟩
              have hmx : (mapOf s x).isSome = true := by rw [← (HSD.out x hix).1]; exact has_true_of_atKey hat
              have HB4 : Hid (Below w1.heap.size w1 w4) := Lib.hid (HBR.out.grown hg1 HBR.out.size (fun j hj => by cases hj; rw [HQI.out]; exact Nat.le_refl _))
              have HR1 := Lib.hid hrg1
              by_cases hge : tt ≤ x
              · have HR : Hid (arrive s a = (10, s)) := Lib.hid (by
                  refine H10.out (.inr ?_)
                  have h0x : 0 ≤ x := by
                    rcases Int.lt_or_le x 0 with q | q
                    · unfold mapOf at hmx; rw [if_neg (fun g => by omega)] at hmx; cases hmx
                    · exact q
                  rcases (mapOf_some h0x).1 hmx with q | ⟨r, hr, q1, q2⟩
                  · exact absurd q (by have := HG.out; have := HDN.out; omega)
                  · exact ⟨r, hr, by omega⟩)
                clear hrg hrg1 hat hmx HAT
                go_wp2_with fail
                go_ret
                exact arr_same HI.out HR.out (bthen HB1.out HB4.out)
              · have HNV : Hid (∀ y, i64in y → (mapOf s y).isSome = true → (left (.int .i64 y) && !(Lit.int .i64 y).sameKey (.int .i64 x)) = false → y < tt) := Lib.hid (fun y hy hm hl => by
                  by_cases e : y = x
                  · omega
                  · refine HINV.out y hy hm ?_
                    rw [sameKey_ne (ne_i e)] at hl
                    simpa using hl)
                have HM1 : Hid (w4.rangeLeft bm qi < wr.rangeLeft bm qi) := Lib.hid (by rw [hrg1.left_eq, HRG.out.left_eq]; exact hlt)
                clear hrg hrg1 hat hmx
                go_wp2_with fail
                go_roundw
                case rel => exact ⟨D', _, cnt1, HR1.out, HSD.out, HNV.out, HB4.out⟩
                case measure => exact HM1.out
    case rest =>
      obtain ⟨hbc, hno⟩ := hcut
      obtain ⟨w2, hw2⟩ : ∃ w2, w2 = wc := ⟨_, rfl⟩
      subst hw2
      have HB2 : Hid (Below w.heap.size w w2) := Lib.hid (bthen HB1.out hbc)
      rw [HDN.out] at hno
      rw [if_neg hno] at HAT
      have HI2 : Hid (Inl w2 B bm K s) := Lib.hid (HI1.out.below hbc)
      have HX2 : Hid (Bx 61 w2 q3 #[.int .i64 kd, .int .i64 at_, .slice A xn xc, .bool fin, .int .i64 ct]) := Lib.hid (HX1.out.below hbc)
      have HD2 : Hid (Ls byS w2 A a.data) := Lib.hid (HD.out.below HB2.out)
      have HLW2 : Hid (Calls Try.prog 61 #[.pointer (some ⟨B, 0, none⟩)] w2 fun e w' => e = .returned (.int .i64 dn) ∧ w2 = w') := Lib.hid (HLOW.out w2 hbc)
      have hlt2 : bm < w2.heap.size ∧ B < w2.heap.size ∧ q3 < w2.heap.size := ⟨HI2.out.2.lt, HI2.out.1.lt, HX2.out.lt⟩
      have HBM : Hid (bm < w.heap.size ∧ B < w.heap.size) := Lib.hid ⟨HI.out.2.lt, HI.out.1.lt⟩
      have hqb : q3 ≠ bm ∧ q3 ≠ B := by have := HBM.out; have := HQ3.out; omega
      clear hbc hno j1 j2 j3 lq lB k1 HLOW
      have j2 := HX2.out.cell 2 (.slice A xn xc) rfl
      have hat1 : 0 ≤ at_ ∧ at_ ≤ 1048576 := by omega
      go_upto_region 19 with (go_at_call 61; (refine HLW2.out.mono ?_); rintro e w' ⟨rfl, rfl⟩)
      clear j2
      go_loopw [8, 89] (fun fr i wr => FrI w2 bm K s a xn fr i wr) (fun _ i _ => xn - (intOf i).toNat)
      case atStart =>
        exact ⟨0, 0, none, 0, [], Nat.zero_le _, Nat.zero_le _, rfl, rfl, OwnL.nil _ _, HI2.out.2.congr (fun x _ => mapK_zero s a x), (fun x => ⟨fun h => by (cases h), fun h => by have h1 := h.1; have h2 := h.2.1; omega⟩), Only.refl _ _⟩
      case round =>
        obtain ⟨k, m, Af, cf, l, hk, hmk, rfl, rfl, hown, hmap, hfr, honly⟩ := hrel
        have HOF := Lib.hid hown
        have HMK := Lib.hid hmap
        have HFR := Lib.hid hfr
        have HON := Lib.hid honly
        clear hown hmap hfr honly
        by_cases hlt : k < xn
        · have hki : (k : Int) < (xn : Int) := by omega
          obtain ⟨ea, -⟩ := HEQ.out
          obtain ⟨nn, hnn⟩ : ∃ q, q = at_ + (k : Int) := ⟨_, rfl⟩
          have hna : a.at_ + (k : Int) = nn := by omega
          have en : IntKind.i64.wrap (at_ + (k : Int)) = nn := by rw [IntKind.wrap_i64]; omega
          have ek : IntKind.i64.wrap ((k : Int) + 1) = ((k + 1 : Nat) : Int) := by rw [IntKind.wrap_i64]; omega
          have hin : i64in nn := ⟨by omega, by omega⟩
          have hnb : 0 ≤ nn ∧ nn ≤ 1048640 := by omega
          obtain ⟨z, hz⟩ : ∃ z, a.data[k]? = some z := ⟨_, List.getElem?_eq_getElem (by rw [HN.out]; exact hlt)⟩
          have hzb := HBY.out z (List.mem_of_getElem? hz)
          have HXr : Hid (Bx 61 wr q3 #[.int .i64 kd, .int .i64 at_, .slice A xn xc, .bool fin, .int .i64 ct]) := Lib.hid ((HON.out.block q3 hlt2.2.2 hqb.1).trans HX2.out)
          have HBr : Hid (Bx 121 wr B (inC s.room bm s.taken s.stop s.ended)) := Lib.hid ((HON.out.block B hlt2.2.1 (fun e => hne e.symm)).trans HI2.out.1)
          have HDr := HD2.out.only HON.out (fun ad had e => (HA.out ad had (by omega)).1 e)
          obtain ⟨bA, oA, rfl, hbA, hcA⟩ := HDr.at k z hz
          have cA := hcA 0 (.int .u8 z) rfl
          simp only [byS, Nat.add_zero, Nat.mul_one] at cA
          have j1 := HXr.out.cell 1 (.int .i64 at_) rfl
          have j2 := HXr.out.cell 2 (.slice (some ⟨bA, oA, none⟩) xn xc) rfl
          have k0 := HBr.out.cell 0 (.int .i64 s.room) rfl
          have k1 := HBr.out.cell 1 (.map (some bm)) rfl
          have k2 := HBr.out.cell 2 (.int .i64 s.taken) rfl
          have lq := HXr.out.lt
          have lB := HBr.out.lt
          have hr1 := HOK.out.r1
          have hr2 := HOK.out.r2
          have ht0 := HOK.out.t0
          have ht1 := HOK.out.t1
          have hdm := HMAY.out.2.1
          have er : IntKind.i64.wrap (s.taken + s.room) = s.taken + s.room := by rw [IntKind.wrap_i64]; omega
          have HZ := Lib.hid hz
          have HNA := Lib.hid hna
          have HCA : Hid (∀ wx, Below wr.heap.size wr wx → wx.cell? ⟨bA, oA + k, none⟩ = some (.int .u8 z) ∧ bA < wx.heap.size) := Lib.hid (fun wx hx => ⟨(World.cell?_of_block (hx.block bA hbA)).trans cA, Nat.lt_of_lt_of_le hbA hx.size⟩)
          clear hcA HDr hz hna hnn ea
          by_cases hsome : (mapOf s nn).isSome = true
          · have hs : (mapK s a k nn).isSome = true := by rw [← HNA.out, mapK_at, HNA.out]; exact hsome
            have HSK : Hid (∀ x, (mapK s a (k + 1) x = mapK s a k x) ∧ (frC s a (k + 1) x ↔ frC s a k x)) := Lib.hid (mapK_skip (fun g => by rw [HNA.out] at g; rw [g.1] at hsome; cases hsome))
            clear hsome
            go_upto_region 23 with (at_lookup; refine wpList_look _ rfl _ _ rfl bm (K + k) (mapK s a k) rfl HMK.out nn hin rfl ?_; intro cc hcc; rw [hs]; clear hcc)
            go_quiet (fail)
            generalize hwd : World.drewN wr _ = wd
            have hbd : Below wr.heap.size wr wd := by rw [← hwd]; exact below_drewN (Below.refl _ _) _
            have HBD := Lib.hid hbd
            have HOD : Hid (OwnL inS 3 wd w2.heap.size Af m cf l) := Lib.hid (HOF.out.below hbd)
            have HND : Hid (Only (fun j => j = bm) w2 wd) := Lib.hid (HON.out.new hbd)
            clear hwd hbd
            have HMD : Hid (MapIs wd bm (K + (k + 1)) (mapK s a (k + 1))) := Lib.hid (((HMK.out.below HBD.out).mono (by omega)).congr (fun x _ => (HSK.out x).1))
            go_wp2_with fail
            exact ⟨⟨k + 1, m, Af, cf, l, by omega, by omega, rfl, rfl, HOD.out, HMD.out, (fun x => (HFR.out x).trans (HSK.out x).2.symm), HND.out⟩, by simp [intOf]; omega⟩
          · have hmn : mapOf s nn = none := by
              rcases hm : mapOf s nn with _ | v
              · rfl
              · rw [hm] at hsome; exact absurd rfl hsome
            have hs : (mapK s a k nn).isSome = false := by rw [← HNA.out, mapK_at, HNA.out, hmn]; rfl
            have hdn : dn ≤ nn := by
              rcases Int.lt_or_le nn dn with q | q
              · exact absurd (.inl (by rw [← HDN.out]; exact q)) ((mapOf_none hnb.1).1 hmn)
              · exact q
            have HMN := Lib.hid hmn
            clear hsome hmn
            by_cases hroom : nn < s.taken + s.room
            · have HST : Hid (∀ x, mapK s a (k + 1) x = (if x = a.at_ + k then some z else mapK s a k x)) := Lib.hid (mapK_step (by rw [HNA.out, ← HDN.out]; exact ⟨HMN.out, hdn, hroom⟩) HZ.out)
              have HFS : Hid (∀ x, frC s a (k + 1) x ↔ frC s a k x ∨ x = nn) := Lib.hid (fun x => by
                rw [frC_succ, HNA.out, ← HDN.out]
                exact ⟨fun g => g.imp id (fun g => g.1), fun g => g.imp id (fun g => by subst g; exact ⟨rfl, HMN.out, hdn, hroom⟩)⟩)
              go_upto_region 23 with (at_lookup; refine wpList_look _ rfl _ _ rfl bm (K + k) (mapK s a k) rfl HMK.out nn hin rfl ?_; intro cc hcc; rw [hs]; clear hcc)
              go_quiet (fail)
              generalize hwd : World.drewN wr _ = wd
              have hbd : Below wr.heap.size wr wd := by rw [← hwd]; exact below_drewN (Below.refl _ _) _
              have HBD := Lib.hid hbd
              have HOD : Hid (OwnL inS 3 wd w2.heap.size Af m cf l) := Lib.hid (HOF.out.below hbd)
              have HND : Hid (Only (fun j => j = bm) w2 wd) := Lib.hid (HON.out.new hbd)
              clear hwd hbd
              have HMD : Hid (MapIs wd.drew bm (K + k) (mapK s a k)) := Lib.hid (HMK.out.below (HBD.out.trans (Below.refl _ _).drew))
              have HXd := HXr.out.below HBD.out
              have HBd := HBr.out.below HBD.out
              obtain ⟨cA, lA⟩ := HCA.out wd HBD.out
              have j1 := HXd.cell 1 (.int .i64 at_) rfl
              have j2 := HXd.cell 2 (.slice (some ⟨bA, oA, none⟩) xn xc) rfl
              have k1 := HBd.cell 1 (.map (some bm)) rfl
              have lq := HXd.lt
              have lB := HBd.lt
              clear HXd HBd
              go_upto_region 24 with fail
              obtain ⟨w5, hrun, hm5, ho5, hs5⟩ := MapIs.store wd.drew HMD.out (by unfold maxLen; omega) nn hin z hzb.1 hzb.2
              have HM5 := Lib.hid hm5
              have HO5 := Lib.hid ho5
              clear hm5 ho5
              go_region
              have HO25 : Hid (Only (fun j => j = bm) w2 w5) := Lib.hid ((HND.out.new (Below.refl _ _).drew).trans HO5.out (fun j h => .inl h))
              have HOF5 : Hid (OwnL inS 3 w5 w2.heap.size Af m cf l) := Lib.hid (OwnL.only (HOD.out.below (Below.refl _ _).drew) HO5.out (fun q hq e => by have := (HOD.out.lt q hq).1; omega))
              have hz25 : w2.heap.size ≤ w5.heap.size := HO25.out.size
              have HFIN : Hid (∀ (A8 : Option Addr) (c8 : Nat) (w8 : World), OwnL inS 3 w8 w2.heap.size A8 (m + 1) c8 (l ++ [nn]) → Below w2.heap.size (w5.alloc (.cells #[.int .i64 nn] 3)) w8 → FrI w2 bm K s a xn (.slice A8 ((m + 1 : Nat) : Nat) c8) (.int .i64 ((k + 1 : Nat) : Int)) w8) := Lib.hid (fun A8 c8 w8 g1 g2 => by
                have hb58 : Below w2.heap.size w5 w8 := ((ba1 w5 _).mono hz25).trans g2
                refine ⟨k + 1, m + 1, A8, c8, _, by omega, by omega, rfl, rfl, g1, ?_, fun x => ?_, only_ge HO25.out hb58 (Nat.le_refl _)⟩
                · exact (HM5.out.heap (hb58.block bm hlt2.1)).congr (fun x _ => by rw [HST.out x, HNA.out]; rfl)
                · rw [List.mem_append, HFS.out x, HFR.out x, List.mem_singleton])
              clear hrun hs5 j1 j2 k1 cA lA
              go_wp2_with (at_builtin; refine wpList_appL (F := inS) rfl _ (.tmp 135) (.tmp 137) 45 rfl _ 8 Try.underlying45 inInfo rfl w2.heap.size Af m cf l rfl (HOF5.out.below (ba1 _ _)) (some ⟨w5.heap.size, 0, none⟩) 1 1 [nn] rfl (ls_new w5 _ _ _ rfl _ rfl) rfl (m + 1) rfl (by omega) (by omega) (by simp; omega) ?_; intro A8 c8 w8 ho8 hb8 hs8; have HO8 := Lib.hid ho8; have HB8 := Lib.hid hb8; clear ho8 hb8 hs8)
              exact ⟨HFIN.out A8 c8 w8 HO8.out HB8.out, by simp [intOf]; omega⟩
            · have HSK : Hid (∀ x, (mapK s a (k + 1) x = mapK s a k x) ∧ (frC s a (k + 1) x ↔ frC s a k x)) := Lib.hid (mapK_skip (fun g => by rw [HNA.out] at g; exact hroom g.2.2))
              go_upto_region 23 with (at_lookup; refine wpList_look _ rfl _ _ rfl bm (K + k) (mapK s a k) rfl HMK.out nn hin rfl ?_; intro cc hcc; rw [hs]; clear hcc)
              go_quiet (fail)
              generalize hwd : World.drewN wr _ = wd
              have hbd : Below wr.heap.size wr wd := by rw [← hwd]; exact below_drewN (Below.refl _ _) _
              have HBD := Lib.hid hbd
              have HOD : Hid (OwnL inS 3 wd w2.heap.size Af m cf l) := Lib.hid (HOF.out.below hbd)
              have HND : Hid (Only (fun j => j = bm) w2 wd) := Lib.hid (HON.out.new hbd)
              clear hwd hbd
              have HMD : Hid (MapIs wd bm (K + (k + 1)) (mapK s a (k + 1))) := Lib.hid (((HMK.out.below HBD.out).mono (by omega)).congr (fun x _ => (HSK.out x).1))
              go_wp2_with fail
              exact ⟨⟨k + 1, m, Af, cf, l, by omega, by omega, rfl, rfl, HOD.out, HMD.out, (fun x => (HFR.out x).trans (HSK.out x).2.symm), HND.out⟩, by simp [intOf]; omega⟩
        · obtain rfl : k = xn := by omega
          have hki : ¬ (k : Int) < (k : Int) := by omega
          obtain ⟨w5, hw5⟩ : ∃ w5, w5 = wr := ⟨_, rfl⟩
          subst hw5
          have c1f : ¬ (a.at_ < 0 ∨ 1048576 - (a.data.length : Int) ≤ a.at_) := by rw [← HEQ.out.1, HN.out]; exact H1.out
          have hpf := put_facts HOK.out a c1f
          have HMP : Hid (∀ x, mapK s a k x = mapOf (putR s a (fits s a)) x) := Lib.hid (fun x => by have := mapK_put HOK.out a c1f x; rw [HN.out] at this; exact this.symm)
          have HAT2 : Hid (arrive s a = if 16 < (putR s a (fits s a)).bt.length then (9, s) else (0, putR s a (fits s a))) := Lib.hid HAT.out
          have hpe : (putR s a (fits s a)).room = s.room ∧ (putR s a (fits s a)).taken = s.taken ∧ (putR s a (fits s a)).stop = (if fin then tt else s.stop) ∧ (putR s a (fits s a)).ended = (s.ended || fin) := by
            refine ⟨rfl, rfl, ?_, by rw [HEQ.out.2]; rfl⟩
            show (if a.fin then a.at_ + a.data.length else s.stop) = _
            rw [← HEQ.out.2, ← HEQ.out.1, HN.out, HTT.out]
          obtain ⟨p, hp⟩ : ∃ p, p = putR s a (fits s a) := ⟨_, rfl⟩
          rw [← hp] at hpf HMP HAT2 hpe
          have HPE := Lib.hid hpe
          have hlt5 : bm < w5.heap.size ∧ B < w5.heap.size ∧ q3 < w5.heap.size := ⟨Nat.lt_of_lt_of_le hlt2.1 HON.out.size, Nat.lt_of_lt_of_le hlt2.2.1 HON.out.size, Nat.lt_of_lt_of_le hlt2.2.2 HON.out.size⟩
          have HX5 : Hid (Bx 61 w5 q3 #[.int .i64 kd, .int .i64 at_, .slice A k xc, .bool fin, .int .i64 ct]) := Lib.hid ((HON.out.block q3 hlt2.2.2 hqb.1).trans HX2.out)
          have HB5 : Hid (Bx 121 w5 B (inC s.room bm s.taken s.stop s.ended)) := Lib.hid ((HON.out.block B hlt2.2.1 (fun e => hne e.symm)).trans HI2.out.1)
          obtain ⟨cn, hcn⟩ : ∃ cn, cn = p.bt.length := ⟨_, rfl⟩
          have HRG : Hid (Calls Try.prog 63 #[.pointer (some ⟨B, 0, none⟩)] w5 fun e w' => ∃ A c, e = .returned (.slice A cn c) ∧ Below w5.heap.size w5 w') := Lib.hid (by
            obtain ⟨f1, f2, f3, f4, f5⟩ := hpf
            rw [hcn]
            refine (ranges_any w5 B bm (K + k) s.room s.taken s.stop s.ended (mapK s a k) p.dn p.bt HB5.out HMK.out HOK.out.t0 f1 f2 f3 HOK.out.r1 HOK.out.r2 f4 f5 (fun x h0 => by rw [HMP.out x]; exact mapOf_some h0)).mono ?_
            rintro e w' ⟨A, c, g1, -, g3⟩
            exact ⟨A, c, g1, g3⟩)
          rw [← hcn] at HAT2
          clear hpf hpe hp hcn c1f
          by_cases h16 : 16 < cn
          · have HR : Hid (arrive s a = (9, s)) := Lib.hid (by rw [HAT2.out, if_pos h16])
            have g16 : (16 : Int) < (cn : Int) := by omega
            go_upto_region 29 with (go_at_call 63; (refine HRG.out.mono ?_); rintro e w6 ⟨A6, c6, rfl, hb6⟩; have HB6 := Lib.hid hb6; clear hb6)
            go_loopw [146] (fun i wr => DlI w6 bm (K + k) s a k m l i wr) (fun i _ => m - (intOf i).toNat)
            case atStart => exact ⟨0, Nat.zero_le _, rfl, (HMK.out.below HB6.out).congr (fun x _ => by simp), Only.refl _ _⟩
            case round =>
              obtain ⟨j, hj, rfl, hmj, hoj⟩ := hrel
              have HMJ := Lib.hid hmj
              have HOJ := Lib.hid hoj
              clear hmj hoj
              have hlt6 : bm < w6.heap.size ∧ B < w6.heap.size := ⟨Nat.lt_of_lt_of_le hlt5.1 HB6.out.size, Nat.lt_of_lt_of_le hlt5.2.1 HB6.out.size⟩
              have HBj : Hid (Bx 121 wr B (inC s.room bm s.taken s.stop s.ended)) := Lib.hid ((HOJ.out.block B hlt6.2 (fun e => hne e.symm)).trans (HB5.out.below HB6.out))
              by_cases hjm : j < m
              · have hji : (j : Int) < (m : Int) := by omega
                have ej : IntKind.i64.wrap ((j : Int) + 1) = ((j + 1 : Nat) : Int) := by rw [IntKind.wrap_i64]; omega
                obtain ⟨x0, hx0⟩ : ∃ x, l[j]? = some x := ⟨_, List.getElem?_eq_getElem (by rw [HOF.out.1]; exact hjm)⟩
                have hfr := (HFR.out x0).1 (List.mem_of_getElem? hx0)
                have hin : i64in x0 := by
                  have q1 := hfr.1
                  have q2 := hfr.2.1
                  rw [← HEQ.out.1] at q1 q2
                  exact ⟨by omega, by omega⟩
                have HF0 : Hid (mapOf s x0 = none) := Lib.hid hfr.2.2.1
                have hofj : OwnL inS 3 wr w2.heap.size Af m cf l := OwnL.only (HOF.out.below HB6.out) HOJ.out (fun q hq e => by have := (HOF.out.lt q hq).1; omega)
                obtain ⟨bf, of, rfl, hbf, hcf⟩ := hofj.ls.at j x0 hx0
                have cf0 := hcf 0 (.int .i64 x0) rfl
                simp only [inS, Nat.add_zero, Nat.mul_one] at cf0
                have k1 := HBj.out.cell 1 (.map (some bm)) rfl
                have lB := HBj.out.lt
                have HTJ : Hid (∀ x, x ∈ l.take (j + 1) ↔ x ∈ l.take j ∨ x = x0) := Lib.hid (fun x => by rw [List.take_add_one, hx0, List.mem_append]; simp)
                have HFI : Hid (∀ w7, MapIs w7 bm (K + k) (upd (fun x => if x ∈ l.take j then mapOf s x else mapK s a k x) x0 none) → Only (fun q => q = bm) wr w7 → DlI w6 bm (K + k) s a k m l (.int .i64 ((j + 1 : Nat) : Int)) w7) := Lib.hid (fun w7 g1 g2 =>
                  ⟨j + 1, by omega, rfl, g1.congr (fun x _ => by
                    show (if x ∈ l.take (j + 1) then mapOf s x else mapK s a k x) = (if x = x0 then none else (if x ∈ l.take j then mapOf s x else mapK s a k x))
                    by_cases e : x = x0
                    · rw [if_pos ((HTJ.out x).2 (.inr e)), if_pos e, e, HF0.out]
                    · rw [if_neg e]
                      by_cases e2 : x ∈ l.take j
                      · rw [if_pos e2, if_pos ((HTJ.out x).2 (.inl e2))]
                      · rw [if_neg e2, if_neg (fun g => ((HTJ.out x).1 g).elim e2 e)]), HOJ.out.trans g2 (fun q h => .inl h)⟩)
                clear hcf hofj hx0 hfr
                go_wp2_with (at_delete; refine wpList_del _ rfl _ _ rfl bm (K + k) _ rfl HMJ.out x0 hin rfl ?_; intro w7 hm7 ho7 hs7; have HF7 := Lib.hid (HFI.out w7 hm7 ho7); clear hm7 ho7 hs7)
                exact ⟨HF7.out, by simp [intOf]; omega⟩
              · obtain rfl : j = m := by omega
                have hji : ¬ (j : Int) < (j : Int) := by omega
                go_wp2_with fail
                go_ret
                have HMF : MapIs wr bm (K + k) (mapOf s) := HMJ.out.congr (fun x _ => by
                  have hl : l.take j = l := List.take_of_length_le (by rw [HOF.out.1]; exact Nat.le_refl _)
                  show mapOf s x = if x ∈ l.take j then mapOf s x else mapK s a k x
                  rw [hl]
                  by_cases e : x ∈ l
                  · rw [if_pos e]
                  · rw [if_neg e]
                    unfold mapK
                    rw [if_neg (fun g => e ((HFR.out x).2 g))])
                refine ⟨by rw [HR.out]; rfl, by rw [HR.out]; exact ⟨HBj.out, HMF.mono (by omega)⟩, ?_⟩
                exact ((((Only.mono (S := fun _ => False) (only_new HB2.out) (fun _ h => h.elim)).trans HON.out (fun q h => .inl (.inr h))).new HB6.out).trans HOJ.out (fun q h => .inl (.inr h)))
          · have HR : Hid (arrive s a = (0, p)) := Lib.hid (by rw [HAT2.out, if_neg h16])
            have g16 : ¬ (16 : Int) < (cn : Int) := by omega
            go_upto_region 34 with (go_at_call 63; (refine HRG.out.mono ?_); rintro e w6 ⟨A6, c6, rfl, hb6⟩; have HB6 := Lib.hid hb6; clear hb6)
            have hx6 := HX5.out.below HB6.out
            have hb6 := HB5.out.below HB6.out
            have HB6x := Lib.hid hb6
            have j3 := hx6.cell 3 (.bool fin) rfl
            have lq := hx6.lt
            have lB := hb6.lt
            have k3 := hb6.cell 3 (.int .i64 s.stop) rfl
            have k4 := hb6.cell 4 (.bool s.ended) rfl
            have f3 := hb6.soft 3
            have f4 := hb6.soft 4
            have HM6 : Hid (MapIs w6 bm (K + k) (mapOf p)) := Lib.hid ((HMK.out.below HB6.out).congr (fun x _ => (HMP.out x).symm))
            have HO6 : Hid (Only (fun q => q = B ∨ q = bm) w w6) := Lib.hid (((Only.mono (S := fun _ => False) (only_new HB2.out) (fun _ h => h.elim)).trans HON.out (fun q h => .inl (.inr h))).new HB6.out)
            have hfc : fin = false ∨ fin = true := by cases fin <;> simp
            obtain ⟨e1', e2', e3', e4'⟩ := HPE.out
            clear hx6 hb6
            rcases hfc with hf | hf
            · have HIN : Hid (Inl w6 B bm (K + 64) p) := Lib.hid ⟨by rw [e1', e2', e3', e4', hf]; simpa using HB6x.out, HM6.out.mono (by omega)⟩
              clear e1' e2' e3' e4'
              subst hf
              go_wp2_with fail
              go_ret
              exact ⟨by rw [HR.out]; rfl, by rw [HR.out]; exact HIN.out, HO6.out⟩
            · have HIN : Hid (Inl ((w6.setCell ⟨B, 4, none⟩ (.bool true)).setCell ⟨B, 3, none⟩ (.int .i64 tt)) B bm (K + 64) p) := Lib.hid ⟨by
                  rw [e1', e2', e3', e4', hf]
                  have := (HB6x.out.set 4 (.bool true)).set 3 (.int .i64 tt)
                  simp only [Bool.or_true, if_true]
                  exact this, ((HM6.out.heap (Below.heap_setCell _ _ _ _ (fun e => hne e))).heap (Below.heap_setCell _ _ _ _ (fun e => hne e))).mono (by omega)⟩
              have HO7 : Hid (Only (fun q => q = B ∨ q = bm) w ((w6.setCell ⟨B, 4, none⟩ (.bool true)).setCell ⟨B, 3, none⟩ (.int .i64 tt))) := Lib.hid ((HO6.out.setCell (.inl (.inl rfl)) _).setCell (.inl (.inl rfl)) _)
              clear e1' e2' e3' e4'
              subst hf
              go_wp2_with fail
              go_ret
              exact ⟨by rw [HR.out]; rfl, by rw [HR.out]; exact HIN.out, HO7.out⟩

end Go.Proofs.Ytehckiihipnimaa
