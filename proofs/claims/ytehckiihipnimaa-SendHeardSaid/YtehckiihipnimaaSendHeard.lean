/-
  The walk of SendHeard.
-/
import Derived.Test.YtehckiihipnimaaDeeds
import Derived.Test.YtehckiihipnimaaSender
import Derived.Test.YtehckiihipnimaaSendHeardMath
import Derived.Test.YtehckiihipnimaaSendAll
namespace Go.Proofs.Ytehckiihipnimaa
open Go.RowKit
set_option linter.unusedVariables false
set_option linter.unusedSimpArgs false

/-- a list of counts -/
def nmS : Shape Nat := { cells := fun z => [.int .i64 z], size := 1, len := fun _ => rfl, pos := by decide, one := by intro x u hu; simp at hu; subst hu; rfl }
theorem nmInfo : (Try.prog.info? 3).map (fun i => (i.zero, i.size, i.bytes)) = some (some (.int .i64 0), nmS.size, 8) := by kernel_rfl

theorem grow_app2 {wd we w8 : World} {A A8 : Option Addr} {n m c c8 : Nat} {xs ys : List Dv} (hd : DEI wd (fun j => (Value.slice A n c).ownBlock = some j) xs) (hbe : Below wd.heap.size wd we) (hy : DEI we (fun j => (Value.slice A n c).ownBlock = some j) ys) {base : Nat} (hb : Below base we w8) (hs : Beside (.slice A n c) (.slice A8 m c8) we w8) :
    DEI w8 (fun j => (Value.slice A8 m c8).ownBlock = some j) (xs ++ ys) :=
  DEI.only (fun x hx => (List.mem_append.1 hx).elim (fun h => hd.new hbe x h) (fun h => hy x h)) (hs.only hb) (fun j hj => .inl hj) (fun j hj => hs.own j hj)

/-- how far the law has come: of j polls it has seen what each told -/
def OutX (w10 : World) (n : Nat) (s : Sd) (iv : Value) (wr : World) : Prop :=
  ∃ j : Nat, j ≤ 12 ∧ iv = .int .i64 ((13 + j : Nat) : Int) ∧ Wh nmS 3 wr w10.heap.size (rowS (iter s j) n) ∧ Below w10.heap.size w10 wr
def InX (w10 : World) (n : Nat) (s : Sd) (a m : Nat) (iv : Value) (wr : World) : Prop :=
  ∃ i : Nat, i ≤ m ∧ iv = .int .i64 (i : Int) ∧ Wh nmS 3 wr w10.heap.size (rowI s n a i) ∧ Below w10.heap.size w10 wr

set_option maxRecDepth 100000 in
set_option maxHeartbeats 8000000 in
theorem walkSendHeard (B : Option Addr) (nb cb : Nat) (zs : List Int) (a b g : Int) (w : World) (hz : Ls byS w B zs) (hzn : zs.length = nb) (hzc : nb ≤ cb) (hzr : cb ≤ 140737488351232) (hzb : ∀ z ∈ zs, 0 ≤ z ∧ z ≤ 255)
    (a1 : -9223372036854775808 ≤ a) (a2 : a ≤ 9223372036854775807) (b1 : -9223372036854775808 ≤ b) (b2 : b ≤ 9223372036854775807) (g1 : -9223372036854775808 ≤ g) (g2 : g ≤ 9223372036854775807) :
    Calls Try.prog 6 #[.slice B nb cb, .int .i64 a, .int .i64 b, .int .i64 g] w fun e w' => e = .returned (.bool true) ∧ Below w.heap.size w w' := by
  have HZ := Lib.hid hz
  have HZN := Lib.hid hzn
  obtain ⟨mm, hmm⟩ : ∃ q, q = min nb 200 := ⟨_, rfl⟩
  have HMM := Lib.hid hmm
  have hmm2 : mm ≤ 200 := by omega
  obtain ⟨n, hn⟩ : ∃ q, q = mm + 3 := ⟨_, rfl⟩
  have HNN := Lib.hid hn
  have hn3 : 3 ≤ n ∧ n ≤ 203 := by omega
  obtain ⟨f, hf, hf2⟩ := pick_nat a n (by omega)
  obtain ⟨q, hq, hq2⟩ := pick_nat b ((n : Int) - (f : Int)) (by omega)
  obtain ⟨k, hk, hk2⟩ := pick_nat g ((n : Int) + 1) (by omega)
  obtain ⟨t, ht⟩ : ∃ t, t = f + 1 + q := ⟨_, rfl⟩
  have ht2 : f < t ∧ t ≤ n := by omega
  have e1 : IntKind.i64.wrap ((f : Int) + 1) = ((f + 1 : Nat) : Int) := by rw [IntKind.wrap_i64]; omega
  have e2 : IntKind.i64.wrap ((n : Int) - (f : Int)) = (n : Int) - (f : Int) := by rw [IntKind.wrap_i64]; omega
  have e3 : IntKind.i64.wrap (((f + 1 : Nat) : Int) + (q : Int)) = (t : Int) := by rw [IntKind.wrap_i64]; omega
  have e4 : IntKind.i64.wrap ((n : Int) + 1) = (n : Int) + 1 := by rw [IntKind.wrap_i64]; omega
  have HT := Lib.hid ht
  clear hz hzn hmm hzb hn ht
  go_enter Try.func6, Try.ntmps6
  go_upto_region 6 with (first
    | (go_at_call 24; refine (octets_any B nb cb 200 mm zs w HZ.out HZN.out hzc (by omega) (by omega) HMM.out).mono ?_; rintro e w1 ⟨A1, c1, rfl, ho1, hb1⟩; have HO1 := Lib.hid ho1; have HB1 := Lib.hid hb1; clear ho1 hb1)
    | (at_builtin; refine wpList_appL (F := byS) rfl _ (.tmp 28) (.tmp 29) 27 rfl _ 1 Try.underlying27 byInfo rfl w.heap.size A1 mm c1 _ rfl (HO1.out.below (ba1 _ _)) (some ⟨w1.heap.size, 0, none⟩) 3 3 [1, 2, 3] rfl (ls_new w1 _ _ _ rfl _ rfl) rfl n HNN.out.symm (by omega) (by omega) (by have := HB1.out.size; simp; omega) ?_; intro A2 c2 w2 ho2 hb2 _; have HO2 := Lib.hid ho2; have HB2 : Hid (Below w.heap.size w w2) := Lib.hid ((bthen HB1.out (ba1 _ _)).trans hb2); clear ho2 hb2)
    | (go_at_call 20; (with_reducible refine (picked_n a (n : Int) f _ hf a1 a2 (by omega) (by omega)).mono ?_); rintro e w' ⟨rfl, rfl⟩)
    | (go_at_call 20; (with_reducible refine (picked_n b ((n : Int) - (f : Int)) q _ hq b1 b2 (by omega) (by omega)).mono ?_); rintro e w' ⟨rfl, rfl⟩)
    | (go_at_call 20; (with_reducible refine (picked_n g ((n : Int) + 1) k _ hk g1 g2 (by omega) (by omega)).mono ?_); rintro e w' ⟨rfl, rfl⟩))
  rw [show (f : Int) + 1 + (q : Int) = (t : Int) by have := HT.out; omega]
  obtain ⟨z, hz⟩ : ∃ z, z = zs.take mm ++ [1, 2, 3] := ⟨_, rfl⟩
  rw [← hz] at HO2
  have HZ3 : Hid (z.length = n) := Lib.hid HO2.out.1
  obtain ⟨x1, hx1⟩ : ∃ x, x = [(⟨⟨1, z, 0, 0, []⟩, A2, n, c2, none, 0, 0⟩ : Dv)] := ⟨_, rfl⟩
  have HX1 := Lib.hid hx1
  clear hz hf hq hk e1 e2 e3 e4
  go_upto_region 7 with fail
  obtain ⟨w3, hw3⟩ : ∃ w3, w3 = w2.alloc (.cells #[.int .i64 1, .slice A2 n c2, .int .i64 0, .int .i64 0, .slice none 0 0] 39) := ⟨_, rfl⟩
  obtain ⟨q3, hq3⟩ : ∃ q, q = w2.heap.size := ⟨_, rfl⟩
  have HO3 : Hid (OwnL deS 39 w3 w2.heap.size (some ⟨q3, 0, none⟩) (1 + 0) 1 x1) := Lib.hid (by
    rw [hw3, hx1, hq3]
    exact ownL_new w2 w2.heap.size (Nat.le_refl _) _ 1 _ rfl rfl (by omega) _ rfl)
  have HB3 : Hid (Below w2.heap.size w2 w3) := Lib.hid (by rw [hw3]; exact ba1 _ _)
  have HE3 : Hid (DEI w3 (fun j => (Value.slice (some ⟨q3, 0, none⟩) (1 + 0) 1).ownBlock = some j) x1) := Lib.hid (by
    rw [hw3, hx1]
    intro x hx
    simp at hx
    subst hx
    refine ⟨(HO2.out.below (ba1 _ _)).ls, HZ3.out, Ls.nil _ _, rfl, by simp only; omega, by simp, clear_of_own HO2.out.2 (fun j hj => .inr ?_), Clear.none _⟩
    rcases hj with hj | hj
    · injection hj with hj; simp only at hj; omega
    · simp only [World.size_alloc] at hj; omega)
  rw [← hw3, ← hq3]
  clear hw3 hq3 hx1
  go_wp2_with fail
  go_loopw [14, 15] (fun o i wr => GroX w2 x1 1 10 3 o i wr) (fun _ i _ => 10 - (intOf i).toNat)
  case atStart => exact ⟨0, some ⟨q3, 0, none⟩, 1, by omega, rfl, rfl, by simpa using HO3.out, by simpa using HE3.out, HB3.out⟩
  case round =>
    obtain ⟨j, A4, c4, hj, rfl, rfl, hown, hei, hbw⟩ := hrel
    have HOW := Lib.hid hown
    have HEI := Lib.hid hei
    have HBW := Lib.hid hbw
    clear hown hei hbw
    by_cases hlt : j < 10
    · have hki : (j : Int) < 10 := by omega
      go_wp2_with (at_builtin; refine wpList_appL (F := deS) rfl _ (.tmp 55) (.tmp 57) 22 rfl _ 72 Try.underlying22 deInfo rfl w2.heap.size A4 (1 + j) c4 _ rfl (HOW.out.below (ba1 _ _)) (some ⟨wr.heap.size, 0, none⟩) 1 1 [plainD 3] rfl (ls_new wr _ _ _ rfl _ rfl) rfl (1 + j + 1) rfl (by omega) (by omega) (by have := HBW.out.size; simp; omega) ?_; intro A8 c8 w8 ho8 hb8 hs8; have HO8 := Lib.hid ho8; have HB8 := Lib.hid hb8; have HS8 := Lib.hid hs8; clear ho8 hb8 hs8)
      have hrep : x1 ++ List.replicate (j + 1) (plainD 3) = (x1 ++ List.replicate j (plainD 3)) ++ [plainD 3] := by rw [List.replicate_succ', List.append_assoc]
      refine ⟨⟨j + 1, A8, c8, by omega, by go_num, rfl, by rw [hrep]; exact HO8.out, by rw [hrep]; exact grow_app HEI.out (plainD_in _ _ _) _ HB8.out HS8.out, (HBW.out.trans ((ba1 wr _).mono HBW.out.size)).trans (HB8.out.mono (Nat.le_refl _))⟩, by simp [intOf]; omega⟩
    · obtain rfl : j = 10 := by omega
      obtain ⟨x2, hx2⟩ : ∃ x, x = x1 ++ List.replicate 10 (plainD 3) := ⟨_, rfl⟩
      rw [← hx2] at HOW HEI
      obtain ⟨y, hy⟩ : ∃ y, y = [(⟨⟨2, [], (k : Int), 0, [((f : Int), (t : Int))]⟩, none, 0, 0, some ⟨wr.heap.size, 0, none⟩, 1, 1⟩ : Dv), plainD 4] := ⟨_, rfl⟩
      go_wp2_with (at_builtin; refine wpList_appL (F := deS) rfl _ (.tmp 59) (.tmp 67) 22 rfl _ 72 Try.underlying22 deInfo rfl w2.heap.size A4 11 c4 x2 rfl (HOW.out.below (ba2 _ _ _)) (some ⟨wr.heap.size + 1, 0, none⟩) 2 2 y rfl (ls_new _ _ y _ (by rw [hy]; rfl) _ (by simp)) (by rw [hy]; rfl) 13 rfl (by omega) (by omega) (by have := HBW.out.size; simp; omega) ?_; intro A8 c8 w8 ho8 hb8 hs8; have HO8 := Lib.hid ho8; have HB8 := Lib.hid hb8; have HS8 := Lib.hid hs8; clear ho8 hb8 hs8)
      have HE8 : Hid (DEI w8 (fun j => (Value.slice A8 13 c8).ownBlock = some j) (x2 ++ y)) := Lib.hid (by
        refine grow_app2 HEI.out (ba2 _ _ _) ?_ HB8.out HS8.out
        rw [hy]
        intro x hx
        simp at hx
        rcases hx with rfl | rfl
        · refine ⟨Ls.nil _ _, rfl, (ls_new wr _ _ _ rfl _ rfl).below (ba1 _ _), rfl, by simp, by simp, Clear.none _, ?_⟩
          intro q hq hc
          injection hq with hq
          subst hq
          rcases hc with hc | hc
          · have := HOW.out.lt _ hc; simp only at this; omega
          · simp at hc; omega
        · exact plainD_in _ _ _)
      have HBW8 : Hid (Below w2.heap.size w2 w8) := Lib.hid ((HBW.out.trans ((ba2 wr _ _).mono HBW.out.size)).trans (HB8.out.mono (Nat.le_refl _)))
      obtain ⟨x3, hx3⟩ : ∃ x, x = x2 ++ y := ⟨_, rfl⟩
      rw [← hx3] at HO8 HE8
      have HX3 := Lib.hid hx3
      have HX2 := Lib.hid hx2
      have HY := Lib.hid hy
      clear hx3 hx2 hy HOW HEI HB8 HS8
      go_loopw [14, 17] (fun o i wr => GroX w2 x3 13 12 3 o i wr) (fun _ i _ => 12 - (intOf i).toNat)
      case atStart => exact ⟨0, A8, c8, by omega, rfl, rfl, by simpa using HO8.out, by simpa using HE8.out, HBW8.out⟩
      case round =>
        obtain ⟨j, A5, c5, hj, rfl, rfl, hown, hei, hbw⟩ := hrel
        have HOW := Lib.hid hown
        have HEI := Lib.hid hei
        have HBW := Lib.hid hbw
        clear hown hei hbw
        by_cases hlt : j < 12
        · have hki : (j : Int) < 12 := by omega
          go_wp2_with (at_builtin; refine wpList_appL (F := deS) rfl _ (.tmp 75) (.tmp 77) 22 rfl _ 72 Try.underlying22 deInfo rfl w2.heap.size A5 (13 + j) c5 _ rfl (HOW.out.below (ba1 _ _)) (some ⟨wr.heap.size, 0, none⟩) 1 1 [plainD 3] rfl (ls_new wr _ _ _ rfl _ rfl) rfl (13 + j + 1) rfl (by omega) (by omega) (by have := HBW.out.size; simp; omega) ?_; intro A9 c9 w9 ho9 hb9 hs9; have HO9 := Lib.hid ho9; have HB9 := Lib.hid hb9; have HS9 := Lib.hid hs9; clear ho9 hb9 hs9)
          have hrep : x3 ++ List.replicate (j + 1) (plainD 3) = (x3 ++ List.replicate j (plainD 3)) ++ [plainD 3] := by rw [List.replicate_succ', List.append_assoc]
          refine ⟨⟨j + 1, A9, c9, by omega, by go_num, rfl, by rw [hrep]; exact HO9.out, by rw [hrep]; exact grow_app HEI.out (plainD_in _ _ _) _ HB9.out HS9.out, (HBW.out.trans ((ba1 wr _).mono HBW.out.size)).trans (HB9.out.mono (Nat.le_refl _))⟩, by simp [intOf]; omega⟩
        · obtain rfl : j = 12 := by omega
          obtain ⟨x4, hx4⟩ : ∃ x, x = x3 ++ List.replicate 12 (plainD 3) := ⟨_, rfl⟩
          rw [← hx4] at HOW HEI
          obtain ⟨y2, hy2⟩ : ∃ y, y = [(⟨⟨2, [], (n : Int), 0, []⟩, none, 0, 0, none, 0, 0⟩ : Dv), plainD 4, plainD 3] := ⟨_, rfl⟩
          go_wp2_with (first
            | (at_builtin; refine wpList_appL (F := deS) rfl _ (.tmp 79) (.tmp 84) 22 rfl _ 72 Try.underlying22 deInfo rfl w2.heap.size A5 25 c5 x4 rfl (HOW.out.below (ba1 _ _)) (some ⟨wr.heap.size, 0, none⟩) 3 3 y2 rfl (ls_new _ _ y2 _ (by rw [hy2]; rfl) _ (by simp)) (by rw [hy2]; rfl) 28 rfl (by omega) (by omega) (by have := HBW.out.size; simp; omega) ?_; intro A9 c9 w9 ho9 hb9 hs9
               have he9 := grow_app2 HEI.out (ba1 _ _) (ys := y2) (by rw [hy2]; intro x hx; simp at hx; rcases hx with rfl | rfl | rfl; (exact ⟨Ls.nil _ _, rfl, Ls.nil _ _, rfl, by simp, by simp, Clear.none _, Clear.none _⟩); (exact plainD_in _ _ _); (exact plainD_in _ _ _)) hb9 hs9
               have HO9 := Lib.hid ho9; have HE9 := Lib.hid he9; have HB9 : Hid (Below w2.heap.size w2 w9) := Lib.hid ((HBW.out.trans ((ba1 wr _).mono HBW.out.size)).trans (hb9.mono (Nat.le_refl _))); clear ho9 hb9 hs9 he9)
            | (go_at_call 22; refine (sender_any 1000 A9 28 c9 (x4 ++ y2) w9 (by omega) (by omega) (by omega) HO9.out.ls HO9.out.1 HE9.out.din _ rfl).mono ?_; unfold RetSr; rw [sent_len, List.length_map, HO9.out.1]; rintro e w10 ⟨A10, c10, l10, rfl, ho10, hm10, he10, hb10⟩; have HO10 := Lib.hid ho10; have HM10 := Lib.hid hm10; have HE10 := Lib.hid he10; have HB10 := Lib.hid hb10; clear ho10 hm10 he10 hb10)
            | (at_make; refine wpList_makeW (F := nmS) rfl w10 (.tmp 93) (.tmp 93) 45 rfl (.int .i64 0) 8 Try.underlying45 nmInfo (fun b => .int .i64 (b : Nat)) (fun _ => rfl) 0 rfl _ _ _ _ n rfl rfl rfl rfl (by omega) (by omega) ?_; intro w11 hw11 hb11 hs11; have HW11 := Lib.hid hw11; have HB11 := Lib.hid hb11; have hs11 := hs11; clear hw11 hb11))
          obtain ⟨s, hs, hok, hsent, hpl, hcl, hdat, htodo, hkl, hedge, hisl, hunk⟩ := heard_first z n k f t HZ3.out (by omega) (by omega) (by omega) (by omega)
          have hds : (x4 ++ y2).map Dv.d = ((subD z :: List.replicate 10 pollD) ++ [hrdD k [((f : Int), (t : Int))], tmoD]) ++ (List.replicate 12 pollD ++ [hrdD n [], tmoD, pollD]) := by
            rw [hx4, HX3.out, HX2.out, HX1.out, HY.out, hy2]
            simp [subD, hrdD, tmoD, pollD, plainD]
          have HDS := Lib.hid hds
          have HS := Lib.hid hs
          have HSO := Lib.hid (And.intro hok (And.intro hsent (And.intro hpl (And.intro hcl (And.intro hdat (And.intro htodo hkl))))))
          have HUN := Lib.hid hunk
          have HED := Lib.hid (And.intro hedge hisl)
          clear hds hs hok hsent hpl hcl hdat htodo hkl hunk hedge hisl hx4 hy2
          have HNT := Lib.hid ht2
          obtain ⟨T10, hT10⟩ : ∃ T, T = sent (sd0 1000) (((subD z :: List.replicate 10 pollD) ++ [hrdD k [((f : Int), (t : Int))], tmoD]) ++ (List.replicate 12 pollD ++ [hrdD n [], tmoD, pollD])) := ⟨_, rfl⟩
          have HT10 := Lib.hid hT10
          have HM11 : Hid (l10.map Sv.st = T10) := Lib.hid (by rw [HM10.out, HDS.out, hT10])
          have HMID : Hid (∀ j, j < 12 → T10[13 + j]? = some (deed (iter s j) pollD).1) := Lib.hid (fun j hj => by rw [hT10]; exact told_mid _ _ _ s 13 j 12 HS.out (by simp) hj)
          have HLAST : Hid (∃ x, T10[27]? = some x ∧ x.idle = true ∧ x.left = 0) := Lib.hid (by
            obtain ⟨h1, h2, h3, h4, h5, h6, h7⟩ := HSO.out
            obtain ⟨i1, i2, i3, i4, i5, i6, i7⟩ := iter_same h1 h2 h3 12
            obtain ⟨x, hx, hx1, hx2⟩ := heard_last n i1 i2 i3 (by rw [i7]; exact h7)
            refine ⟨x, ?_, hx1, hx2⟩
            have := told_end ((subD z :: List.replicate 10 pollD) ++ [hrdD k [((f : Int), (t : Int))], tmoD]) (sd0 1000) s 12 25 [hrdD n [], tmoD, pollD] HS.out (by simp) 2 (by simp)
            rw [hT10, show 27 = 25 + 2 from rfl, this, hx]; rfl)
          have HW0 : Hid (Wh nmS 3 w11 w10.heap.size (rowS (iter s 0) n)) := Lib.hid (by
            rw [show iter s 0 = s from rfl, row_first s n HSO.out.2.2.2.2.2.1]; exact HW11.out)
          clear hT10 hs11 ht2
          go_loopw [21] (fun iv wr => OutX w10 n s iv wr) (fun i _ => 25 - (intOf i).toNat)
          case atStart => exact ⟨0, by omega, rfl, HW0.out, HB11.out⟩
          case round =>
            obtain ⟨j, hj, rfl, hwr, hbr⟩ := hrel
            have HWR := Lib.hid hwr
            have HBR := Lib.hid hbr
            clear hwr hbr
            obtain ⟨nj, hnj⟩ : ∃ q, q = 13 + j := ⟨_, rfl⟩
            rw [← hnj]
            have HNJ := Lib.hid hnj
            by_cases hlt : j < 12
            · have hki : (nj : Int) < 25 := by omega
              have hnj28 : nj < 28 := by omega
              have hwn : IntKind.i64.wrap ((nj : Int) + 1) = ((nj + 1 : Nat) : Int) := by rw [IntKind.wrap_i64]; omega
              obtain ⟨sj, hsj⟩ : ∃ q, q = iter s j := ⟨_, rfl⟩
              rw [← hsj] at HWR
              obtain ⟨h1, h2, h3, h4, h5, h6, h7⟩ := HSO.out
              obtain ⟨i1, i2, i3, i4, i5, i6, i7⟩ := iter_same h1 h2 h3 j
              rw [← hsj] at i1 i2 i3 i4 i5 i6 i7
              obtain ⟨a, m, q1, q2, q3, q4, q5, q6, q7, q8⟩ := seen_step i1 (by rw [i2, i3]) (by rw [i4, h4])
              have ham : a + m ≤ n := by rw [i5, h5, HZ3.out] at q5; exact q5
              have HMj : Hid (T10[nj]? = some (deed sj pollD).1) := Lib.hid (by rw [hnj, hsj]; exact HMID.out j hlt)
              obtain ⟨p1', p2', p3'⟩ := told_poll sj
              have HQL : Hid ((deed sj pollD).1.data.length = m) := Lib.hid (by rw [p1', q1, q2])
              have HQA : Hid (0 < m → (deed sj pollD).1.at_ = (a : Int)) := Lib.hid (fun hm => by
                rw [p2']
                refine q3 ?_
                rcases hi : (polls sj).1.idle with _ | _
                · rfl
                · have := q4 hi; omega)
              have HEND : Hid (rowI sj n a m = rowS (iter s (j + 1)) n) := Lib.hid (by
                have e : iter s (j + 1) = (polls sj).2 := by rw [hsj]; rfl
                rw [e]
                exact rowI_end sj (polls sj).2 n a m q7 q8)
              clear h1 h2 h3 h4 h5 h6 h7 i1 i2 i3 i4 i5 i6 i7 q1 q2 q3 q4 q5 q6 q7 q8 p1' p2' p3' hsj hnj
              have hm203 : m ≤ 203 := by omega
              go_upto_region 26 with fail
              go_loopw [22] (fun iv wr => InX w10 n sj a m iv wr) (fun i _ => m - (intOf i).toNat)
              case atStart => exact ⟨0, by omega, rfl, by rw [rowI_zero]; exact HWR.out, HBR.out⟩
              case round =>
                obtain ⟨i, hi, rfl, hwi, hbi⟩ := hrel
                have HWI := Lib.hid hwi
                have HBI := Lib.hid hbi
                clear hwi hbi
                obtain ⟨y, hy, hye, hyd, hyn⟩ := told_at (HO10.out.below HBI.out) HM11.out (HE10.out.new HBI.out) nj _ HMj.out
                obtain ⟨bT, oT, rfl, hbt, hct⟩ := (HO10.out.below HBI.out).ls.at nj y hy
                obtain ⟨yst, yA, yn, yc⟩ := y
                simp only at hye hyn hyd
                have hym : yn = m := by rw [← hyn]; exact HQL.out
                subst hym
                have p1 := hct 1 (.int .i64 yst.at_) rfl
                have p2 := hct 2 (.slice yA yn yc) rfl
                simp only [seS, Nat.add_zero] at p1 p2
                rw [hye] at p1
                clear hct hy hye hyd hyn
                by_cases hil : i < yn
                · have hq : (deed sj pollD).1.at_ = (a : Int) := HQA.out (by omega)
                  rw [hq] at p1
                  obtain ⟨pp, hpp⟩ : ∃ q, q = a + i := ⟨_, rfl⟩
                  have hppn : pp < n := by omega
                  have e1 : IntKind.i64.wrap ((a : Int) + (i : Int)) = (pp : Int) := by rw [IntKind.wrap_i64]; omega
                  have e2 : ¬ (pp : Int) < 0 := by omega
                  have e3 : ¬ (n : Int) ≤ (pp : Int) := by omega
                  obtain ⟨v, hv⟩ : ∃ q, q = seenB sj sj.todo (a + i) := ⟨_, rfl⟩
                  have hv1 : v ≤ 1 := by rw [hv]; exact seenB_le _ _ _
                  have e4 : IntKind.i64.wrap ((v : Int) + 1) = ((v + 1 : Nat) : Int) := by rw [IntKind.wrap_i64]; omega
                  have hcl := HWI.out.cell (fun b => .int .i64 (b : Nat)) (fun _ => rfl) pp v (by rw [hpp, hv]; exact rowI_at _ _ _ _ (by omega))
                  have hsf := HWI.out.soft pp
                  have hlt2 := HWI.out.lt
                  have hil2 : (i : Int) < (yn : Int) := by omega
                  have e5 : IntKind.i64.wrap ((i : Int) + 1) = ((i + 1 : Nat) : Int) := by rw [IntKind.wrap_i64]; omega
                  have HV := Lib.hid hv
                  have HPP := Lib.hid hpp
                  clear hv hpp hq
                  go_wp2_with fail
                  refine ⟨⟨i + 1, by omega, by first | rfl | go_num, ?_, ?_⟩, by simp [intOf]; omega⟩
                  · rw [← rowI_step sj n a i (by omega), ← HV.out, ← HPP.out]
                    exact HWI.out.put (fun b => .int .i64 (b : Nat)) (fun _ => rfl) pp (v + 1)
                  · exact HBI.out.setCell (Nat.le_refl _) _
                · obtain rfl : i = yn := by omega
                  have hil2 : ¬ (i : Int) < (i : Int) := by omega
                  go_wp2_with fail
                  refine ⟨⟨j + 1, by omega, by (rw [show 13 + (j + 1) = nj + 1 by have := HNJ.out; omega]; first | rfl | go_num), by rw [← HEND.out]; exact HWI.out, HBI.out⟩, by simp [intOf]; omega⟩
            · obtain rfl : j = 12 := by omega
              have e25 : nj = 25 := by omega
              subst e25
              go_upto_region 33 with fail
              go_loopw [24] (fun iv wq => ∃ p : Nat, p ≤ n ∧ iv = .int .i64 (p : Int) ∧ wq = wr) (fun i _ => n - (intOf i).toNat)
              case atStart => exact ⟨0, by omega, rfl, rfl⟩
              case round =>
                obtain ⟨p, hp, rfl, hwq⟩ := hrel
                subst hwq
                by_cases hpn : p < n
                · have hki : (p : Int) < (n : Int) := by omega
                  have e1 : IntKind.i64.wrap ((p : Int) + 1) = ((p + 1 : Nat) : Int) := by rw [IntKind.wrap_i64]; omega
                  have hlt2 := HWR.out.lt
                  have hrl := row_last HSO.out.1 HSO.out.2.1 HSO.out.2.2.1 (by omega) HED.out.2 HUN.out p hpn
                  have hcl := fun v (hv : (rowS (iter s 12) n)[p]? = some v) => HWR.out.cell (fun b => .int .i64 (b : Nat)) (fun _ => rfl) p v hv
                  have hcs : p < k ∨ (k ≤ p ∧ p < f) ∨ (k ≤ p ∧ f ≤ p ∧ p < t) ∨ (k ≤ p ∧ f ≤ p ∧ t ≤ p) := by omega
                  rcases hcs with g1 | ⟨g1, g2⟩ | ⟨g1, g2, g3⟩ | ⟨g1, g2, g3⟩
                  · rw [if_pos (.inl g1)] at hrl
                    have hc := hcl _ hrl
                    have v1 : (p : Int) < (k : Int) := by omega
                    clear hcl hrl
                    go_wp2_with fail
                    exact ⟨⟨p + 1, by omega, by first | rfl | go_num, by first | trivial | rfl⟩, by simp [intOf]; omega⟩
                  · rw [if_neg (by omega)] at hrl
                    have hc := hcl _ hrl
                    have v1 : ¬ (p : Int) < (k : Int) := by omega
                    have v2 : ¬ (f : Int) ≤ (p : Int) := by omega
                    clear hcl hrl
                    go_wp2_with fail
                    exact ⟨⟨p + 1, by omega, by first | rfl | go_num, by first | trivial | rfl⟩, by simp [intOf]; omega⟩
                  · rw [if_pos (.inr ⟨g2, g3⟩)] at hrl
                    have hc := hcl _ hrl
                    have v1 : ¬ (p : Int) < (k : Int) := by omega
                    have v2 : (f : Int) ≤ (p : Int) := by omega
                    have v3 : (p : Int) < (t : Int) := by omega
                    clear hcl hrl
                    go_wp2_with fail
                    exact ⟨⟨p + 1, by omega, by first | rfl | go_num, by first | trivial | rfl⟩, by simp [intOf]; omega⟩
                  · rw [if_neg (by omega)] at hrl
                    have hc := hcl _ hrl
                    have v1 : ¬ (p : Int) < (k : Int) := by omega
                    have v2 : (f : Int) ≤ (p : Int) := by omega
                    have v3 : ¬ (p : Int) < (t : Int) := by omega
                    clear hcl hrl
                    go_wp2_with fail
                    exact ⟨⟨p + 1, by omega, by first | rfl | go_num, by first | trivial | rfl⟩, by simp [intOf]; omega⟩
                · obtain rfl : p = n := by omega
                  have hki : ¬ (p : Int) < (p : Int) := by omega
                  obtain ⟨x, hx, hx1, hx2⟩ := HLAST.out
                  obtain ⟨y, hy, hye, -, -⟩ := told_at (HO10.out.below HBR.out) HM11.out (HE10.out.new HBR.out) 27 _ hx
                  obtain ⟨bT, oT, rfl, hbt, hct⟩ := (HO10.out.below HBR.out).ls.at 27 y hy
                  have p5 := hct 5 (.bool y.st.idle) rfl
                  have p6 := hct 6 (.int .i64 y.st.left) rfl
                  rw [hye, hx1] at p5
                  rw [hye, hx2] at p6
                  simp only [seS] at p5 p6
                  clear hct hye hx hx1 hx2 hy
                  go_wp2_with fail
                  go_ret
                  exact ⟨rfl, bthen (bthen (bthen HB2.out HB9.out) HB10.out) HBR.out⟩

end Go.Proofs.Ytehckiihipnimaa
