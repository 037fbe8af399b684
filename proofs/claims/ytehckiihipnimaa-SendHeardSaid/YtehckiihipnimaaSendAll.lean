/-
  The walk of SendAll.
-/
import Derived.Test.YtehckiihipnimaaDeeds
import Derived.Test.YtehckiihipnimaaSender
import Derived.Test.YtehckiihipnimaaSendAllMath
namespace Go.Proofs.Ytehckiihipnimaa
open Go.RowKit
set_option linter.unusedVariables false
set_option linter.unusedSimpArgs false

/-- a deed without lists -/
def plainD (k : Int) : Dv := ⟨⟨k, [], 0, 0, []⟩, none, 0, 0, none, 0, 0⟩
theorem plainD_in (w : World) (S : Nat → Prop) (k : Int) : DEI1 w S (plainD k) := ⟨Ls.nil _ _, rfl, Ls.nil _ _, rfl, by simp [plainD], by simp [plainD], Clear.none _, Clear.none _⟩
/-- a row of deeds that grows -/
def GroX (w : World) (xs : List Dv) (n0 m : Nat) (kd : Int) (o i : Value) (wr : World) : Prop :=
  ∃ (k : Nat) (A : Option Addr) (c : Nat), k ≤ m ∧ i = .int .i64 k ∧ o = .slice A (n0 + k) c ∧ OwnL deS 39 wr w.heap.size A (n0 + k) c (xs ++ List.replicate k (plainD kd)) ∧ DEI wr (fun j => (Value.slice A (n0 + k) c).ownBlock = some j) (xs ++ List.replicate k (plainD kd)) ∧ Below w.heap.size w wr
theorem grow_app {wd w8 : World} {A A8 : Option Addr} {n c c8 : Nat} {xs : List Dv} {y : Dv} (hd : DEI wd (fun j => (Value.slice A n c).ownBlock = some j) xs) (hy : DEI1 wd (fun j => (Value.slice A n c).ownBlock = some j) y) (o : Obj) {base : Nat} (hb : Below base (wd.alloc o) w8) (hs : Beside (.slice A n c) (.slice A8 (n + 1) c8) (wd.alloc o) w8) :
    DEI w8 (fun j => (Value.slice A8 (n + 1) c8).ownBlock = some j) (xs ++ [y]) :=
  DEI.only ((hd.app hy).new (ba1 _ _)) (hs.only hb) (fun j hj => .inl hj) (fun j hj => hs.own j hj)

/-- what the law keeps while it goes through what is sent again -/
def AllX (w6 : World) (n2 : Nat) (ds : List Dd) (s0 : Sd) (W : Nat) (L : Int) (av sv dv iv : Value) (wr : World) : Prop :=
  ∃ (j : Nat) (at_ : Int) (sum : Nat) (idle : Bool), j ≤ 60 ∧ av = .int .i64 at_ ∧ sv = .int .i64 sum ∧ dv = .bool idle ∧ iv = .int .i64 ((n2 + j : Nat) : Int) ∧ AllI (sds s0 (ds.take (n2 + j))) W j L at_ sum idle ∧ Below w6.heap.size w6 wr

set_option maxRecDepth 100000 in
set_option maxHeartbeats 8000000 in
theorem walkSendAll (A : Option Addr) (n c : Nat) (l : List Wv) (B : Option Addr) (nb cb : Nat) (zs : List Int) (w : World) (hb : Ls whS w A l) (hn : l.length = n) (hc : n ≤ c) (hr : c ≤ 3518437208782) (hin : WIn w l)
    (hz : Ls byS w B zs) (hzn : zs.length = nb) (hzc : nb ≤ cb) (hzr : cb ≤ 140737488351232) (hzb : ∀ z ∈ zs, 0 ≤ z ∧ z ≤ 255) :
    Calls Try.prog 5 #[.slice A n c, .slice B nb cb] w fun e w' => e = .returned (.bool true) ∧ Below w.heap.size w w' := by
  have HL := Lib.hid hb
  have HN := Lib.hid hn
  have HI := Lib.hid hin
  have HZ := Lib.hid hz
  have HZN := Lib.hid hzn
  obtain ⟨mm, hmm⟩ : ∃ q, q = min nb 200 := ⟨_, rfl⟩
  have HMM := Lib.hid hmm
  have hmm2 : mm ≤ 200 := by omega
  clear hb hn hin hz hzn hmm hzb
  go_enter Try.func5, Try.ntmps5
  go_wp2_with (first
    | (go_at_call 21; refine (deeds_any A n c 80 150 l w HL.out HN.out HI.out (by omega) (by omega) (by omega)).mono ?_; rintro e w1 ⟨kn, A1, c1, xs, rfl, hk1, ho1, he1, ht1, hb1⟩; have HO1 := Lib.hid ho1; have HE1 := Lib.hid he1; have HT1 := Lib.hid ht1; have HB1 := Lib.hid hb1; clear ho1 he1 ht1 hb1)
    | (go_at_call 24; refine (octets_any B nb cb 200 mm zs w1 (HZ.out.below HB1.out) HZN.out hzc (by omega) (by omega) HMM.out).mono ?_; rintro e w2 ⟨A2, c2, rfl, ho2, hb2⟩; have HO2 := Lib.hid ho2; have HB2 := Lib.hid hb2; clear ho2 hb2)
    | (at_builtin; refine wpList_appL (F := deS) rfl _ (.tmp 17) (.tmp 21) 22 rfl _ 72 Try.underlying22 deInfo rfl w.heap.size A1 kn c1 xs rfl ((HO1.out.below HB2.out).below (ba1 _ _)) (some ⟨w2.heap.size, 0, none⟩) 1 1 [⟨⟨1, zs.take mm, 0, 0, []⟩, A2, mm, c2, none, 0, 0⟩] rfl (ls_new w2 _ _ _ rfl _ rfl) rfl (kn + 1) rfl (by omega) (by omega) (by have := HB1.out.size; have := HB2.out.size; simp; omega) ?_; intro A3 c3 w3 ho3 hb3 hs3; have HO3 := Lib.hid ho3; have HB3 := Lib.hid hb3; have HS3 := Lib.hid hs3; clear ho3 hb3 hs3))
  obtain ⟨x1, hx1⟩ : ∃ x, x = xs ++ [(⟨⟨1, zs.take mm, 0, 0, []⟩, A2, mm, c2, none, 0, 0⟩ : Dv)] := ⟨_, rfl⟩
  have HX1 := Lib.hid hx1
  have HO3' : Hid (OwnL deS 39 w3 w.heap.size A3 (kn + 1) c3 x1) := Lib.hid (by rw [hx1]; exact HO3.out)
  have HBw3 : Hid (Below w.heap.size w w3) := Lib.hid (((HB1.out.trans (HB2.out.mono HB1.out.size)).trans ((ba1 w2 _).mono (by have := HB1.out.size; have := HB2.out.size; omega))).trans HB3.out)
  have HE3 : Hid (DEI w3 (fun j => (Value.slice A3 (kn + 1) c3).ownBlock = some j) x1) := Lib.hid (by
    rw [hx1]
    refine grow_app (HE1.out.new HB2.out) ⟨HO2.out.ls, HO2.out.1, Ls.nil _ _, rfl, by simp only; omega, by simp, clear_of_own HO2.out.2 (fun j hj => hj.imp (fun g => (HO1.out.lt j g).2) id), Clear.none _⟩ _ HB3.out HS3.out)
  have HT3 : Hid (∀ x ∈ x1, x.d.ack + x.d.win ≤ 349) := Lib.hid (fun x hx => by
    rw [hx1] at hx
    rcases List.mem_append.1 hx with hx | hx
    · obtain ⟨-, -, -, -, g1, -, g2, -⟩ := HT1.out x hx; omega
    · simp at hx; subst hx; simp)
  obtain ⟨n1, hn1⟩ : ∃ q, q = kn + 1 := ⟨_, rfl⟩
  rw [← hn1] at HO3' HE3 ⊢
  have hn81 : n1 ≤ 81 := by omega
  have HLX1 : Hid (x1.length = n1) := Lib.hid HO3'.out.1
  clear hx1 hn1 hk1
  go_loopw [5, 6] (fun o i wr => GroX w x1 n1 40 3 o i wr) (fun _ i _ => 40 - (intOf i).toNat)
  case atStart => exact ⟨0, A3, c3, by omega, rfl, rfl, by simpa using HO3'.out, by simpa using HE3.out, HBw3.out⟩
  case round =>
    obtain ⟨k, A4, c4, hk, rfl, rfl, hown, hei, hbw⟩ := hrel
    have HOW := Lib.hid hown
    have HEI := Lib.hid hei
    have HBW := Lib.hid hbw
    clear hown hei hbw
    by_cases hlt : k < 40
    · have hki : (k : Int) < 40 := by omega
      go_wp2_with (at_builtin; refine wpList_appL (F := deS) rfl _ (.tmp 27) (.tmp 29) 22 rfl _ 72 Try.underlying22 deInfo rfl w.heap.size A4 (n1 + k) c4 _ rfl (HOW.out.below (ba1 _ _)) (some ⟨wr.heap.size, 0, none⟩) 1 1 [plainD 3] rfl (ls_new wr _ _ _ rfl _ rfl) rfl (n1 + k + 1) rfl (by omega) (by omega) (by have := HBW.out.size; simp; omega) ?_; intro A8 c8 w8 ho8 hb8 hs8; have HO8 := Lib.hid ho8; have HB8 := Lib.hid hb8; have HS8 := Lib.hid hs8; clear ho8 hb8 hs8)
      have hrep : x1 ++ List.replicate (k + 1) (plainD 3) = (x1 ++ List.replicate k (plainD 3)) ++ [plainD 3] := by rw [List.replicate_succ', List.append_assoc]
      refine ⟨⟨k + 1, A8, c8, by omega, by go_num, rfl, by rw [hrep]; exact HO8.out, by rw [hrep]; exact grow_app HEI.out (plainD_in _ _ _) _ HB8.out HS8.out, (HBW.out.trans ((ba1 wr _).mono HBW.out.size)).trans (HB8.out.mono (Nat.le_refl _))⟩, by simp [intOf]; omega⟩
    · obtain rfl : k = 40 := by omega
      go_wp2_with (at_builtin; refine wpList_appL (F := deS) rfl _ (.tmp 31) (.tmp 33) 22 rfl _ 72 Try.underlying22 deInfo rfl w.heap.size A4 (n1 + 40) c4 _ rfl (HOW.out.below (ba1 _ _)) (some ⟨wr.heap.size, 0, none⟩) 1 1 [plainD 4] rfl (ls_new wr _ _ _ rfl _ rfl) rfl (n1 + 40 + 1) rfl (by omega) (by omega) (by have := HBW.out.size; simp; omega) ?_; intro A8 c8 w8 ho8 hb8 hs8; have HO8 := Lib.hid ho8; have HB8 := Lib.hid hb8; have HS8 := Lib.hid hs8; clear ho8 hb8 hs8)
      obtain ⟨x2, hx2⟩ : ∃ x, x = (x1 ++ List.replicate 40 (plainD 3)) ++ [plainD 4] := ⟨_, rfl⟩
      have HE8 := Lib.hid (grow_app HEI.out (plainD_in _ _ 4) _ HB8.out HS8.out)
      have HBw8 : Hid (Below w.heap.size w w8) := Lib.hid ((HBW.out.trans ((ba1 wr _).mono HBW.out.size)).trans (HB8.out.mono (Nat.le_refl _)))
      rw [← hx2] at HO8 HE8
      have HX2 := Lib.hid hx2
      have HT8 : Hid (∀ x ∈ x2, x.d.ack + x.d.win ≤ 349) := Lib.hid (fun x hx => by
        rw [hx2] at hx
        rcases List.mem_append.1 hx with hx | hx
        · rcases List.mem_append.1 hx with hx | hx
          · exact HT3.out x hx
          · rw [(List.mem_replicate.1 hx).2]; simp [plainD]
        · simp at hx; subst hx; simp [plainD])
      obtain ⟨n2, hn2⟩ : ∃ q, q = n1 + 40 + 1 := ⟨_, rfl⟩
      rw [← hn2] at HO8 HE8 ⊢
      rw [show ((n1 : Int) + 40 + 1) = (n2 : Int) by omega]
      have hn122 : n2 ≤ 122 := by omega
      have hn20 : 0 < n2 := by omega
      have HLX2 : Hid (x2.length = n2) := Lib.hid HO8.out.1
      clear hx2 hn2
      go_loopw [5, 8] (fun o i wr => GroX w x2 n2 60 3 o i wr) (fun _ i _ => 60 - (intOf i).toNat)
      case atStart => exact ⟨0, A8, c8, by omega, rfl, rfl, by simpa using HO8.out, by simpa using HE8.out, HBw8.out⟩
      case round =>
        obtain ⟨k, A4, c4, hk, rfl, rfl, hown, hei, hbw⟩ := hrel
        have HOW := Lib.hid hown
        have HEI := Lib.hid hei
        have HBW := Lib.hid hbw
        clear hown hei hbw
        by_cases hlt : k < 60
        · have hki : (k : Int) < 60 := by omega
          go_wp2_with (at_builtin; refine wpList_appL (F := deS) rfl _ (.tmp 41) (.tmp 43) 22 rfl _ 72 Try.underlying22 deInfo rfl w.heap.size A4 (n2 + k) c4 _ rfl (HOW.out.below (ba1 _ _)) (some ⟨wr.heap.size, 0, none⟩) 1 1 [plainD 3] rfl (ls_new wr _ _ _ rfl _ rfl) rfl (n2 + k + 1) rfl (by omega) (by omega) (by have := HBW.out.size; simp; omega) ?_; intro A9 c9 w9 ho8 hb8 hs8; have HO9 := Lib.hid ho8; have HB9 := Lib.hid hb8; have HS9 := Lib.hid hs8; clear ho8 hb8 hs8)
          have hrep : x2 ++ List.replicate (k + 1) (plainD 3) = (x2 ++ List.replicate k (plainD 3)) ++ [plainD 3] := by rw [List.replicate_succ', List.append_assoc]
          refine ⟨⟨k + 1, A9, c9, by omega, by go_num, rfl, by rw [hrep]; exact HO9.out, by rw [hrep]; exact grow_app HEI.out (plainD_in _ _ _) _ HB9.out HS9.out, (HBW.out.trans ((ba1 wr _).mono HBW.out.size)).trans (HB9.out.mono (Nat.le_refl _))⟩, by simp [intOf]; omega⟩
        · obtain rfl : k = 60 := by omega
          obtain ⟨x3, hx3⟩ : ∃ x, x = x2 ++ List.replicate 60 (plainD 3) := ⟨_, rfl⟩
          rw [← hx3] at HOW HEI
          obtain ⟨ds, hds⟩ : ∃ ds, ds = x3.map Dv.d := ⟨_, rfl⟩
          have hdp : ∀ j, j < 60 → ds[n2 + j]? = some (plainD 3).d := fun j hj => by
            rw [hds, List.getElem?_map, hx3, List.getElem?_append_right (by rw [HLX2.out]; omega), HLX2.out, show n2 + j - n2 = j by omega, List.getElem?_replicate, if_pos hj]; rfl
          have hdt : ds[n2 - 1]? = some (plainD 4).d := by
            rw [hds, List.getElem?_map, hx3, List.getElem?_append_left (by rw [HLX2.out]; omega), HX2.out, List.getElem?_append_right (by have := HLX2.out; rw [HX2.out] at this; simp at this ⊢; omega)]
            have h1 : n2 - 1 - (x1 ++ List.replicate 40 (plainD 3)).length = 0 := by have := HLX2.out; rw [HX2.out] at this; simp at this ⊢; omega
            rw [h1]; rfl
          have hdb : ∀ d ∈ ds, d.ack + d.win ≤ 349 := fun d hd => by
            rw [hds] at hd
            obtain ⟨x, hx, rfl⟩ := List.mem_map.1 hd
            rw [hx3] at hx
            rcases List.mem_append.1 hx with hx | hx
            · exact HT8.out x hx
            · rw [(List.mem_replicate.1 hx).2]; simp [plainD]
          have hdl : ds.length = n2 + 60 := by rw [hds, List.length_map]; exact HOW.out.1
          obtain ⟨s0, hs0⟩ : ∃ s, s = sd0 100 := ⟨_, rfl⟩
          have HK0 : Hid (SdOk s0) := Lib.hid (by rw [hs0]; exact sd0_ok (by omega) (by omega))
          obtain ⟨s1, hs1⟩ : ∃ s, s = sds s0 (ds.take n2) := ⟨_, rfl⟩
          have hok1 : SdOk s1 := by rw [hs1]; exact sds_ok _ HK0.out
          have hbd : Bd s1 (349 + ((ds.take n2).length : Int)) := by
            rw [hs1]
            exact sds_bd _ _ _ HK0.out (by rw [hs0]; exact sd0_bd (by omega) (by omega)) (by omega) (fun d hd => hdb d (List.mem_of_mem_take hd))
          have htk : (ds.take n2).length = n2 := by rw [List.length_take, hdl]; omega
          rw [htk] at hbd
          have hpre := sds_take s0 ds (n2 - 1) _ hdt
          rw [show n2 - 1 + 1 = n2 by omega, ← hs1] at hpre
          have htodo : s1.todo = 0 := by rw [hpre, (deed_timeout _ _ rfl).2]
          have hlast : (sent s0 ds)[n2 - 1]? = some (deed (sds s0 (ds.take (n2 - 1))) (plainD 4).d).1 := sent_get ds s0 _ _ hdt
          have hlastL : (deed (sds s0 (ds.take (n2 - 1))) (plainD 4).d).1.left = left s1 := by rw [deed_left, ← hpre]
          have hW : work s1 ≤ 2200 := by
            have h1 := work_le hok1 hbd.isl
            have h2 := hbd.sent
            have h3 := hbd.edge
            have h4 : (lim s1 : Int) ≤ s1.edge := by have := hok1.e0; unfold lim; omega
            omega
          have hA0 : AllI s1 (work s1) 0 (left s1) (-1) 0 false := ⟨by omega, by
            rw [htodo]
            have := left_unk hok1
            simpa using this, (fun g => by cases g), fun _ => by omega⟩
          have hLL := left_bd hok1
          have HALL := Lib.hid (And.intro hs1 (And.intro hdp (And.intro hlast (And.intro hlastL (And.intro hA0 hW)))))
          have HLL := Lib.hid hLL
          have HDS := Lib.hid hds
          have HDL := Lib.hid hdl
          have HS0 := Lib.hid hs0
          obtain ⟨L, hL⟩ : ∃ L, L = left s1 := ⟨_, rfl⟩
          obtain ⟨Wk, hWk⟩ : ∃ W, W = work s1 := ⟨_, rfl⟩
          have HLW := Lib.hid (And.intro hL hWk)
          clear hdp hdt hdb hs0 hs1 hok1 hbd htk hpre htodo hlast hlastL hW hA0 hLL hds hdl hx3 hL hWk
          go_wp2_with (go_at_call 22; refine (sender_any 100 A4 (n2 + 60) c4 x3 wr (by omega) (by omega) (by omega) HOW.out.ls HOW.out.1 HEI.out.din _ rfl).mono ?_; unfold RetSr; rw [sent_len, List.length_map, HOW.out.1, ← HDS.out, ← HS0.out]; rintro e w6 ⟨A6, c6, l6, rfl, ho6, hm6, he6, hb6⟩; have HO6 := Lib.hid ho6; have HM6 := Lib.hid hm6; have HE6 := Lib.hid he6; have HB6 := Lib.hid hb6; clear ho6 hm6 he6 hb6)
          have HBw6 : Hid (Below w.heap.size w w6) := Lib.hid (HBW.out.trans (HB6.out.mono HBW.out.size))
          obtain ⟨hs1, hdp, hlast, hlastL, hA0, hW⟩ := HALL.out
          rw [← HLW.out.1] at hlastL hA0
          rw [← HLW.out.2] at hW hA0
          have HA0 := Lib.hid hA0
          have HS1 := Lib.hid hs1
          have HDP := Lib.hid hdp
          have HLA := Lib.hid (And.intro hlast hlastL)
          have HWW := Lib.hid hW
          clear hs1 hdp hlast hlastL hA0 hW
          go_loopw [11, 12, 13, 14] (fun av sv dv iv wr => AllX w6 n2 ds s0 Wk L av sv dv iv wr) (fun _ _ _ i _ => n2 + 60 - (intOf i).toNat)
          case atStart =>
            exact ⟨0, -1, 0, false, by omega, rfl, rfl, rfl, rfl, by rw [Nat.add_zero, ← HS1.out]; exact HA0.out, Below.refl _ _⟩
          case round =>
            obtain ⟨j, at_, sum, idle, hj, rfl, rfl, rfl, rfl, hAI, hbw⟩ := hrel
            have HAI := Lib.hid hAI
            have HBWr := Lib.hid hbw
            have hsumL : (sum : Int) ≤ 1048576 := by
              have h1 := hAI.sum_le
              have h2 := HLL.out.2
              rw [← HLW.out.1] at h2
              omega
            clear hAI hbw
            obtain ⟨nj, hnj⟩ : ∃ q, q = n2 + j := ⟨_, rfl⟩
            rw [← hnj]
            have HNJ := Lib.hid hnj
            have hnjl : n2 ≤ nj := by omega
            have hnj6 : nj ≤ n2 + 60 := by omega
            obtain ⟨N, hN⟩ : ∃ q, q = n2 + 60 := ⟨_, rfl⟩
            rw [← hN] at HO6 ⊢
            have HNN := Lib.hid hN
            by_cases hlt : nj < N
            · have hki : (nj : Int) < (N : Int) := by omega
              have hjl : j < 60 := by omega
              have hpd := HDP.out j hjl
              rw [← hnj] at hpd
              obtain ⟨sj, hsj⟩ : ∃ s, s = sds s0 (ds.take nj) := ⟨_, rfl⟩
              have hsg := sent_get ds s0 nj _ hpd
              have hst := sds_take s0 ds nj _ hpd
              rw [← hsj, deed_poll sj (plainD 3).d rfl] at hsg hst
              have hokj : SdOk sj := by rw [hsj]; exact sds_ok _ HK0.out
              have hAI2 := HAI.out
              rw [← hnj, ← hsj] at hAI2
              have hstep := all_step hokj hAI2
              obtain ⟨z, hz, hze, hzd, hzn⟩ := told_at (HO6.out.below HBWr.out) HM6.out (HE6.out.new HBWr.out) nj _ hsg
              obtain ⟨bT, oT, rfl, hbt, hct⟩ := (HO6.out.below HBWr.out).ls.at nj z hz
              obtain ⟨zst, zA, zn, zc⟩ := z
              simp only at hze hzn hzd
              have hfi : zst.idle = (polls sj).1.idle := by rw [hze]
              have hfa : zst.again = (polls sj).1.again := by rw [hze]
              have hff : zst.fin = (polls sj).1.fin := by rw [hze]
              have hft : zst.at_ = (polls sj).1.at_ := by rw [hze]
              have hfd : zst.data.length = (polls sj).1.data.length := by rw [hze]
              have hzn' : zn = (polls sj).1.data.length := hzn.symm
              have p1 := hct 1 (.int .i64 zst.at_) rfl
              have p2 := hct 2 (.slice zA zn zc) rfl
              have p3 := hct 3 (.bool zst.fin) rfl
              have p4 := hct 4 (.bool zst.again) rfl
              have p5 := hct 5 (.bool zst.idle) rfl
              have p0 := hct 0 (.int .i64 zst.code) rfl
              have p6 := hct 6 (.int .i64 zst.left) rfl
              simp only [seS, Nat.add_zero] at p0 p1 p2 p3 p4 p5 p6
              rw [hft] at p1
              rw [hzn'] at p2
              rw [hff] at p3
              rw [hfa] at p4
              rw [hfi] at p5
              have hnx : AllI (polls sj).2 Wk (j + 1) L at_ sum idle → True := fun _ => trivial
              have hnj1 : n2 + (j + 1) = nj + 1 := by omega
              have HST := Lib.hid hst
              have HNJ1 := Lib.hid hnj1
              have hwn : IntKind.i64.wrap ((nj : Int) + 1) = ((nj + 1 : Nat) : Int) := by rw [IntKind.wrap_i64]; omega
              clear hct hz hze hzn hzd hfi hfa hff hft hfd hzn' hsg hst hsj hnx hnj1 hpd hAI2 hnj hN
              rcases hstep with ⟨q1, hq⟩ | ⟨q1, q2, q3, hq⟩ | ⟨q1, q2, q3, q4, q5, q6, q7, hq⟩
              · rw [q1] at p5
                have HQ := Lib.hid hq
                clear q1 hq
                go_wp2_with fail
                exact ⟨⟨j + 1, at_, sum, true, by omega, rfl, rfl, rfl, (by rw [HNJ1.out]; first | rfl | go_num), by rw [HNJ1.out, HST.out]; exact HQ.out, HBWr.out.trans ((ba1 _ _).mono HBWr.out.size)⟩, by simp [intOf]; have := HNN.out; omega⟩
              · rw [q1] at p5
                rw [q2] at p4
                subst q3
                have HQ := Lib.hid hq
                clear q1 q2 hq
                go_wp2_with fail
                exact ⟨⟨j + 1, at_, sum, false, by omega, rfl, rfl, rfl, (by rw [HNJ1.out]; first | rfl | go_num), by rw [HNJ1.out, HST.out]; exact HQ.out, HBWr.out.trans ((ba1 _ _).mono HBWr.out.size)⟩, by simp [intOf]; have := HNN.out; omega⟩
              · rw [q1] at p5
                rw [q2] at p4
                subst q3
                obtain ⟨ta, hta⟩ : ∃ t, t = (polls sj).1.at_ := ⟨_, rfl⟩
                obtain ⟨tl, htl⟩ : ∃ t, t = (polls sj).1.data.length := ⟨_, rfl⟩
                obtain ⟨tf, htf⟩ : ∃ t, t = (polls sj).1.fin := ⟨_, rfl⟩
                rw [← hta] at p1 q4 q6 q7 hq
                rw [← htl] at p2 q5 hq
                rw [← htf] at p3 hq
                have HQ := Lib.hid hq
                have q4' : ¬ ta < at_ := by omega
                have w1 : IntKind.i64.wrap (ta + (tl : Int)) = ta + (tl : Int) := by rw [IntKind.wrap_i64]; omega
                obtain ⟨sl, hsl⟩ : ∃ q, q = sum + tl := ⟨_, rfl⟩
                have w2 : IntKind.i64.wrap ((sum : Int) + (tl : Int)) = (sl : Int) := by rw [IntKind.wrap_i64]; omega
                have w3 : IntKind.i64.wrap ((sl : Int) + 1) = ((sl + 1 : Nat) : Int) := by rw [IntKind.wrap_i64]; omega
                have HSL := Lib.hid hsl
                clear q1 q2 hq hta htl htf hsl
                rcases tf with _ | _
                · go_wp2_with fail
                  exact ⟨⟨j + 1, ta + tl, sl, false, by omega, rfl, rfl, rfl, (by rw [HNJ1.out]; first | rfl | go_num), by rw [HNJ1.out, HST.out]; have := HQ.out; simp only [Bool.false_eq_true, if_false, Nat.add_zero, ← HSL.out] at this; exact this, HBWr.out.trans ((ba1 _ _).mono HBWr.out.size)⟩, by simp [intOf]; have := HNN.out; omega⟩
                · go_wp2_with fail
                  exact ⟨⟨j + 1, ta + tl, sl + 1, false, by omega, rfl, rfl, rfl, (by rw [HNJ1.out]; first | rfl | go_num), by rw [HNJ1.out, HST.out]; have := HQ.out; simp only [if_true, ← HSL.out] at this; exact this, HBWr.out.trans ((ba1 _ _).mono HBWr.out.size)⟩, by simp [intOf]; have := HNN.out; omega⟩
            · obtain rfl : nj = N := by omega
              have hj60 : j = 60 := by omega
              have hidle : idle = true := by
                rcases hi : idle with _ | _
                · have h1 := HAI.out.no hi
                  have h2 := HWW.out
                  omega
                · rfl
              subst hidle
              have hsL : (sum : Int) ≤ L := by have := HAI.out.sum_le; omega
              have hki : ¬ (nj : Int) < (nj : Int) := by omega
              obtain ⟨z, hz, hze, -, -⟩ := told_at (HO6.out.below HBWr.out) HM6.out (HE6.out.new HBWr.out) (n2 - 1) _ HLA.out.1
              obtain ⟨bT, oT, rfl, hbt, hct⟩ := (HO6.out.below HBWr.out).ls.at (n2 - 1) z hz
              have p6 := hct 6 (.int .i64 z.st.left) rfl
              rw [hze, HLA.out.2] at p6
              simp only [seS] at p6
              obtain ⟨n3, hn3⟩ : ∃ q, q = n2 - 1 := ⟨_, rfl⟩
              rw [← hn3] at p6
              have w1 : IntKind.i64.wrap ((n2 : Int) - 1) = (n3 : Int) := by rw [IntKind.wrap_i64]; omega
              have v1 : (n3 : Int) < (nj : Int) := by omega
              have v2 : n3 < nj := by omega
              clear hct hz hze hnj hN hn3
              go_wp2_with fail
              go_ret
              exact ⟨rfl, HBw6.out.trans (HBWr.out.mono HBw6.out.size)⟩

end Go.Proofs.Ytehckiihipnimaa
