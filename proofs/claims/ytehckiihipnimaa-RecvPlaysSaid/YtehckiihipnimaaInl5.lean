/-
  The document's Inlet: what an arrival comes to.
-/
import Derived.Test.YtehckiihipnimaaInl4
import Derived.Test.YtehckiihipnimaaInl5a
import Derived.Test.YtehckiihipnimaaHrr4
import Derived.Test.YtehckiihipnimaaHrr5
import Derived.Deep.CutBlock
import Derived.Deep.RegionHeld3
namespace Go.Proofs.Ytehckiihipnimaa
open Go.RowKit Go.Maps
set_option linter.unusedVariables false
set_option linter.unusedSimpArgs false

theorem Inl.only {w w' : World} {B bm K : Nat} {s : Hr} {S : Nat → Prop} (h : Inl w B bm K s) (ho : Only S w w') (hB : ¬ S B) (hb : ¬ S bm) : Inl w' B bm K s := ⟨h.1.only ho hB, h.2.only ho hb⟩
theorem Inl.mono {w : World} {B bm K K' : Nat} {s : Hr} (h : Inl w B bm K s) (hK : K ≤ K') : Inl w B bm K' s := ⟨h.1, h.2.mono hK⟩
/-- what an arrival comes to lies in the box q5 -/
def InX (B bm K q5 : Nat) (w2 : World) (last : Int) (r : (Int × List Int × Bool) × Hr) (p l : Value) (wc : World) : Prop :=
  ∃ A n c, p = .pointer (some ⟨q5, 0, none⟩) ∧ l = .int .i64 last ∧ Bx 52 wc q5 (tkC r.1.1 A n c r.1.2.2) ∧ OwnL byS 5 wc w2.heap.size A n c r.1.2.1 ∧ Inl wc B bm (K + 64) r.2 ∧ Only (fun k => k = B ∨ k = bm ∨ k = q5) w2 wc
/-- the bytes taken so far -/
def TkI (B bm K q5 : Nat) (w2 : World) (s : Hr) (ct : Int) (wr : World) : Prop :=
  ∃ (j : Nat) (A : Option Addr) (c : Nat), (j : Int) ≤ ct ∧ s.taken + j ≤ s.dn ∧ Bx 52 wr q5 (tkC 0 A j c false) ∧ OwnL byS 5 wr w2.heap.size A j c ((s.data.drop s.taken.toNat).take j) ∧ Inl wr B bm K { s with taken := s.taken + j } ∧ Only (fun k => k = B ∨ k = bm ∨ k = q5) w2 wr

/-- what 'Arrival' answers -/
def RetAv (w : World) (B bm K : Nat) (x : Tl × Hr) (e : Ending) (w' : World) : Prop :=
  ∃ S m se A n c, e = .returned (.agg #[.int .i64 x.1.code, .int .i64 x.1.ack, .int .i64 x.1.win, .slice S m se, .slice A n c, .bool x.1.stop]) ∧ x.1.sacks.length = m ∧ OwnL byS 5 w' w.heap.size A n c x.1.data ∧ Ls rgS w' S x.1.sacks ∧
    (∀ ad, S = some ad → w.heap.size ≤ ad.block ∧ ad.block < w'.heap.size) ∧ Inl w' B bm (K + 64) x.2 ∧ Only (fun k => k = B ∨ k = bm) w w'

set_option maxRecDepth 100000 in
set_option maxHeartbeats 8000000 in
theorem arrival_any (w : World) (B bm K : Nat) (s : Hr) (a : Ar) (A : Option Addr) (n c : Nat) (hi : Inl w B bm K s) (hne : bm ≠ B) (hK : K ≤ 1000000) (hok : HrOk s) (hd : Ls byS w A a.data) (hn : a.data.length = n) (h47 : n ≤ 140737488355328) (hby : ∀ z ∈ a.data, 0 ≤ z ∧ z ≤ 255)
    (hA : ∀ ad, A = some ad → 0 < n → ad.block ≠ bm ∧ ad.block ≠ B) (ha : i64in a.at_) (hc : i64in a.count) :
    Calls Try.prog 45 #[.pointer (some ⟨B, 0, none⟩), .agg #[.int .i64 a.kind, .int .i64 a.at_, .slice A n c, .bool a.fin, .int .i64 a.count]] w (RetAv w B bm K (hear s a)) := by
  have hB := hi.1.lt
  have hbm := hi.2.lt
  have HI := Lib.hid hi
  have HOK := Lib.hid hok
  have HD := Lib.hid hd
  have HN := Lib.hid hn
  have HBY := Lib.hid hby
  have HA := Lib.hid hA
  have HAA := Lib.hid ha
  have HAC := Lib.hid hc
  obtain ⟨kd, hkd⟩ : ∃ q, q = a.kind := ⟨_, rfl⟩
  obtain ⟨ct, hct⟩ : ∃ q, q = a.count := ⟨_, rfl⟩
  obtain ⟨F, hF⟩ : ∃ q, q = a.at_ := ⟨_, rfl⟩
  obtain ⟨fin, hfin⟩ : ∃ q, q = a.fin := ⟨_, rfl⟩
  obtain ⟨last, hlast⟩ : ∃ q, q = lastOf a := ⟨_, rfl⟩
  obtain ⟨r, hr⟩ : ∃ q, q = hearR s a := ⟨_, rfl⟩
  have HKD := Lib.hid hkd
  have HCT := Lib.hid hct
  have HF := Lib.hid hF
  have HFIN := Lib.hid hfin
  have HLA := Lib.hid hlast
  have HR := Lib.hid hr
  obtain ⟨hc1, hc2⟩ := hc
  rw [← hct] at hc1 hc2
  rw [← hkd, ← hct, ← hF, ← hfin]
  clear hi hok hd hn hby hA ha hkd hct hF hfin hlast hr
  go_enter Try.func45, Try.ntmps45
  go_upto_block 0 with fail
  obtain ⟨q3, hq3⟩ : ∃ q, q = w.heap.size := ⟨_, rfl⟩
  obtain ⟨w2, hw2⟩ : ∃ w2, w2 = ((w.alloc (.cells #[.int .i64 kd, .int .i64 F, .slice A n c, .bool fin, .int .i64 ct] 61)).alloc (.cells #[.int .i64 0, .int .i64 0, .int .i64 0, .slice none 0 0, .slice none 0 0, .bool false] 52)).alloc (.cells #[.int .i64 0, .int .i64 0, .int .i64 0, .slice none 0 0, .slice none 0 0, .bool false] 52) := ⟨_, rfl⟩
  have HX3 : Hid (Bx 61 w2 q3 #[.int .i64 kd, .int .i64 F, .slice A n c, .bool fin, .int .i64 ct]) := Lib.hid (by rw [hw2, hq3]; exact ((bx_new _ _ _).below (ba1 _ _)).below (ba1 _ _))
  have HX4 : Hid (Bx 52 w2 (q3 + 1) #[.int .i64 0, .int .i64 0, .int .i64 0, .slice none 0 0, .slice none 0 0, .bool false]) := Lib.hid (by
    rw [hw2, hq3]
    have := bx_new (w.alloc (.cells #[.int .i64 kd, .int .i64 F, .slice A n c, .bool fin, .int .i64 ct] 61)) 52 #[.int .i64 0, .int .i64 0, .int .i64 0, .slice none 0 0, .slice none 0 0, .bool false]
    rw [World.size_alloc] at this
    exact this.below (ba1 _ _))
  have HX5 : Hid (Bx 52 w2 (q3 + 2) #[.int .i64 0, .int .i64 0, .int .i64 0, .slice none 0 0, .slice none 0 0, .bool false]) := Lib.hid (by
    rw [hw2, hq3]
    have := bx_new ((w.alloc (.cells #[.int .i64 kd, .int .i64 F, .slice A n c, .bool fin, .int .i64 ct] 61)).alloc (.cells #[.int .i64 0, .int .i64 0, .int .i64 0, .slice none 0 0, .slice none 0 0, .bool false] 52)) 52 #[.int .i64 0, .int .i64 0, .int .i64 0, .slice none 0 0, .slice none 0 0, .bool false]
    rw [World.size_alloc, World.size_alloc] at this
    exact this)
  have HB2 : Hid (Below w.heap.size w w2) := Lib.hid (by rw [hw2]; exact bthen (bthen (ba1 _ _) (ba1 _ _)) (ba1 _ _))
  have hs2 : w2.heap.size = q3 + 3 := by rw [hw2, hq3]; simp
  rw [← hw2, ← hq3]
  have hq3a : q3 ≤ w.heap.size := by omega
  have hq3b : w.heap.size ≤ q3 := by omega
  clear hw2 hq3
  obtain ⟨q4, hq4⟩ : ∃ q, q3 + 1 = q := ⟨_, rfl⟩
  rw [hq4]
  obtain ⟨q5, hq5⟩ : ∃ q, q4 + 1 = q := ⟨_, rfl⟩
  rw [hq5]
  rw [hq4] at HX4
  rw [show q3 + 2 = q5 by omega] at HX5
  have l34 : q3 < q4 := by omega
  have l45 : q4 < q5 := by omega
  have hs5a : w2.heap.size ≤ q5 + 1 := by omega
  have hs5b : q5 + 1 ≤ w2.heap.size := by omega
  have lB3 : B < q3 := by omega
  have lb3 : bm < q3 := by omega
  have hqB5 : ¬ q5 = B := by omega
  have hBq5 : ¬ B = q5 := by omega
  have hqb5 : ¬ q5 = bm := by omega
  have hbq5 : ¬ bm = q5 := by omega
  have hBbm : ¬ B = bm := fun e => hne e.symm
  have hq35 : ¬ q3 = q5 := by omega
  have hq45 : ¬ q4 = q5 := by omega
  have hq54 : ¬ q5 = q4 := by omega
  clear hq4 hq5 hs2
  have HI2 : Hid (Inl w2 B bm K s) := Lib.hid (HI.out.below HB2.out)
  have HD2 : Hid (Ls byS w2 A a.data) := Lib.hid (HD.out.below HB2.out)
  go_cut [5, 6] (fun p l wc => InX B bm K q5 w2 last r p l wc)
  case first =>
    have k0 := HX3.out.cell 0 (.int .i64 kd) rfl
    have k1 := HX3.out.cell 1 (.int .i64 F) rfl
    have k2 := HX3.out.cell 2 (.slice A n c) rfl
    have k3 := HX3.out.cell 3 (.bool fin) rfl
    have k4 := HX3.out.cell 4 (.int .i64 ct) rfl
    have hq3s := HX3.out.lt
    by_cases h1 : kd = 1
    · subst h1
      obtain ⟨⟨kc, sc⟩, hrc⟩ : ∃ x : Int × Hr, x = arrive s a := ⟨_, rfl⟩
      have HR1 : Hid (r = ((kc, [], false), sc)) := Lib.hid (by rw [HR.out]; unfold hearR; rw [if_pos HKD.out.symm, ← hrc])
      have HL1 : Hid (last = F) := Lib.hid (by rw [HLA.out, HF.out]; unfold lastOf; rw [if_pos HKD.out.symm])
      have HCL : Hid (Calls Try.prog 60 #[.pointer (some ⟨B, 0, none⟩), .agg #[.int .i64 1, .int .i64 F, .slice A n c, .bool fin, .int .i64 ct]] w2 fun e w' => e = .returned (.int .i64 kc) ∧ Inl w' B bm (K + 64) sc ∧ Only (fun k => k = B ∨ k = bm) w2 w') := Lib.hid (by
        have := arrives_any w2 B bm K s a A n c HI2.out hne hK HOK.out HD2.out HN.out h47 HBY.out HA.out HAA.out HAC.out
        rw [← HKD.out, ← HCT.out, ← HF.out, ← HFIN.out] at this
        unfold ArrR at this
        rw [← hrc] at this
        exact this)
      clear hrc
      go_wp2_with (go_at_call 60; refine HCL.out.mono ?_; rintro e wx ⟨rfl, hs, he⟩; have HSx := Lib.hid hs; have HEx := Lib.hid he; have hx := HX5.out.only he (fun g => g.elim hqB5 hqb5); have HXx := Lib.hid hx; have p0 := hx.cell 0 (.int .i64 0) rfl; have y0 := hx.soft 0; have lq := hx.lt; have hx3 := HX3.out.only he (fun g => g.elim (fun g => by omega) (fun g => by omega)); have k1' := hx3.cell 1 (.int .i64 F) rfl; have l3 := hx3.lt; clear hs he hx hx3)
      go_meet
      rw [HR1.out, HL1.out]
      refine ⟨none, 0, 0, rfl, rfl, ?_, OwnL.nil _ _, ?_, ?_⟩
      · have := HXx.out.set 0 (.int .i64 kc); exact this
      · exact HSx.out.only (only_set wx q5 0 _) hBq5 hbq5
      · exact (HEx.out.mono (fun k hk => hk.elim .inl (fun g => .inr (.inl g)))).trans (only_set wx q5 0 _) (fun k hk => .inl (.inr (.inr hk)))
    · by_cases h2 : kd = 2
      · subst h2
        have HL1 : Hid (last = -1) := Lib.hid (by rw [HLA.out]; unfold lastOf; rw [← HKD.out, if_neg (by decide)])
        have HR0 : Hid (r = takes s ct) := Lib.hid (by rw [HR.out]; unfold hearR; rw [← HKD.out, if_neg (by decide), if_pos rfl, ← HCT.out])
        by_cases hcr : ct < 0 ∨ 4096 < ct
        · have HR1 : Hid (r = ((2, [], false), s)) := Lib.hid (by rw [HR0.out]; unfold takes; rw [if_pos hcr])
          have p0 := HX5.out.cell 0 (.int .i64 0) rfl
          have y0 := HX5.out.soft 0
          have hq5s := HX5.out.lt
          have hcr' : ct < 0 ∨ (¬ ct < 0 ∧ 4096 < ct) := by omega
          clear k1 k2 k3
          rcases hcr' with g | ⟨g, g'⟩
          all_goals
            go_wp2_with fail
            go_meet
            rw [HR1.out, HL1.out]
            refine ⟨none, 0, 0, rfl, rfl, ?_, OwnL.nil _ _, ?_, ?_⟩
            · have := HX5.out.set 0 (.int .i64 2); exact this
            · exact (HI2.out.only (only_set w2 q5 0 _) hBq5 hbq5).mono (by omega)
            · exact (only_set w2 q5 0 _).mono (fun k hk => .inr (.inr hk))
        · have g1 : ¬ ct < 0 := by omega
          have g2 : ¬ 4096 < ct := by omega
          have hRR := HR0.out
          unfold takes at hRR
          rw [if_neg hcr] at hRR
          have HRR := Lib.hid hRR
          clear hRR hcr k1 k2 k3
          go_upto_region 11 with fail
          have HS0 : Hid (({ s with taken := s.taken + ((0 : Nat) : Int) } : Hr) = s) := Lib.hid (by cases s; simp)
          have htk := And.intro HOK.out.t0 HOK.out.t1
          have hdd := (hmay_parts HOK.out.may).2.1
          go_loopw [7] (fun _ wr => TkI B bm K q5 w2 s ct wr) (fun _ wr => ct.toNat - lenAt wr q5)
          case atStart => exact ⟨0, none, 0, by omega, by omega, HX5.out, OwnL.nil _ _, by rw [HS0.out]; exact HI2.out, Only.refl _ _⟩
          case round =>
            obtain ⟨j, Ad, cd, hj, hjd, hbx, hown, hin, hon⟩ := hrel
            have HBX := Lib.hid hbx
            have HOW := Lib.hid hown
            have HIN := Lib.hid hin
            have HON := Lib.hid hon
            have HX3r := Lib.hid (HX3.out.only hon (fun g => by omega))
            have p4 : wr.cell? ⟨q5, 4, none⟩ = some (.slice Ad j cd) := hbx.cell 4 (.slice Ad j cd) rfl
            have HLEN : Hid (lenAt wr q5 = j) := Lib.hid (lenAt_eq p4)
            have k4 := HX3r.out.cell 4 (.int .i64 ct) rfl
            have k1B := hin.1.cell 1 (.map (some bm)) rfl
            have k2B := hin.1.cell 2 (.int .i64 (s.taken + j)) rfl
            have lq := hbx.lt
            have l3 := HX3r.out.lt
            have lB := hin.1.lt
            obtain ⟨z, hz⟩ : ∃ z, z = s.taken + (j : Int) := ⟨_, rfl⟩
            rw [← hz] at k2B hjd
            have hzi : i64in z := ⟨by omega, by omega⟩
            have hlk := (hin.2.below (w' := wr.drew) (Below.refl _ _).drew).look z hzi
            have hmz : mapOf ({ s with taken := s.taken + (j : Int) } : Hr) z = mapOf s z := rfl
            rw [hmz] at hlk
            have HZ := Lib.hid hz
            have hz0 : 0 ≤ z := by omega
            clear hbx hown hin hon hz hmz
            have HE : Hid (takeTo s ct = z → ∀ vb, vb = (s.ended && decide (z = s.stop)) → ∀ wq, Below wr.heap.size wr wq → ∀ wz, Below (wq.setCell ⟨q5, 5, none⟩ (.bool vb)).heap.size (wq.setCell ⟨q5, 5, none⟩ (.bool vb)) wz → InX B bm K q5 w2 last r (.pointer (some ⟨q5, 0, none⟩)) (.int .i64 (-1)) wz) := Lib.hid (fun hT vb hvb wq hq wz hzz => by
              have ej : (z - s.taken).toNat = j := by have := HZ.out; omega
              rw [HRR.out, hT, ej, ← hvb]
              refine ⟨Ad, j, cd, rfl, by rw [HL1.out], ?_, ?_, ?_, ?_⟩
              · have := (HBX.out.below hq).set 5 (.bool vb)
                exact Bx.below this hzz
              · exact ((HOW.out.below hq).only (only_set wq q5 5 (.bool vb)) (fun k hk hs => by have := (HOW.out.lt k hk).1; omega)).below hzz
              · have h1 := HIN.out.below hq
                rw [← HZ.out] at h1
                exact ((h1.only (only_set wq q5 5 (.bool vb)) hBq5 hbq5).mono (by omega)).below hzz
              · exact ((HON.out.new hq).setCell (.inl (.inr (.inr rfl))) _).new hzz)
            have k3B := HIN.out.1.cell 3 (.int .i64 s.stop) rfl
            have k4B := HIN.out.1.cell 4 (.bool s.ended) rfl
            have p5 : wr.cell? ⟨q5, 5, none⟩ = some (.bool false) := HBX.out.cell 5 (.bool false) rfl
            have y5 := HBX.out.soft 5
            obtain ⟨en, hen⟩ : ∃ q, q = s.ended := ⟨_, rfl⟩
            obtain ⟨st, hst⟩ : ∃ q, q = s.stop := ⟨_, rfl⟩
            rw [← hst] at k3B HE
            rw [← hen] at k4B HE
            have hcs : (en = false) ∨ (en = true ∧ z = st) ∨ (en = true ∧ ¬ z = st) := by
              cases en
              · exact .inl rfl
              · by_cases g : z = st
                · exact .inr (.inl ⟨rfl, g⟩)
                · exact .inr (.inr ⟨rfl, g⟩)
            clear hen hst
            by_cases c1 : (j : Int) < ct
            · by_cases c2 : z < s.dn
              · have hmv : mapOf s z = some (s.data.getD z.toNat 0) := by unfold mapOf; rw [if_pos ⟨by omega, cameB_iff.2 (.inl c2)⟩]
                obtain ⟨v, hv⟩ : ∃ v, v = s.data.getD z.toNat 0 := ⟨_, rfl⟩
                rw [hmv, ← hv] at hlk
                simp only [Option.getD_some, Option.isSome_some] at hlk
                have ez : IntKind.i64.wrap (z + 1) = z + 1 := by rw [IntKind.wrap_i64]; omega
                have HTO : Hid ((s.data.drop s.taken.toNat).take (j + 1) = (s.data.drop s.taken.toNat).take j ++ [v]) := Lib.hid (by
                  have hl1 := HOK.out.l1
                  have := HZ.out
                  rw [List.take_add_one, List.getElem?_drop, show s.taken.toNat + j = z.toNat by omega, List.getElem?_eq_getElem (by omega), hv, List.getD_eq_getElem?_getD, List.getElem?_eq_getElem (by omega)]
                  rfl)
                clear hmv hv
                go_upto_region 12 with fail
                go_region
                go_wp2_with (at_builtin; refine wpList_appL (F := byS) rfl _ (.tmp 53) (.tmp 55) 27 rfl _ 1 Try.underlying27 byInfo rfl w2.heap.size Ad j cd _ rfl ((HOW.out.below (Below.refl _ _).drew).below (ba1 _ _)) (some ⟨wr.heap.size, 0, none⟩) 1 1 [v] rfl (ls_new _ _ _ _ rfl _ rfl) rfl (j + 1) rfl (by omega) (by omega) (by have := HON.out.size; simp; omega) ?_; intro A7 c7 w7 ho7 hb7 hs7; have HO7 := Lib.hid ho7; have hbr : Below w2.heap.size wr w7 := ((Below.refl _ _).drew.trans ((ba1 _ _).mono (by have := HON.out.size; simpa using this))).trans hb7; have HBR := Lib.hid hbr; have hx7 := HBX.out.below' hbr (by omega); have p4' := hx7.cell 4 (.slice Ad j cd) rfl; have y4' := hx7.soft 4; have lq' := hx7.lt; have hi7 := HIN.out.1.below' hbr (by omega); have k2B' := hi7.cell 2 (.int .i64 (s.taken + j)) rfl; rw [← HZ.out] at k2B'; have yB' := hi7.soft 2; have lB' := hi7.lt; have HX7 := Lib.hid hx7; have HI7 := Lib.hid hi7; clear ho7 hb7 hs7 hbr hx7 hi7)
                have hze : z + 1 = s.taken + ((j + 1 : Nat) : Int) := by have := HZ.out; omega
                have hxs : Bx 52 ((w7.setCell ⟨q5, 4, none⟩ (.slice A7 ((j + 1 : Nat) : Nat) c7)).setCell ⟨B, 2, none⟩ (.int .i64 (z + 1))) q5 (tkC 0 A7 (j + 1) c7 false) := by
                  have := (HX7.out.set 4 (.slice A7 ((j + 1 : Nat) : Nat) c7)).other hqB5 (j := 2) (.int .i64 (z + 1))
                  exact this
                refine ⟨⟨j + 1, A7, c7, by omega, by omega, hxs, ?_, ⟨?_, ?_⟩, ?_⟩, by rw [lenAt_eq (hxs.cell 4 (.slice A7 (j + 1) c7) rfl), HLEN.out]; omega⟩
                · rw [HTO.out]
                  exact HO7.out.only (S := fun k => k = q5 ∨ k = B) (((Only.refl _ w7).setCell (.inl (.inl rfl)) _).setCell (.inl (.inr rfl)) _) (fun k hk hs => by have := (HO7.out.lt k hk).1; omega)
                · have := (HI7.out.other (S := q5) (j := 4) hBq5 (.slice A7 ((j + 1 : Nat) : Nat) c7)).set 2 (.int .i64 (z + 1))
                  rw [hze] at this ⊢
                  exact this
                · exact ((HIN.out.2.heap (HBR.out.block bm (by omega))).heap (Below.heap_setCell _ _ _ _ hbq5)).heap (Below.heap_setCell _ _ _ _ (fun e => hne e))
                · exact ((only_ge HON.out HBR.out (Nat.le_refl _)).setCell (.inl (.inr (.inr rfl))) _).setCell (.inl (.inl rfl)) _
              · have hzd : z = s.dn := by omega
                have hmv : mapOf s z = none := by
                  rw [hzd]
                  exact (mapOf_none (hmay_parts HOK.out.may).1).2 (fun g => by
                    rcases g with g | g
                    · omega
                    · have := ch_in _ _ (hmay_parts HOK.out.may).2.2.2.1 _ g; omega)
                rw [hmv] at hlk
                simp only [Option.getD_none, Option.isSome_none] at hlk
                have HTO : Hid (takeTo s ct = z) := Lib.hid (by unfold takeTo; have := HZ.out; omega)
                clear hmv hzd
                go_upto_region 12 with fail
                go_region
                go_upto_region 16 with fail
                rcases hcs with rfl | ⟨rfl, g⟩ | ⟨rfl, g⟩
                · have HF := Lib.hid (HE.out HTO.out false (by simp))
                  go_region
                  all_goals
                    go_wp2
                  all_goals
                    go_meet
                  all_goals
                    first
                    | exact HF.out wr.drew (Below.refl _ _).drew _ (Below.refl _ _)
                    | exact HF.out wr.drew (Below.refl _ _).drew _ (Below.refl _ _).drew
                    | exact HF.out (wr.drew).drew ((Below.refl _ _).drew).drew _ (Below.refl _ _)
                · have HF := Lib.hid (HE.out HTO.out true (by simp [g]))
                  have h3 : decide (z = st) = true := by simp; omega
                  have h4 : (z == st) = true := by simp; omega
                  clear g
                  go_region
                  all_goals
                    go_wp2
                  all_goals
                    go_meet
                  all_goals
                    first
                    | exact HF.out wr.drew (Below.refl _ _).drew _ (Below.refl _ _)
                    | exact HF.out wr.drew (Below.refl _ _).drew _ (Below.refl _ _).drew
                    | exact HF.out (wr.drew).drew ((Below.refl _ _).drew).drew _ (Below.refl _ _)
                · have HF := Lib.hid (HE.out HTO.out false (by simp [g]))
                  have h3 : decide (z = st) = false := by simp; omega
                  have h4 : (z == st) = false := by simp; omega
                  clear g
                  go_region
                  all_goals
                    go_wp2
                  all_goals
                    go_meet
                  all_goals
                    first
                    | exact HF.out wr.drew (Below.refl _ _).drew _ (Below.refl _ _)
                    | exact HF.out wr.drew (Below.refl _ _).drew _ (Below.refl _ _).drew
                    | exact HF.out (wr.drew).drew ((Below.refl _ _).drew).drew _ (Below.refl _ _)
            · have HTO : Hid (takeTo s ct = z) := Lib.hid (by unfold takeTo; have := HZ.out; omega)
              clear hlk
              go_upto_region 16 with fail
              rcases hcs with rfl | ⟨rfl, g⟩ | ⟨rfl, g⟩
              · have HF := Lib.hid (HE.out HTO.out false (by simp))
                go_region
                all_goals
                  go_wp2
                all_goals
                  go_meet
                all_goals
                  first
                  | exact HF.out wr (Below.refl _ _) _ (Below.refl _ _)
                  | exact HF.out wr (Below.refl _ _) _ (Below.refl _ _).drew
                  | exact HF.out (wr).drew ((Below.refl _ _)).drew _ (Below.refl _ _)
              · have HF := Lib.hid (HE.out HTO.out true (by simp [g]))
                have h3 : decide (z = st) = true := by simp; omega
                have h4 : (z == st) = true := by simp; omega
                clear g
                go_region
                all_goals
                  go_wp2
                all_goals
                  go_meet
                all_goals
                  first
                  | exact HF.out wr (Below.refl _ _) _ (Below.refl _ _)
                  | exact HF.out wr (Below.refl _ _) _ (Below.refl _ _).drew
                  | exact HF.out (wr).drew ((Below.refl _ _)).drew _ (Below.refl _ _)
              · have HF := Lib.hid (HE.out HTO.out false (by simp [g]))
                have h3 : decide (z = st) = false := by simp; omega
                have h4 : (z == st) = false := by simp; omega
                clear g
                go_region
                all_goals
                  go_wp2
                all_goals
                  go_meet
                all_goals
                  first
                  | exact HF.out wr (Below.refl _ _) _ (Below.refl _ _)
                  | exact HF.out wr (Below.refl _ _) _ (Below.refl _ _).drew
                  | exact HF.out (wr).drew ((Below.refl _ _)).drew _ (Below.refl _ _)
      · have HR1 : Hid (r = ((3, [], false), s)) := Lib.hid (by rw [HR.out]; unfold hearR; rw [← HKD.out, if_neg h1, if_neg h2])
        have HL1 : Hid (last = -1) := Lib.hid (by rw [HLA.out]; unfold lastOf; rw [← HKD.out, if_neg h1])
        have p0 := HX5.out.cell 0 (.int .i64 0) rfl
        have y0 := HX5.out.soft 0
        have hq5s := HX5.out.lt
        clear k1 k2 k3 k4
        go_wp2_with fail
        go_meet
        rw [HR1.out, HL1.out]
        refine ⟨none, 0, 0, rfl, rfl, ?_, OwnL.nil _ _, ?_, ?_⟩
        · have := HX5.out.set 0 (.int .i64 3); exact this
        · exact (HI2.out.only (only_set w2 q5 0 _) hBq5 hbq5).mono (by omega)
        · exact (only_set w2 q5 0 _).mono (fun k hk => .inr (.inr hk))
  case rest =>
    obtain ⟨A6, n6, c6, rfl, rfl, hbx, how, hin, hon⟩ := hcut
    obtain ⟨w3, hw3⟩ : ∃ w3, w3 = wc := ⟨_, rfl⟩
    subst hw3
    obtain ⟨⟨kc, kb, ks⟩, s3⟩ := r
    simp only at hbx how hin
    unfold tkC at hbx
    have HBX3 := Lib.hid hbx
    have HOW3 := Lib.hid how
    have HIN3 := Lib.hid hin
    have HON3 := Lib.hid hon
    have HRE : Hid (hearR s a = ((kc, kb, ks), s3)) := Lib.hid HR.out.symm
    have hok3 : HrOk s3 := by have := hear_ok HOK.out a; rw [show (hear s a).2 = (hearR s a).2 from rfl, HRE.out] at this; exact this
    have HOK3 := Lib.hid hok3
    have HX43 : Hid (Bx 52 w3 q4 #[.int .i64 0, .int .i64 0, .int .i64 0, .slice none 0 0, .slice none 0 0, .bool false]) := Lib.hid (HX4.out.only hon (fun g => by omega))
    obtain ⟨dn, hdn⟩ : ∃ d, d = s3.dn := ⟨_, rfl⟩
    obtain ⟨en, hen⟩ : ∃ d, d = s3.ended := ⟨_, rfl⟩
    obtain ⟨st, hst⟩ : ∃ d, d = s3.stop := ⟨_, rfl⟩
    obtain ⟨bl, hbl⟩ : ∃ d, d = s3.bt.length := ⟨_, rfl⟩
    obtain ⟨tk, htk⟩ : ∃ d, d = s3.taken := ⟨_, rfl⟩
    obtain ⟨rm, hrm⟩ : ∃ d, d = s3.room := ⟨_, rfl⟩
    obtain ⟨ack, hack⟩ : ∃ d, d = ackOf s3 := ⟨_, rfl⟩
    obtain ⟨win, hwin⟩ : ∃ d, d = tk + rm - dn := ⟨_, rfl⟩
    obtain ⟨sl, hsl⟩ : ∃ l, l = (sackAll last s3.bt).take 3 := ⟨_, rfl⟩
    obtain ⟨m, hm⟩ : ∃ m, sl.length = m := ⟨_, rfl⟩
    have hc0 := hin.1.cell 0 (.int .i64 s3.room) rfl
    have hc2 := hin.1.cell 2 (.int .i64 s3.taken) rfl
    have hc3 := hin.1.cell 3 (.int .i64 s3.stop) rfl
    have hc4 := hin.1.cell 4 (.bool s3.ended) rfl
    rw [← hrm] at hc0
    rw [← htk] at hc2
    rw [← hst] at hc3
    rw [← hen] at hc4
    obtain ⟨m1, m2, m3, m4, m5, m6⟩ := hmay_parts hok3.may
    have hdb : 0 ≤ dn ∧ dn ≤ 1048576 := by rw [hdn]; exact ⟨m1, m2⟩
    have htb : 0 ≤ tk ∧ tk ≤ dn ∧ 1 ≤ rm ∧ rm ≤ 4096 := by rw [htk, hdn, hrm]; exact ⟨hok3.t0, hok3.t1, hok3.r1, hok3.r2⟩
    have hbl16 : bl ≤ 16 := by rw [hbl]; exact m3
    have e1 : IntKind.i64.wrap (dn + 1) = dn + 1 := by rw [IntKind.wrap_i64]; omega
    have e2 : IntKind.i64.wrap (tk + rm) = tk + rm := by rw [IntKind.wrap_i64]; omega
    have e3 : IntKind.i64.wrap (tk + rm - dn) = win := by rw [IntKind.wrap_i64]; omega
    have HACK : Hid (ack = if en = true ∧ dn = st then dn + 1 else dn) := Lib.hid (by rw [hack, hen, hdn, hst]; rfl)
    have HQ : Hid (hear s a = (⟨kc, ack, win, sl, kb, ks⟩, s3)) := Lib.hid (by
      unfold hear; rw [HRE.out, hack, hwin, hsl, HLA.out, htk, hrm, hdn])
    have HMM1 : Hid (∀ x, 0 ≤ x → ((mapOf s3 x).isSome = true ↔ Came s3.dn s3.bt x)) := Lib.hid (fun x h0 => mapOf_some h0)
    have HLW : Hid (∀ wk, Only (fun k => k = q5) w3 wk → Calls Try.prog 61 #[.pointer (some ⟨B, 0, none⟩)] wk fun e w' => e = .returned (.int .i64 dn) ∧ wk = w') := Lib.hid (fun wk hk => by
      have hI := HIN3.out.only hk hBq5 hbq5
      rw [hdn]
      exact low_any wk B bm (K + 64) s3.room s3.taken s3.stop s3.ended (mapOf s3) s3.dn hI.1 hI.2 hok3.t0 hok3.t1 m2 (fun x g1 g2 => (mapOf_some (by have := hok3.t0; omega)).2 (.inl g2)) ((mapOf_none m1).2 (fun g => by
        rcases g with g | g
        · omega
        · have := ch_in _ _ m4 _ g; omega)))
    have HRNG : Hid (∀ wk, Only (fun k => k = q5) w3 wk → Calls Try.prog 63 #[.pointer (some ⟨B, 0, none⟩)] wk fun e w' => ∃ A c, e = .returned (.slice A bl c) ∧ OwnL rgS 44 w' wk.heap.size A bl c s3.bt ∧ Below wk.heap.size wk w') := Lib.hid (fun wk hk => by
      have hI := HIN3.out.only hk hBq5 hbq5
      rw [hbl]
      exact ranges_any wk B bm (K + 64) s3.room s3.taken s3.stop s3.ended (mapOf s3) s3.dn s3.bt hI.1 hI.2 hok3.t0 hok3.t1 m2 m6 hok3.r1 hok3.r2 hok3.d1 hok3.d2 HMM1.out)
    have HSK : Hid (∀ wk A c, Ls rgS wk A s3.bt → Calls Try.prog 62 #[.int .i64 dn, .slice A bl c, .int .i64 last, .int .i64 3] wk (RetRS wk sl)) := Lib.hid (fun wk A c h => by
      rw [hsl, hdn]
      exact refSacks_ok s3.dn A bl c s3.bt last 3 wk (ls_rsH.1 h) hbl.symm hok3.may (by omega))
    have HSL := Lib.hid hsl
    have HMM := Lib.hid hm
    clear hdn hen hst hbl htk hrm hack hwin hsl hm m1 m2 m3 m4 m5 m6 how hon
    have lB := HIN3.out.1.lt
    have HCS : Hid (∀ j v, w3.cell? ⟨B, j, none⟩ = some v → ∀ wk, Only (fun k => k = q5) w3 wk → wk.cell? ⟨B, j, none⟩ = some v) := Lib.hid (fun j v hv wk hk => (World.cell?_of_block (a := ⟨B, j, none⟩) (hk.block B lB hBq5)).trans hv)
    have HC := Lib.hid (And.intro hc0 (And.intro hc2 (And.intro hc3 hc4)))
    have p1 := hbx.cell 1 (.int .i64 0) rfl
    have y1 := hbx.soft 1
    have lq5 := hbx.lt
    clear hc0 hc2 hc3 hc4 hbx hin
    go_upto_region 19 with (go_at_call 61; (refine (HLW.out w3 (Only.refl _ _)).mono ?_); rintro e w' ⟨rfl, rfl⟩)
    obtain ⟨w4, hw4⟩ : ∃ w4, w4 = w3.setCell ⟨q5, 1, none⟩ (.int .i64 dn) := ⟨_, rfl⟩
    have HN4 : Hid (Only (fun k => k = q5) w3 w4) := Lib.hid (by rw [hw4]; exact only_set w3 q5 1 _)
    have HX54 : Hid (Bx 52 w4 q5 #[.int .i64 kc, .int .i64 dn, .int .i64 0, .slice none 0 0, .slice A6 n6 c6, .bool ks]) := Lib.hid (by rw [hw4]; have := HBX3.out.set 1 (.int .i64 dn); exact this)
    rw [← hw4]
    clear hw4 p1 y1 lq5
    have k3 := HCS.out _ _ HC.out.2.2.1 w4 HN4.out
    have k4 := HCS.out _ _ HC.out.2.2.2 w4 HN4.out
    have lB4 : B < w4.heap.size := Nat.lt_of_lt_of_le lB HN4.out.size
    obtain ⟨v11, hv11⟩ : ∃ v, v = (en && decide (dn = st)) := ⟨_, rfl⟩
    have HV := Lib.hid hv11
    clear hv11
    go_cut [6, 96] (fun l v wx => l = .int .i64 last ∧ v = .bool v11 ∧ w4 = wx)
    case first =>
      have hcs : (en = false ∧ v11 = false) ∨ (en = true ∧ dn = st ∧ v11 = true) ∨ (en = true ∧ ¬ dn = st ∧ v11 = false) := by
        have hv := HV.out
        cases en
        · exact .inl ⟨rfl, by simpa using hv⟩
        · by_cases g : dn = st
          · exact .inr (.inl ⟨rfl, g, by simpa [g] using hv⟩)
          · exact .inr (.inr ⟨rfl, g, by simpa [g] using hv⟩)
      rcases hcs with ⟨rfl, rfl⟩ | ⟨rfl, g, rfl⟩ | ⟨rfl, g, rfl⟩
      · go_wp2_with fail
        go_meet
        exact ⟨rfl, rfl, rfl⟩
      · have h3 : decide (dn = st) = true := by simp; omega
        have h4 : (dn == st) = true := by simp; omega
        clear g
        go_wp2_with fail
        go_meet
        exact ⟨rfl, rfl, rfl⟩
      · have h3 : decide (dn = st) = false := by simp; omega
        have h4 : (dn == st) = false := by simp; omega
        clear g
        go_wp2_with fail
        go_meet
        exact ⟨rfl, rfl, rfl⟩
    case rest =>
      obtain ⟨rfl, rfl, hwx⟩ := hcut
      subst hwx
      clear k3 k4 lB4
      have p1 := HX54.out.cell 1 (.int .i64 dn) rfl
      have y1 := HX54.out.soft 1
      have lq5 := HX54.out.lt
      go_upto_if 96 with fail
      go_cut [6] (fun l wx => l = .int .i64 last ∧ Bx 52 wx q5 #[.int .i64 kc, .int .i64 ack, .int .i64 0, .slice none 0 0, .slice A6 n6 c6, .bool ks] ∧ Only (fun k => k = q5) w3 wx)
      case first =>
        rcases hv : v11 with _ | _
        · have HAD : Hid (ack = dn) := Lib.hid (by
            rw [HACK.out]; have := HV.out; rw [hv] at this
            rw [if_neg (fun g => by rw [g.1, g.2] at this; simp at this)])
          subst hv
          go_wp2_with fail
          go_meet
          exact ⟨rfl, by rw [HAD.out]; exact HX54.out, HN4.out⟩
        · have HAD : Hid (ack = dn + 1) := Lib.hid (by
            rw [HACK.out]; have := HV.out; rw [hv] at this
            have h2 := this.symm
            simp only [Bool.and_eq_true, decide_eq_true_eq] at h2
            rw [if_pos h2])
          subst hv
          go_wp2_with fail
          go_meet
          exact ⟨rfl, by rw [HAD.out]; have := HX54.out.set 1 (.int .i64 (dn + 1)); exact this, HN4.out.trans (only_set _ q5 1 _) (fun k hk => .inl hk)⟩
      case rest =>
        obtain ⟨rfl, hx6, hn6⟩ := hcut
        obtain ⟨w6, hw6⟩ : ∃ w6, w6 = wc := ⟨_, rfl⟩
        subst hw6
        have HX6 := Lib.hid hx6
        have HN6 := Lib.hid hn6
        clear p1 y1 lq5 hn6
        go_upto_region 21 with fail
        have k0 := HCS.out _ _ HC.out.1 w6 HN6.out
        have k2 := HCS.out _ _ HC.out.2.1 w6 HN6.out
        have lB6 : B < w6.heap.size := Nat.lt_of_lt_of_le lB HN6.out.size
        have p2 := hx6.cell 2 (.int .i64 0) rfl
        have y2 := hx6.soft 2
        have lq6 := hx6.lt
        clear hx6
        go_cut [6] (fun l wx => l = .int .i64 last ∧ Bx 52 wx q5 #[.int .i64 kc, .int .i64 ack, .int .i64 win, .slice none 0 0, .slice A6 n6 c6, .bool ks] ∧ Only (fun k => k = q5) w3 wx)
        case first =>
          have HB1 : Hid (Bx 52 (w6.setCell ⟨q5, 2, none⟩ (.int .i64 win)) q5 #[.int .i64 kc, .int .i64 ack, .int .i64 win, .slice none 0 0, .slice A6 n6 c6, .bool ks]) := Lib.hid (by have := HX6.out.set 2 (.int .i64 win); exact this)
          have HB2' : Hid (Bx 52 (w6.drew.setCell ⟨q5, 2, none⟩ (.int .i64 win)) q5 #[.int .i64 kc, .int .i64 ack, .int .i64 win, .slice none 0 0, .slice A6 n6 c6, .bool ks]) := Lib.hid (by have := (HX6.out.below (Below.refl _ _).drew).set 2 (.int .i64 win); exact this)
          have HO1 : Hid (Only (fun k => k = q5) w3 (w6.setCell ⟨q5, 2, none⟩ (.int .i64 win))) := Lib.hid (HN6.out.trans (only_set _ q5 2 _) (fun k hk => .inl hk))
          have HO2 : Hid (Only (fun k => k = q5) w3 (w6.drew.setCell ⟨q5, 2, none⟩ (.int .i64 win))) := Lib.hid (HN6.out.drew.trans (only_set _ q5 2 _) (fun k hk => .inl hk))
          go_region
          all_goals
            go_wp2
          all_goals
            go_meet
          all_goals
            first
            | exact ⟨rfl, HB1.out.below (Below.refl _ _).drew, HO1.out.drew⟩
            | exact ⟨rfl, HB2'.out, HO2.out⟩
        case rest =>
          obtain ⟨rfl, hx7, hn7⟩ := hcut
          obtain ⟨w7, hw7⟩ : ∃ w7, w7 = wc := ⟨_, rfl⟩
          subst hw7
          have HX7 := Lib.hid hx7
          have HN7 := Lib.hid hn7
          clear k0 k2 lB6 p2 y2 lq6
          have HRG := Lib.hid (HRNG.out w7 hn7)
          clear hx7 hn7
          go_upto_region 23 with (first
            | (go_at_call 63; (refine HRG.out.mono ?_); rintro e w8 ⟨A8, c8, rfl, ho8, hb8⟩; have HO8 := Lib.hid ho8; have HB8 := Lib.hid hb8; clear ho8 hb8)
            | (go_at_call 62; (refine (HSK.out w8 A8 c8 HO8.out.ls).mono ?_); unfold RetRS; rw [HMM.out]; rintro e w9 ⟨S8, sc8, rfl, hs9, hc9, hb9⟩; have HS9 := Lib.hid hs9; have HC9 := Lib.hid hc9; have HB9 := Lib.hid hb9; have hx9 := (HX7.out.below HB8.out).below hb9; have HX9 := Lib.hid hx9; have p3 := hx9.cell 3 (.slice none 0 0) rfl; have y3 := hx9.soft 3; have lq9 := hx9.lt; clear hs9 hc9 hb9 hx9))
          obtain ⟨wA, hwA⟩ : ∃ wA, wA = w9.setCell ⟨q5, 3, none⟩ (.slice S8 m sc8) := ⟨_, rfl⟩
          have HXA : Hid (Bx 52 wA q5 #[.int .i64 kc, .int .i64 ack, .int .i64 win, .slice S8 m sc8, .slice A6 n6 c6, .bool ks]) := Lib.hid (by rw [hwA]; have := HX9.out.set 3 (.slice S8 m sc8); exact this)
          have HN9A : Hid (Only (fun k => k = q5) w9 wA) := Lib.hid (by rw [hwA]; exact only_set w9 q5 3 _)
          have HB79 : Hid (Below w7.heap.size w7 w9) := Lib.hid (bthen HB8.out HB9.out)
          have HNA : Hid (Only (fun k => k = q5) w3 wA) := Lib.hid ((HN7.out.new HB79.out).trans HN9A.out (fun j hj => .inl hj))
          have HX4A : Hid (Bx 52 wA q4 #[.int .i64 0, .int .i64 0, .int .i64 0, .slice none 0 0, .slice none 0 0, .bool false]) := Lib.hid (HX43.out.only HNA.out hq45)
          rw [← hwA]
          clear hwA p3 y3 lq9
          have p0 := HXA.out.cell 0 (.int .i64 kc) rfl
          have p1 := HXA.out.cell 1 (.int .i64 ack) rfl
          have p2 := HXA.out.cell 2 (.int .i64 win) rfl
          have p3 := HXA.out.cell 3 (.slice S8 m sc8) rfl
          have p4 := HXA.out.cell 4 (.slice A6 n6 c6) rfl
          have p5 := HXA.out.cell 5 (.bool ks) rfl
          have lA := HXA.out.lt
          have b0 := HX4A.out.cell 0 (.int .i64 0) rfl
          have b1 := HX4A.out.cell 1 (.int .i64 0) rfl
          have b2 := HX4A.out.cell 2 (.int .i64 0) rfl
          have b3 := HX4A.out.cell 3 (.slice none 0 0) rfl
          have b4 := HX4A.out.cell 4 (.slice none 0 0) rfl
          have b5 := HX4A.out.cell 5 (.bool false) rfl
          have y0 := HX4A.out.soft 0
          have y1 := HX4A.out.soft 1
          have y2 := HX4A.out.soft 2
          have y3 := HX4A.out.soft 3
          have y4 := HX4A.out.soft 4
          have y5 := HX4A.out.soft 5
          have l4A := HX4A.out.lt
          obtain ⟨W, hW⟩ : ∃ W, W = put6 wA q4 (.int .i64 kc) (.int .i64 ack) (.int .i64 win) (.slice S8 m sc8) (.slice A6 n6 c6) (.bool ks) := ⟨_, rfl⟩
          have HXW : Hid (Bx 52 W q4 #[.int .i64 kc, .int .i64 ack, .int .i64 win, .slice S8 m sc8, .slice A6 n6 c6, .bool ks]) := Lib.hid (by rw [hW]; exact HX4A.out.put6 _ _ _ _ _ _)
          have HOW4 : Hid (Only (fun k => k = q4) wA W) := Lib.hid (by rw [hW]; exact only_put6 _ _ _ _ _ _ _ _)
          go_wp2_with fail
          unfold put6 at hW
          rw [← hW]
          clear hW p0 p1 p2 p3 p4 p5 b0 b1 b2 b3 b4 b5 y0 y1 y2 y3 y4 y5
          have r0 := HXW.out.cell 0 (.int .i64 kc) rfl
          have r1 := HXW.out.cell 1 (.int .i64 ack) rfl
          have r2 := HXW.out.cell 2 (.int .i64 win) rfl
          have r3 := HXW.out.cell 3 (.slice S8 m sc8) rfl
          have r4 := HXW.out.cell 4 (.slice A6 n6 c6) rfl
          have r5 := HXW.out.cell 5 (.bool ks) rfl
          refine end_ret (v := .agg #[.int .i64 kc, .int .i64 ack, .int .i64 win, .slice S8 m sc8, .slice A6 n6 c6, .bool ks]) (by simp [results, Try.results45, go_sem, r0, r1, r2, r3, r4, r5]) ?_
          rw [HQ.out]
          have hown := HOW3.out.lt
          have h23 := HON3.out.size
          have h37 := HN7.out.size
          have h78 := HB8.out.size
          have h89 := HB9.out.size
          have h9A := HN9A.out.size
          have hAW := HOW4.out.size
          have hs9' : ∀ ad, S8 = some ad → w3.heap.size ≤ ad.block ∧ ad.block < w9.heap.size := fun ad had => by have h1 := HC9.out ad had; omega
          have ho9W : Only (fun k => k = q5 ∨ k = q4) w9 W := (HN9A.out.mono (fun k hk => .inl hk)).trans HOW4.out (fun j hj => .inl (.inr hj))
          have ho3W : Only (fun k => k = q5 ∨ k = q4) w3 W := (HNA.out.mono (fun k hk => .inl hk)).trans HOW4.out (fun j hj => .inl (.inr hj))
          have hw2 := HB2.out.size
          refine ⟨S8, m, sc8, A6, n6, c6, rfl, HMM.out, ?_, ?_, ?_, ?_, ?_⟩
          · exact (HOW3.out.only ho3W (fun k hk hs => by have := hown k hk; omega)).base (by omega)
          · exact (ls_rsH.2 HS9.out).only ho9W (fun ad had hs => by have := hs9' ad had; omega)
          · exact fun ad had => by have := hs9' ad had; omega
          · exact HIN3.out.only ho3W (fun g => by omega) (fun g => by omega)
          · refine ⟨?_, ?_, ?_, ?_, fun k hk hS => ?_⟩
            · exact (ho3W.os.trans HON3.out.os).trans HB2.out.os
            · exact (ho3W.tape.trans HON3.out.tape).trans HB2.out.tape
            · exact (ho3W.output.trans HON3.out.output).trans HB2.out.output
            · omega
            · rw [ho3W.block k (by omega) (by omega), HON3.out.block k (by omega) (by omega), HB2.out.block k hk]

end Go.Proofs.Ytehckiihipnimaa
