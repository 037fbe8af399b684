/-
  packthreadkeep.TreeLinked.
-/
import Derived.Test.YtdekpmidaleipaaDoorTLast
import Derived.Test.YtdekpmidaleipaaDoorTLinkMath2
import Derived.Deep.DeepCutAuto
import Derived.Deep.CutBlock
import Derived.Deep.RegionHeld3
import Derived.BigRegion
import Derived.RegionTactic
namespace Go.Proofs.YtdekpmidaleipaaDoor
open Go.RowKit Go.Maps
set_option linter.unusedVariables false
set_option linter.unusedSimpArgs false

theorem pbs_len (n : Int) : (pbs n).length = pbN n := by unfold pbs; simp
theorem pbAt_name (n : Int) (i : Nat) : nameB (pbAt n i) = true := by
  have h := pbAt_len n i
  rcases getD_in letters ((n.tdiv (7 * ((i : Int) + 1))) % 4).toNat with g | g
  · have : ∀ x ∈ letters, nameB x = true := by decide
    exact this _ g
  · have e : pbAt n i = [] := g
    rw [e] at h; cases h
/-- the path of a number is clean -/
theorem path_clean (n : Int) : clean (pathBy n) = .ok (pbs n) ∧ LoL (pbs n) ∧ pathBy n ≠ [] ∧ (pathBy n).length ≤ 200 := by
  have hN : pbN n ≤ 3 := by unfold pbN; omega
  have hN1 : 1 ≤ pbN n := by unfold pbN; omega
  have hnm : ∀ x ∈ pbs n, nameB x = true := fun x hx => by
    obtain ⟨i, -, rfl⟩ := List.mem_map.1 hx
    exact pbAt_name n i
  have hne : pbs n ≠ [] := fun e => by have := pbs_len n; rw [e] at this; simp at this; omega
  have hlen : (pathBy n).length = 2 * pbN n := pbk_len n (pbN n)
  have hcl : Clean_ (pbs n) := ⟨by rw [pbs_len]; omega, hnm⟩
  refine ⟨?_, fun x hx => ?_, fun e => by rw [e] at hlen; simp at hlen; omega, by omega⟩
  · have := clean_join hcl (by unfold joinN; rw [if_neg hne]; exact (show (pathBy n).length ≤ 200 by omega))
    unfold joinN at this
    rw [if_neg hne] at this
    exact this
  · intro b hb
    exact lo_pathBy n b (by
      unfold pathBy
      have : ∀ (l : List Byt), x ∈ l → b ∈ joinP l := fun l => by
        induction l with
        | nil => intro h; cases h
        | cons y r ih =>
          intro h
          simp only [joinP]
          rcases List.mem_cons.1 h with rfl | h
          · exact List.mem_cons_of_mem _ (List.mem_append_left _ hb)
          · exact List.mem_cons_of_mem _ (List.mem_append_right _ (ih h))
      exact this _ hx)
/-- what the acts come to is a tree -/
theorem acts_tree {w : World} {xs : List Acv} {S : Nat → Prop} (hi : AcI w S xs) (hl : LoA xs) : WF (actsT root0 (xs.map Acv.a)) ∧ LoT (actsT root0 (xs.map Acv.a)) := by
  refine ⟨actsT_wf _ wf_root fun a ha => ?_, actsT_lo _ lo_root fun a ha => ?_⟩
  · obtain ⟨x, hx, rfl⟩ := List.mem_map.1 ha
    exact (hi x hx).1.2.2
  · obtain ⟨x, hx, rfl⟩ := List.mem_map.1 ha
    exact hl x hx

/-- an act without bytes, as it lies -/
def plainA (a : Ac) : Acv := ⟨a, none, 0, 0⟩
theorem plain_in (w : World) (l : List Ac) (h : ∀ a ∈ l, a.data = []) : AcIn w (l.map plainA) := fun x hx => by
  obtain ⟨a, ha, rfl⟩ := List.mem_map.1 hx
  have := h a ha
  exact ⟨by show Ls byS w none a.data; rw [this]; exact Ls.nil _ _, by show a.data.length = 0; rw [this]; rfl, by show ∀ z ∈ a.data, _; rw [this]; simp⟩
theorem plain_map (l : List Ac) : (l.map plainA).map Acv.a = l := by rw [List.map_map]; exact List.map_id' l

/-- what the walk keeps: the acts; the look, the look by the link, the link -/
def LkK (A : Option Addr) (n : Nat) (xs : List Acv) (q0 q1 q2 : Nat) (kd : Int) (pth : Byt) (w : World) : Prop :=
  Asl w A n xs ∧ Bx 36 w q0 (acV (plainA (lookA kd pth))) ∧ Bx 36 w q1 (acV (plainA (lookA kd zzP))) ∧ Bx 36 w q2 (acV (plainA (linkA pth)))
theorem LkK.below {A : Option Addr} {n : Nat} {xs : List Acv} {q0 q1 q2 : Nat} {kd : Int} {pth : Byt} {w w' : World} (h : LkK A n xs q0 q1 q2 kd pth w) (hb : Below w.heap.size w w') : LkK A n xs q0 q1 q2 kd pth w' :=
  ⟨h.1.below hb, h.2.1.below hb, h.2.2.1.below hb, h.2.2.2.below hb⟩

theorem linked_all {xs : List Acv} {m : Nat} (hm : xs.length = m) (hT : WF (actsT root0 (xs.map Acv.a)) ∧ LoT (actsT root0 (xs.map Acv.a))) (p : Byt) (names : List Byt) (hc : clean p = .ok names ∧ LoL names ∧ p ≠ [] ∧ p.length ≤ 200) (k : Int) (hk : k = 7 ∨ k = 6 ∨ k = 4) :
    ∃ S1 S2 S3 S4 S5 : Sn, (seenT root0 (xs.map Acv.a ++ [plainA (linkA p)].map Acv.a))[m + 0]? = some S1 ∧ (seenT root0 (xs.map Acv.a ++ [plainA (linkA p), plainA (lookA k p)].map Acv.a))[m + 1]? = some S2 ∧
      (seenT root0 (xs.map Acv.a ++ [plainA (linkA p), plainA (lookA k zzP)].map Acv.a))[m + 1]? = some S3 ∧ (seenT root0 (xs.map Acv.a ++ [plainA (linkA p), plainA remA, plainA (lookA k p)].map Acv.a))[m + 2]? = some S4 ∧
      (seenT root0 (xs.map Acv.a ++ [plainA (lookA k p)].map Acv.a))[m + 0]? = some S5 ∧ (S1.code = 9 ∨ (S1.code = 0 ∧ (S3.code = 13 ∨ S3 = S2) ∧ S4 = S5)) := by
  have hm' : (xs.map Acv.a).length = m := by rw [List.length_map, hm]
  have l1 := fun a => last1 root0 (xs.map Acv.a) a
  have l2 := fun a b => last2 root0 (xs.map Acv.a) a b
  have l3 := fun a b c => last3 root0 (xs.map Acv.a) a b c
  rw [hm'] at l1 l2 l3
  exact ⟨_, _, _, _, _, l1 _, l2 _ _, l2 _ _, l3 _ _ _, l1 _, linked hT.1 hT.2 p names hc.1 hc.2.1 hc.2.2.1 hc.2.2.2 k hk⟩

set_option maxRecDepth 100000 in
set_option maxHeartbeats 8000000 in
theorem treeLinked_any (L : Option Addr) (n c : Nat) (l : List Jv) (p k0 : Int) (w : World) (hb : Ls jbS w L l) (hl : l.length = n) (hin : JIn w l) (hn : n ≤ 100000000000000) (h1 : -9223372036854775808 ≤ p) (h2 : p ≤ 9223372036854775807) (h3 : -9223372036854775808 ≤ k0) (h4 : k0 ≤ 9223372036854775807) :
    Calls Tryd.prog 7 #[.slice L n c, .int .i64 p, .int .i64 k0] w fun e w' => e = .returned (.bool true) ∧ Below w.heap.size w w' := by
  have HB := Lib.hid hb
  have HN := Lib.hid hl
  have HI := Lib.hid hin
  clear hb hl hin
  obtain ⟨kp, hkp, hkp3⟩ := pick_nat k0 3 (by omega)
  have HPK := Lib.hid (fun wx => picked_n k0 3 kp wx hkp h3 h4 (by omega) (by omega))
  have HPA := Lib.hid (fun wx => pathBy_any p wx h1 h2)
  obtain ⟨pth, hpth⟩ : ∃ s, s = pathBy p := ⟨_, rfl⟩
  have HCL := Lib.hid (path_clean p)
  rw [← hpth] at HPA HCL
  clear hkp hpth h1 h2 h3 h4
  go_enter Tryd.func7, Tryd.ntmps7
  go_upto_region 3 with (first
    | (go_at_call 9; refine (acts_any L n c 60 l w HB.out HN.out HI.out hn (by omega)).mono ?_; rintro e w1 ⟨m, A1, c1, xs, rfl, hk, ho1, hi1, hb1, hlo1⟩; have HO1 := Lib.hid ho1; have HI1 := Lib.hid hi1; have HB1 := Lib.hid hb1; have HLO := Lib.hid hlo1; clear ho1 hi1 hb1 hlo1)
    | (go_at_call 10; refine (HPA.out w1).mono ?_; rintro e w2 ⟨rfl, hb2⟩; have HB2 := Lib.hid hb2; clear hb2))
  have HT := Lib.hid (acts_tree HI1.out HLO.out)
  have HA2 : Hid (Asl w2 A1 m xs) := Lib.hid ⟨(HO1.out.below HB2.out).ls, HO1.out.1, HI1.out.acin.below HB2.out⟩
  have HBW : Hid (Below w.heap.size w w2) := Lib.hid (bthen HB1.out HB2.out)
  go_cut [9] (fun v wc => ∃ (q : Nat) (kd : Int), v = .pointer (some ⟨q, 0, none⟩) ∧ Hid (kd = 7 ∨ kd = 6 ∨ kd = 4) ∧ Hid (Bx 36 wc q (acV (plainA (lookA kd pth)))) ∧ Hid (Below w2.heap.size w2 wc))
  case first =>
    have hkk : kp = 0 ∨ kp = 1 ∨ kp = 2 := by omega
    rcases hkk with rfl | rfl | rfl
    all_goals
      go_wp2_with (go_at_call 12; (with_reducible refine (HPK.out _).mono ?_); rintro e w' ⟨rfl, rfl⟩)
      go_meet
      have hz := fun kd : Int => bx_new (w2.alloc (.cells #[.int .i64 7, .int .i64 6, .int .i64 4] 3)) 36 (acV (plainA (lookA kd pth)))
      rw [World.size_alloc] at hz
      first
        | exact ⟨w2.heap.size + 1, 7, rfl, Lib.hid (.inl rfl), Lib.hid (hz 7), Lib.hid (ba2 _ _ _)⟩
        | exact ⟨w2.heap.size + 1, 6, rfl, Lib.hid (.inr (.inl rfl)), Lib.hid (hz 6), Lib.hid (ba2 _ _ _)⟩
        | exact ⟨w2.heap.size + 1, 4, rfl, Lib.hid (.inr (.inr rfl)), Lib.hid (hz 4), Lib.hid (ba2 _ _ _)⟩
  case rest =>
    obtain ⟨q0, kd, rfl, HKD, HX0, HBC⟩ := hcut
    obtain ⟨w3, hw3⟩ : ∃ w3, w3 = wc := ⟨_, rfl⟩
    subst hw3
    obtain ⟨lq0, a0, a1, a2, a3, a4, a5, -⟩ := (show Bx 36 w3 q0 #[.int .i64 kd, .string (tx pth), .string ⟨#[]⟩, .int .i64 0, .int .i64 60, .slice none 0 0] from HX0.out).all6
    obtain ⟨w4, hw4⟩ : ∃ w4, w4 = (w3.alloc (.cells #[.int .i64 kd, .string ⟨#[47, 122, 122]⟩, .string ⟨#[]⟩, .int .i64 0, .int .i64 60, .slice none 0 0] 36)).alloc (.cells #[.int .i64 10, .string ⟨#[47, 122, 122]⟩, .string (tx pth), .int .i64 0, .int .i64 0, .slice none 0 0] 36) := ⟨_, rfl⟩
    obtain ⟨q1, hq1⟩ : ∃ q1, q1 = w3.heap.size := ⟨_, rfl⟩
    obtain ⟨q2, hq2⟩ : ∃ q2, q2 = w3.heap.size + 1 := ⟨_, rfl⟩
    have HB4 : Hid (Below w3.heap.size w3 w4) := Lib.hid (by rw [hw4]; exact ba2 _ _ _)
    have HK4 : Hid (LkK A1 m xs q0 q1 q2 kd pth w4) := Lib.hid (by
      refine ⟨(HA2.out.below HBC.out).below HB4.out, HX0.out.below HB4.out, ?_, ?_⟩
      · rw [hw4, hq1]; exact (bx_new w3 _ _).below (ba1 _ _)
      · have := bx_new (w3.alloc (.cells #[.int .i64 kd, .string ⟨#[47, 122, 122]⟩, .string ⟨#[]⟩, .int .i64 0, .int .i64 60, .slice none 0 0] 36)) 36 #[.int .i64 10, .string ⟨#[47, 122, 122]⟩, .string (tx pth), .int .i64 0, .int .i64 0, .slice none 0 0]
        rw [World.size_alloc] at this
        rw [hw4, hq2]; exact this)
    have HB04 : Hid (Below w.heap.size w w4) := Lib.hid (bthen (bthen HBW.out HBC.out) HB4.out)
    have HQ1 := Lib.hid hq1
    have HQ2 := Lib.hid hq2
    obtain ⟨S1, S2, S3, S4, S5, hs1, hs2, hs3, hs4, hs5, hcl⟩ := linked_all HA2.out.len HT.out pth _ HCL.out kd HKD.out
    have HS1 := Lib.hid hs1
    have HS2 := Lib.hid hs2
    have HS3 := Lib.hid hs3
    have HS4 := Lib.hid hs4
    have HS5 := Lib.hid hs5
    have HCC := Lib.hid hcl
    clear hs1 hs2 hs3 hs4 hs5 hcl
    go_upto_region 7 with fail
    rw [← hw4, ← HQ2.out, ← HQ1.out]
    clear hw4 hq1 hq2 a0 a1 a2 a3 a4 a5 lq0
    obtain ⟨k0, k1, k2, k3⟩ := HK4.out
    obtain ⟨lq0, a0, a1, a2, a3, a4, a5, -⟩ := (show Bx 36 w4 q0 #[.int .i64 kd, .string (tx pth), .string ⟨#[]⟩, .int .i64 0, .int .i64 60, .slice none 0 0] from k1).all6
    obtain ⟨lq1, b0, b1, b2, b3, b4, b5, -⟩ := (show Bx 36 w4 q1 #[.int .i64 kd, .string ⟨#[47, 122, 122]⟩, .string ⟨#[]⟩, .int .i64 0, .int .i64 60, .slice none 0 0] from k2).all6
    obtain ⟨lq2, c0, c1', c2, c3, c4, c5, -⟩ := (show Bx 36 w4 q2 #[.int .i64 10, .string ⟨#[47, 122, 122]⟩, .string (tx pth), .int .i64 0, .int .i64 0, .slice none 0 0] from k3).all6
    clear k0 k1 k2 k3
    go_upto_region 8 with (go_at_call 13; refine (lasts_any A1 m c1 xs [plainA (linkA pth)] 0 _ w4 HK4.out.1 rfl rfl (plain_in _ [linkA pth] (by simp [linkA, lookA, remA])) (by omega) _ rfl S1 HS1.out 1 rfl).mono ?_; rintro e w5 ⟨x1, rfl, hx1, hv1, hb5⟩; have HX1 := Lib.hid hx1; have HV1 := Lib.hid hv1; have HB5 := Lib.hid hb5; clear hx1 hv1 hb5)
    obtain ⟨w6, hw6⟩ : ∃ w6, w6 = w5.alloc (.cells #[.int .i64 x1.s.code, .int .i64 x1.s.kind, .int .i64 x1.s.size, .slice x1.A x1.n x1.c, .slice x1.N x1.m x1.d] 32) := ⟨_, rfl⟩
    obtain ⟨z1, hz1⟩ : ∃ z1, z1 = w5.heap.size := ⟨_, rfl⟩
    have HB6 : Hid (Below w4.heap.size w4 w6) := Lib.hid (by rw [hw6]; exact bthen HB5.out (ba1 _ _))
    have HZ1 : Hid (Bx 32 w6 z1 #[.int .i64 x1.s.code, .int .i64 x1.s.kind, .int .i64 x1.s.size, .slice x1.A x1.n x1.c, .slice x1.N x1.m x1.d] ∧ SvIn w6 x1) := Lib.hid (by rw [hw6, hz1]; exact ⟨bx_new _ _ _, HV1.out.below (ba1 _ _)⟩)
    have HK6 := Lib.hid (HK4.out.below HB6.out)
    rw [← hw6, ← hz1]
    clear hw6 hz1 a0 a1 a2 a3 a4 a5 b0 b1 b2 b3 b4 b5 c0 c1' c2 c3 c4 c5 lq0 lq1 lq2
    obtain ⟨k0, k1, k2, k3⟩ := HK6.out
    obtain ⟨lq0, a0, a1, a2, a3, a4, a5, -⟩ := (show Bx 36 w6 q0 #[.int .i64 kd, .string (tx pth), .string ⟨#[]⟩, .int .i64 0, .int .i64 60, .slice none 0 0] from k1).all6
    obtain ⟨lq1, b0, b1, b2, b3, b4, b5, -⟩ := (show Bx 36 w6 q1 #[.int .i64 kd, .string ⟨#[47, 122, 122]⟩, .string ⟨#[]⟩, .int .i64 0, .int .i64 60, .slice none 0 0] from k2).all6
    obtain ⟨lq2, c0, c1', c2, c3, c4, c5, -⟩ := (show Bx 36 w6 q2 #[.int .i64 10, .string ⟨#[47, 122, 122]⟩, .string (tx pth), .int .i64 0, .int .i64 0, .slice none 0 0] from k3).all6
    clear k0 k1 k2 k3
    go_upto_region 9 with (go_at_call 13; refine (lasts_any A1 m c1 xs [plainA (linkA pth), plainA (lookA kd pth)] 1 _ w6 HK6.out.1 rfl rfl (plain_in _ [linkA pth, lookA kd pth] (by simp [linkA, lookA, remA])) (by omega) _ rfl S2 HS2.out 2 rfl).mono ?_; rintro e w7 ⟨x2, rfl, hx2, hv2, hb7⟩; have HX2 := Lib.hid hx2; have HV2 := Lib.hid hv2; have HB7 := Lib.hid hb7; clear hx2 hv2 hb7)
    obtain ⟨w8, hw8⟩ : ∃ w8, w8 = w7.alloc (.cells #[.int .i64 x2.s.code, .int .i64 x2.s.kind, .int .i64 x2.s.size, .slice x2.A x2.n x2.c, .slice x2.N x2.m x2.d] 32) := ⟨_, rfl⟩
    obtain ⟨z2, hz2⟩ : ∃ z2, z2 = w7.heap.size := ⟨_, rfl⟩
    have HB8 : Hid (Below w6.heap.size w6 w8) := Lib.hid (by rw [hw8]; exact bthen HB7.out (ba1 _ _))
    have HZ2 : Hid (Bx 32 w8 z2 #[.int .i64 x2.s.code, .int .i64 x2.s.kind, .int .i64 x2.s.size, .slice x2.A x2.n x2.c, .slice x2.N x2.m x2.d] ∧ SvIn w8 x2) := Lib.hid (by rw [hw8, hz2]; exact ⟨bx_new _ _ _, HV2.out.below (ba1 _ _)⟩)
    have HK8 := Lib.hid (HK6.out.below HB8.out)
    replace HZ1 := Lib.hid (And.intro (HZ1.out.1.below HB8.out) (HZ1.out.2.below HB8.out))
    rw [← hw8, ← hz2]
    clear hw8 hz2 a0 a1 a2 a3 a4 a5 b0 b1 b2 b3 b4 b5 c0 c1' c2 c3 c4 c5 lq0 lq1 lq2
    obtain ⟨k0, k1, k2, k3⟩ := HK8.out
    obtain ⟨lq0, a0, a1, a2, a3, a4, a5, -⟩ := (show Bx 36 w8 q0 #[.int .i64 kd, .string (tx pth), .string ⟨#[]⟩, .int .i64 0, .int .i64 60, .slice none 0 0] from k1).all6
    obtain ⟨lq1, b0, b1, b2, b3, b4, b5, -⟩ := (show Bx 36 w8 q1 #[.int .i64 kd, .string ⟨#[47, 122, 122]⟩, .string ⟨#[]⟩, .int .i64 0, .int .i64 60, .slice none 0 0] from k2).all6
    obtain ⟨lq2, c0, c1', c2, c3, c4, c5, -⟩ := (show Bx 36 w8 q2 #[.int .i64 10, .string ⟨#[47, 122, 122]⟩, .string (tx pth), .int .i64 0, .int .i64 0, .slice none 0 0] from k3).all6
    clear k0 k1 k2 k3
    go_upto_region 10 with (go_at_call 13; refine (lasts_any A1 m c1 xs [plainA (linkA pth), plainA (lookA kd zzP)] 1 _ w8 HK8.out.1 rfl rfl (plain_in _ [linkA pth, lookA kd zzP] (by simp [linkA, lookA, remA])) (by omega) _ rfl S3 HS3.out 2 rfl).mono ?_; rintro e w9 ⟨x3, rfl, hx3, hv3, hb9⟩; have HX3 := Lib.hid hx3; have HV3 := Lib.hid hv3; have HB9 := Lib.hid hb9; clear hx3 hv3 hb9)
    obtain ⟨w10, hw10⟩ : ∃ w10, w10 = w9.alloc (.cells #[.int .i64 x3.s.code, .int .i64 x3.s.kind, .int .i64 x3.s.size, .slice x3.A x3.n x3.c, .slice x3.N x3.m x3.d] 32) := ⟨_, rfl⟩
    obtain ⟨z3, hz3⟩ : ∃ z3, z3 = w9.heap.size := ⟨_, rfl⟩
    have HB10 : Hid (Below w8.heap.size w8 w10) := Lib.hid (by rw [hw10]; exact bthen HB9.out (ba1 _ _))
    have HZ3 : Hid (Bx 32 w10 z3 #[.int .i64 x3.s.code, .int .i64 x3.s.kind, .int .i64 x3.s.size, .slice x3.A x3.n x3.c, .slice x3.N x3.m x3.d] ∧ SvIn w10 x3) := Lib.hid (by rw [hw10, hz3]; exact ⟨bx_new _ _ _, HV3.out.below (ba1 _ _)⟩)
    have HK10 := Lib.hid (HK8.out.below HB10.out)
    replace HZ1 := Lib.hid (And.intro (HZ1.out.1.below HB10.out) (HZ1.out.2.below HB10.out))
    replace HZ2 := Lib.hid (And.intro (HZ2.out.1.below HB10.out) (HZ2.out.2.below HB10.out))
    rw [← hw10, ← hz3]
    clear hw10 hz3 a0 a1 a2 a3 a4 a5 b0 b1 b2 b3 b4 b5 c0 c1' c2 c3 c4 c5 lq0 lq1 lq2
    obtain ⟨k0, k1, k2, k3⟩ := HK10.out
    obtain ⟨lq0, a0, a1, a2, a3, a4, a5, -⟩ := (show Bx 36 w10 q0 #[.int .i64 kd, .string (tx pth), .string ⟨#[]⟩, .int .i64 0, .int .i64 60, .slice none 0 0] from k1).all6
    obtain ⟨lq1, b0, b1, b2, b3, b4, b5, -⟩ := (show Bx 36 w10 q1 #[.int .i64 kd, .string ⟨#[47, 122, 122]⟩, .string ⟨#[]⟩, .int .i64 0, .int .i64 60, .slice none 0 0] from k2).all6
    obtain ⟨lq2, c0, c1', c2, c3, c4, c5, -⟩ := (show Bx 36 w10 q2 #[.int .i64 10, .string ⟨#[47, 122, 122]⟩, .string (tx pth), .int .i64 0, .int .i64 0, .slice none 0 0] from k3).all6
    clear k0 k1 k2 k3
    go_upto_region 11 with (go_at_call 13; refine (lasts_any A1 m c1 xs [plainA (linkA pth), plainA remA, plainA (lookA kd pth)] 2 _ w10 HK10.out.1 rfl rfl (plain_in _ [linkA pth, remA, lookA kd pth] (by simp [linkA, lookA, remA])) (by omega) _ rfl S4 HS4.out 3 rfl).mono ?_; rintro e w11 ⟨x4, rfl, hx4, hv4, hb11⟩; have HX4 := Lib.hid hx4; have HV4 := Lib.hid hv4; have HB11 := Lib.hid hb11; clear hx4 hv4 hb11)
    obtain ⟨w12, hw12⟩ : ∃ w12, w12 = w11.alloc (.cells #[.int .i64 x4.s.code, .int .i64 x4.s.kind, .int .i64 x4.s.size, .slice x4.A x4.n x4.c, .slice x4.N x4.m x4.d] 32) := ⟨_, rfl⟩
    obtain ⟨z4, hz4⟩ : ∃ z4, z4 = w11.heap.size := ⟨_, rfl⟩
    have HB12 : Hid (Below w10.heap.size w10 w12) := Lib.hid (by rw [hw12]; exact bthen HB11.out (ba1 _ _))
    have HZ4 : Hid (Bx 32 w12 z4 #[.int .i64 x4.s.code, .int .i64 x4.s.kind, .int .i64 x4.s.size, .slice x4.A x4.n x4.c, .slice x4.N x4.m x4.d] ∧ SvIn w12 x4) := Lib.hid (by rw [hw12, hz4]; exact ⟨bx_new _ _ _, HV4.out.below (ba1 _ _)⟩)
    have HK12 := Lib.hid (HK10.out.below HB12.out)
    replace HZ1 := Lib.hid (And.intro (HZ1.out.1.below HB12.out) (HZ1.out.2.below HB12.out))
    replace HZ2 := Lib.hid (And.intro (HZ2.out.1.below HB12.out) (HZ2.out.2.below HB12.out))
    replace HZ3 := Lib.hid (And.intro (HZ3.out.1.below HB12.out) (HZ3.out.2.below HB12.out))
    rw [← hw12, ← hz4]
    clear hw12 hz4 a0 a1 a2 a3 a4 a5 b0 b1 b2 b3 b4 b5 c0 c1' c2 c3 c4 c5 lq0 lq1 lq2
    obtain ⟨k0, k1, k2, k3⟩ := HK12.out
    obtain ⟨lq0, a0, a1, a2, a3, a4, a5, -⟩ := (show Bx 36 w12 q0 #[.int .i64 kd, .string (tx pth), .string ⟨#[]⟩, .int .i64 0, .int .i64 60, .slice none 0 0] from k1).all6
    obtain ⟨lq1, b0, b1, b2, b3, b4, b5, -⟩ := (show Bx 36 w12 q1 #[.int .i64 kd, .string ⟨#[47, 122, 122]⟩, .string ⟨#[]⟩, .int .i64 0, .int .i64 60, .slice none 0 0] from k2).all6
    obtain ⟨lq2, c0, c1', c2, c3, c4, c5, -⟩ := (show Bx 36 w12 q2 #[.int .i64 10, .string ⟨#[47, 122, 122]⟩, .string (tx pth), .int .i64 0, .int .i64 0, .slice none 0 0] from k3).all6
    clear k0 k1 k2 k3
    go_upto_region 12 with (go_at_call 13; refine (lasts_any A1 m c1 xs [plainA (lookA kd pth)] 0 _ w12 HK12.out.1 rfl rfl (plain_in _ [lookA kd pth] (by simp [linkA, lookA, remA])) (by omega) _ rfl S5 HS5.out 1 rfl).mono ?_; rintro e w13 ⟨x5, rfl, hx5, hv5, hb13⟩; have HX5 := Lib.hid hx5; have HV5 := Lib.hid hv5; have HB13 := Lib.hid hb13; clear hx5 hv5 hb13)
    obtain ⟨w14, hw14⟩ : ∃ w14, w14 = w13.alloc (.cells #[.int .i64 x5.s.code, .int .i64 x5.s.kind, .int .i64 x5.s.size, .slice x5.A x5.n x5.c, .slice x5.N x5.m x5.d] 32) := ⟨_, rfl⟩
    obtain ⟨z5, hz5⟩ : ∃ z5, z5 = w13.heap.size := ⟨_, rfl⟩
    have HB14 : Hid (Below w12.heap.size w12 w14) := Lib.hid (by rw [hw14]; exact bthen HB13.out (ba1 _ _))
    have HZ5 : Hid (Bx 32 w14 z5 #[.int .i64 x5.s.code, .int .i64 x5.s.kind, .int .i64 x5.s.size, .slice x5.A x5.n x5.c, .slice x5.N x5.m x5.d] ∧ SvIn w14 x5) := Lib.hid (by rw [hw14, hz5]; exact ⟨bx_new _ _ _, HV5.out.below (ba1 _ _)⟩)
    have HK14 := Lib.hid (HK12.out.below HB14.out)
    replace HZ1 := Lib.hid (And.intro (HZ1.out.1.below HB14.out) (HZ1.out.2.below HB14.out))
    replace HZ2 := Lib.hid (And.intro (HZ2.out.1.below HB14.out) (HZ2.out.2.below HB14.out))
    replace HZ3 := Lib.hid (And.intro (HZ3.out.1.below HB14.out) (HZ3.out.2.below HB14.out))
    replace HZ4 := Lib.hid (And.intro (HZ4.out.1.below HB14.out) (HZ4.out.2.below HB14.out))
    rw [← hw14, ← hz5]
    clear hw14 hz5 a0 a1 a2 a3 a4 a5 b0 b1 b2 b3 b4 b5 c0 c1' c2 c3 c4 c5 lq0 lq1 lq2
    have hcc := HCC.out
    rw [← HX1.out, ← HX2.out, ← HX3.out, ← HX4.out, ← HX5.out] at hcc
    have HBW14 : Hid (Below w.heap.size w w14) := Lib.hid (bthen (bthen (bthen (bthen (bthen HB04.out HB6.out) HB8.out) HB10.out) HB12.out) HB14.out)
    have bx1 := HZ1.out.1
    have bx2 := HZ2.out.1
    have bx3 := HZ3.out.1
    have bx4 := HZ4.out.1
    have bx5 := HZ5.out.1
    have y1 := bx1.lt
    have y2 := bx2.lt
    have y3 := bx3.lt
    have y4 := bx4.lt
    have y5 := bx5.lt
    have f1 := bx1.cell 0 (.int .i64 x1.s.code) rfl
    have f2 := bx2.cell 0 (.int .i64 x2.s.code) rfl
    have f3 := bx3.cell 0 (.int .i64 x3.s.code) rfl
    rcases hcc with h9 | ⟨h0, h32, h45⟩
    · rw [h9] at f1
      clear bx1 bx2 bx3 bx4 bx5 f2 f3 h9
      go_wp2_with fail
      go_ret
      exact ⟨rfl, HBW14.out⟩
    · rw [h0] at f1
      have h3 : x3.s.code = 13 ∨ (x3.s = x2.s ∧ x2.s.code ≠ 13) := by
        rcases h32 with g | g
        · exact .inl g
        · by_cases g2 : x2.s.code = 13
          · exact .inl (by rw [g]; exact g2)
          · exact .inr ⟨g, g2⟩
      clear h32 h0
      rcases h3 with h13 | ⟨h32, hne⟩
      · rw [h13] at f3
        clear bx1 bx2 bx3 bx4 bx5 h13 h45
        by_cases g2 : x2.s.code = 13
        · rw [g2] at f2
          clear g2
          go_wp2_with fail
          go_ret
          exact ⟨rfl, HBW14.out⟩
        · have g2e : (x2.s.code == 13) = false := by simp [g2]
          clear g2
          go_wp2_with fail
          go_ret
          exact ⟨rfl, HBW14.out⟩
      · have H32 := Lib.hid h32.symm
        have H45 := Lib.hid h45
        rw [h32] at f3
        have g2e : (x2.s.code == 13) = false := by simp [hne]
        go_upto_region 18 with fail
        clear f1 f2 f3 h32 hne h45 g2e
        obtain ⟨m0, a0, a1, a2, a3, a4, -⟩ := bx2.all5
        obtain ⟨m1, b0, b1, b2, b3, b4, -⟩ := bx3.all5
        have HA := Lib.hid (sameSeen_of x2 x3 H32.out w14 HZ2.out.2 HZ3.out.2)
        go_wp2_with (first
          | (go_at_call 16; (with_reducible refine HA.out.mono ?_); rintro e w15 ⟨rfl, hb15⟩; have HB15 := Lib.hid hb15; obtain ⟨m2, c0, c1', c2, c3, c4, -⟩ := (HZ4.out.1.below hb15).all5; obtain ⟨m3, d0, d1, d2, d3, d4, -⟩ := (HZ5.out.1.below hb15).all5; clear hb15)
          | (go_at_call 16; (with_reducible refine (sameSeen_of x4 x5 H45.out w15 (HZ4.out.2.below HB15.out) (HZ5.out.2.below HB15.out)).mono ?_); rintro e w16 ⟨rfl, hb16⟩; have HB16 := Lib.hid hb16; clear hb16))
        go_ret
        exact ⟨rfl, bthen (bthen HBW14.out HB15.out) HB16.out⟩

theorem walkTreeLinked (A : Option Addr) (n c : Nat) (z : List Jv) (p k : Int) (w : World) (hb : Ls jbS w A z) (hn : z.length = n) (hc : n ≤ c) (hr : c ≤ 3518437208782) (hi : JIn w z) (h1 : -9223372036854775808 ≤ p) (h2 : p ≤ 9223372036854775807) (h3 : -9223372036854775808 ≤ k) (h4 : k ≤ 9223372036854775807) :
    Calls Tryd.prog 7 #[.slice A n c, .int .i64 p, .int .i64 k] w fun e w' => e = .returned (.bool true) ∧ Below w.heap.size w w' := treeLinked_any A n c z p k w hb hn hi (by omega) h1 h2 h3 h4

end Go.Proofs.YtdekpmidaleipaaDoor
