/-
  packthreadkeep.TreeHas.
-/
import Derived.Test.YtdekpmidaleipaaDoorTLast
import Derived.Test.YtdekpmidaleipaaDoorTMore
import Derived.Deep.DeepCutAuto
import Derived.Deep.CutBlock
import Derived.Deep.RegionHeld3
import Derived.BigRegion
import Derived.RegionTactic
namespace Go.Proofs.YtdekpmidaleipaaDoor
open Go.RowKit Go.Maps
set_option linter.unusedVariables false
set_option linter.unusedSimpArgs false

theorem OwnL.cellH {w : World} {base g : Nat} {n c : Nat} {zs : List Int} (h : OwnL byS 5 w base (some ⟨g, 0, none⟩) n c zs) (j : Nat) (hj : j < n) : w.cell? ⟨g, j, none⟩ = some (.int .u8 (zs.getD j 0)) := by
  have hl : j < zs.length := by rw [h.1]; exact hj
  obtain ⟨b, o, hA, hlt, hc⟩ := h.ls.at j (zs[j]) (List.getElem?_eq_getElem hl)
  injection hA with hA
  injection hA with e1 e2
  subst e1; subst e2
  have := hc 0 (.int .u8 zs[j]) rfl
  simp only [byS, Nat.mul_one, Nat.zero_add, Nat.add_zero] at this
  rw [this, List.getD_eq_getElem?_getD, List.getElem?_eq_getElem hl]; rfl
theorem OwnL.softH {w : World} {base g : Nat} {n c : Nat} {zs : List Int} (h : OwnL byS 5 w base (some ⟨g, 0, none⟩) n c zs) (j : Nat) : w.frozen? ⟨g, j, none⟩ = false := h.2.frozenAt j
theorem OwnL.putH {w : World} {base g : Nat} {n c : Nat} {zs : List Int} (h : OwnL byS 5 w base (some ⟨g, 0, none⟩) n c zs) (j : Nat) (v : Int) :
    OwnL byS 5 (w.setCell ⟨g, j, none⟩ (.int .u8 v)) base (some ⟨g, 0, none⟩) n c (zs.set j v) := by
  obtain ⟨h1, h2⟩ := h.2.stored j (.int .u8 v)
  refine ⟨by rw [List.length_set]; exact h.1, ?_⟩
  rw [flat_by, List.map_set, ← flat_by]; exact h1
def slLen : Value → Nat
  | .slice _ n _ => n
  | _ => 0
/-- bytes with zeros behind, and others laid over them as far as i -/
def wide (l : List Int) (M : Nat) : List Int := l ++ zeros (M - l.length)
def over_ (W : List Int) (k : Nat) (d : List Int) (i : Nat) : List Int := W.take k ++ d.take i ++ W.drop (k + i)
theorem wide_len (l : List Int) (M : Nat) (h : l.length ≤ M) : (wide l M).length = M := by unfold wide zeros; rw [List.length_append, List.length_replicate]; omega
theorem over_zero (W : List Int) (k : Nat) (d : List Int) : over_ W k d 0 = W := by unfold over_; rw [List.take_zero, List.append_nil, Nat.add_zero, List.take_append_drop]
theorem over_succ (W : List Int) (k : Nat) (d : List Int) (i : Nat) (x : Int) (hx : d[i]? = some x) (hk : k + d.length ≤ W.length) : (over_ W k d i).set (k + i) x = over_ W k d (i + 1) := by
  have hi : i < d.length := (List.getElem?_eq_some_iff.1 hx).1
  unfold over_
  have e1 : (W.take k ++ d.take i).length = k + i := by rw [List.length_append, List.length_take, List.length_take]; omega
  rw [List.set_append_right _ _ (by rw [e1]; exact Nat.le_refl _), e1, Nat.sub_self]
  have e2 : W.drop (k + i) = W[k + i]'(by omega) :: W.drop (k + i + 1) := List.drop_eq_getElem_cons (by omega)
  rw [e2, List.set_cons_zero, List.take_add_one, hx]
  simp [Nat.add_assoc]
theorem over_all (l : List Int) (k : Nat) (d : List Int) : over_ (wide l (max l.length (k + d.length))) k d d.length = laid l k d := by
  have e : resized l (max l.length (k + d.length)) = wide l (max l.length (k + d.length)) := by
    unfold resized wide
    rw [List.take_of_length_le (by omega)]
  unfold over_ laid
  rw [e, List.take_of_length_le (Nat.le_refl d.length)]
theorem has_all {xs : List Acv} {m : Nat} (hm : xs.length = m) (hT : WF (actsT root0 (xs.map Acv.a))) (p : Byt) (k : Nat) (d : List Int) (hk : k < 60) (hd : d.length ≤ 41) (hb : Bts d) (D : Option Addr) (dn dc : Nat) :
    ∃ S1 S2 S3 : Sn, (seenT root0 (xs.map Acv.a ++ [plainA (getA p)].map Acv.a))[m + 0]? = some S1 ∧ (seenT root0 (xs.map Acv.a ++ [(⟨putA p k d, D, dn, dc⟩ : Acv)].map Acv.a))[m + 0]? = some S2 ∧
      (seenT root0 (xs.map Acv.a ++ [(⟨putA p k d, D, dn, dc⟩ : Acv), plainA (getA p)].map Acv.a))[m + 1]? = some S3 ∧
      ((∃ e : Int, e ≠ 0 ∧ S1 = snE e ∧ S2 = snE e ∧ S3 = snE e) ∨ ∃ l : List Int, l.length ≤ 2048 ∧ Bts l ∧ S1 = ⟨0, 0, 0, l, []⟩ ∧ S2 = ⟨0, 0, (laid l k d).length, [], []⟩ ∧ S3 = ⟨0, 0, 0, laid l k d, []⟩) := by
  have hm' : (xs.map Acv.a).length = m := by rw [List.length_map, hm]
  have l1 := fun a => last1 root0 (xs.map Acv.a) a
  have l2 := fun a b => last2 root0 (xs.map Acv.a) a b
  rw [hm'] at l1 l2
  exact ⟨_, _, _, l1 _, l1 _, l2 _ _, put_get hT p k d hk hd hb⟩

/-- what the walk keeps -/
def HsK (A : Option Addr) (n : Nat) (xs : List Acv) (D : Option Addr) (dn : Nat) (d : List Int) (w : World) : Prop := Asl w A n xs ∧ Ls byS w D d ∧ d.length = dn
theorem HsK.below {A : Option Addr} {n : Nat} {xs : List Acv} {D : Option Addr} {dn : Nat} {d : List Int} {w w' : World} (h : HsK A n xs D dn d w) (hb : Below w.heap.size w w') : HsK A n xs D dn d w' := ⟨h.1.below hb, h.2.1.below hb, h.2.2⟩
theorem HsK.inn {A : Option Addr} {n : Nat} {xs : List Acv} {D : Option Addr} {dn dc : Nat} {d : List Int} {w : World} (h : HsK A n xs D dn d w) (hb : Bts d) (p : Byt) (k : Int) : AcIn w [(⟨putA p k d, D, dn, dc⟩ : Acv), plainA (getA p)] := fun x hx => by
  rcases List.mem_cons.1 hx with rfl | hx
  · exact ⟨h.2.1, h.2.2, hb⟩
  · exact plain_in w [getA p] (by simp [getA]) x hx
theorem HsK.inn1 {A : Option Addr} {n : Nat} {xs : List Acv} {D : Option Addr} {dn dc : Nat} {d : List Int} {w : World} (h : HsK A n xs D dn d w) (hb : Bts d) (p : Byt) (k : Int) : AcIn w [(⟨putA p k d, D, dn, dc⟩ : Acv)] := fun x hx => by
  rcases List.mem_cons.1 hx with rfl | hx
  · exact ⟨h.2.1, h.2.2, hb⟩
  · cases hx

set_option maxRecDepth 100000 in
set_option maxHeartbeats 8000000 in
theorem treeHas_any (L : Option Addr) (n c : Nat) (l : List Jv) (p at_ : Int) (D : Option Addr) (m d : Nat) (zs : List Int) (w : World) (hb : Ls jbS w L l) (hl : l.length = n) (hin : JIn w l) (hn : n ≤ 100000000000000) (h1 : -9223372036854775808 ≤ p) (h2 : p ≤ 9223372036854775807) (h3 : -9223372036854775808 ≤ at_) (h4 : at_ ≤ 9223372036854775807)
    (hz : Ls byS w D zs) (hzn : zs.length = m) (hzc : m ≤ d) (hzr : d ≤ 140737488351232) (hzb : ∀ z ∈ zs, 0 ≤ z ∧ z ≤ 255) :
    Calls Tryd.prog 3 #[.slice L n c, .int .i64 p, .int .i64 at_, .slice D m d] w fun e w' => e = .returned (.bool true) ∧ Below w.heap.size w w' := by
  have HB := Lib.hid hb
  have HN := Lib.hid hl
  have HI := Lib.hid hin
  have HZ := Lib.hid hz
  have HZN := Lib.hid hzn
  have HZB := Lib.hid hzb
  clear hb hl hin hz hzn hzb
  obtain ⟨kp, hkp, hkp6⟩ := pick_nat at_ 60 (by omega)
  have HPK := Lib.hid (fun wx => picked_n at_ 60 kp wx hkp h3 h4 (by omega) (by omega))
  have HPA := Lib.hid (fun wx => pathBy_any p wx h1 h2)
  obtain ⟨pth, hpth⟩ : ∃ s, s = pathBy p := ⟨_, rfl⟩
  rw [← hpth] at HPA
  obtain ⟨mm, hmm⟩ : ∃ q, q = min m 40 := ⟨_, rfl⟩
  have HMM := Lib.hid hmm
  have hmb : mm ≤ 40 ∧ mm ≤ m := by omega
  clear hkp hpth h1 h2 h3 h4 hmm
  go_enter Tryd.func3, Tryd.ntmps3
  go_upto_region 5 with (first
    | (go_at_call 9; refine (acts_any L n c 60 l w HB.out HN.out HI.out hn (by omega)).mono ?_; rintro e w1 ⟨k1, A1, c1, xs, rfl, hk, ho1, hi1, hb1, -⟩; have HO1 := Lib.hid ho1; have HI1 := Lib.hid hi1; have HB1 := Lib.hid hb1; clear ho1 hi1 hb1)
    | (go_at_call 10; (with_reducible refine (HPA.out w1).mono ?_); rintro e w2 ⟨rfl, hb2⟩; have HB2 := Lib.hid hb2; clear hb2)
    | (go_at_call 11; refine (octets_any D m d 40 mm zs w2 ((HZ.out.below HB1.out).below HB2.out) HZN.out hzc (by omega) (by omega) HMM.out).mono ?_; rintro e w3 ⟨A3, c3, rfl, ho3, hb3⟩; have HO3 := Lib.hid ho3; have HB3 := Lib.hid hb3; clear ho3 hb3)
    | (at_builtin; refine wpList_appL (F := byS) rfl _ (.tmp 26) (.tmp 27) 23 rfl _ 1 Tryd.underlying23 byInfo rfl w2.heap.size A3 mm c3 _ rfl (HO3.out.below (ba1 _ _)) (some ⟨w3.heap.size, 0, none⟩) 1 1 [7] rfl (ls_new w3 _ _ _ rfl _ rfl) rfl (mm + 1) rfl (by omega) (by omega) (by have := HB3.out.size; simp; omega) ?_; intro A4 c4 w4 ho4 hb4 _; have HO4 := Lib.hid ho4; have HB4 : Hid (Below w2.heap.size w2 w4) := Lib.hid (HB3.out.trans (((Below.refl _ _).alloc HB3.out.size _).trans hb4)); clear ho4 hb4)
    | (go_at_call 12; (with_reducible refine (HPK.out _).mono ?_); rintro e w' ⟨rfl, rfl⟩))
  have hT : WF (actsT root0 (xs.map Acv.a)) := actsT_wf _ wf_root fun a ha => by
    obtain ⟨x, hx, rfl⟩ := List.mem_map.1 ha
    exact (HI1.out x hx).1.2.2
  obtain ⟨dd, hdd⟩ : ∃ dd, dd = zs.take mm ++ [7] := ⟨_, rfl⟩
  have HDL : Hid (dd.length = mm + 1) := Lib.hid (by rw [hdd]; exact HO4.out.1)
  have HDB : Hid (Bts dd) := Lib.hid (fun z hz => by
    rw [hdd] at hz
    rcases List.mem_append.1 hz with hz | hz
    · exact HZB.out z (List.mem_of_mem_take hz)
    · simp at hz; omega)
  have HK4 : Hid (HsK A1 k1 xs A4 (mm + 1) dd w4) := Lib.hid ⟨Asl.below (w := w1) ⟨HO1.out.ls, HO1.out.1, HI1.out.acin⟩ (bthen HB2.out HB4.out), by rw [hdd]; exact HO4.out.ls, HDL.out⟩
  have HBW4 : Hid (Below w.heap.size w w4) := Lib.hid (bthen (bthen HB1.out HB2.out) HB4.out)
  obtain ⟨S1, S2, S3, hs1, hs2, hs3, hcc⟩ := has_all HK4.out.1.len hT pth kp dd (by omega) (by rw [HDL.out]; omega) HDB.out A4 (mm + 1) c4
  have HS1 := Lib.hid hs1
  have HS2 := Lib.hid hs2
  have HS3 := Lib.hid hs3
  have HCC := Lib.hid hcc
  clear hs1 hs2 hs3 hcc hT hdd
  go_upto_region 6 with (go_at_call 13; refine (lasts_any A1 k1 c1 xs [plainA (getA pth)] 0 _ w4 HK4.out.1 rfl rfl (plain_in _ [getA pth] (by simp [getA])) (by omega) _ rfl S1 HS1.out 1 rfl).mono ?_; rintro e w5 ⟨x1, rfl, hx1, hv1, hb5⟩; have HX1 := Lib.hid hx1; have HV1 := Lib.hid hv1; have HB5 := Lib.hid hb5; clear hx1 hv1 hb5)
  obtain ⟨w6, hw6⟩ : ∃ w6, w6 = w5.alloc (.cells #[.int .i64 x1.s.code, .int .i64 x1.s.kind, .int .i64 x1.s.size, .slice x1.A x1.n x1.c, .slice x1.N x1.m x1.d] 32) := ⟨_, rfl⟩
  obtain ⟨z1, hz1⟩ : ∃ z1, z1 = w5.heap.size := ⟨_, rfl⟩
  have HB6 : Hid (Below w4.heap.size w4 w6) := Lib.hid (by rw [hw6]; exact bthen HB5.out (ba1 _ _))
  have HZ1 : Hid (Bx 32 w6 z1 #[.int .i64 x1.s.code, .int .i64 x1.s.kind, .int .i64 x1.s.size, .slice x1.A x1.n x1.c, .slice x1.N x1.m x1.d] ∧ SvIn w6 x1) := Lib.hid (by rw [hw6, hz1]; exact ⟨bx_new _ _ _, HV1.out.below (ba1 _ _)⟩)
  have HK6 := Lib.hid (HK4.out.below HB6.out)
  have HBW6 := Lib.hid (bthen HBW4.out HB6.out)
  rw [← hw6, ← hz1]
  clear hw6 hz1
  go_upto_region 7 with (go_at_call 13; refine (lasts_any A1 k1 c1 xs [⟨putA pth kp dd, A4, mm + 1, c4⟩] 0 _ w6 HK6.out.1 rfl rfl (HK6.out.inn1 HDB.out pth kp) (by omega) _ rfl S2 HS2.out 1 rfl).mono ?_; rintro e w7 ⟨x2, rfl, hx2, hv2, hb7⟩; have HX2 := Lib.hid hx2; have HV2 := Lib.hid hv2; have HB7 := Lib.hid hb7; clear hx2 hv2 hb7)
  obtain ⟨w8, hw8⟩ : ∃ w8, w8 = w7.alloc (.cells #[.int .i64 x2.s.code, .int .i64 x2.s.kind, .int .i64 x2.s.size, .slice x2.A x2.n x2.c, .slice x2.N x2.m x2.d] 32) := ⟨_, rfl⟩
  obtain ⟨z2, hz2⟩ : ∃ z2, z2 = w7.heap.size := ⟨_, rfl⟩
  have HB8 : Hid (Below w6.heap.size w6 w8) := Lib.hid (by rw [hw8]; exact bthen HB7.out (ba1 _ _))
  have HZ2 : Hid (Bx 32 w8 z2 #[.int .i64 x2.s.code, .int .i64 x2.s.kind, .int .i64 x2.s.size, .slice x2.A x2.n x2.c, .slice x2.N x2.m x2.d] ∧ SvIn w8 x2) := Lib.hid (by rw [hw8, hz2]; exact ⟨bx_new _ _ _, HV2.out.below (ba1 _ _)⟩)
  have HK8 := Lib.hid (HK6.out.below HB8.out)
  have HBW8 := Lib.hid (bthen HBW6.out HB8.out)
  replace HZ1 := Lib.hid (And.intro (HZ1.out.1.below HB8.out) (HZ1.out.2.below HB8.out))
  rw [← hw8, ← hz2]
  clear hw8 hz2
  go_upto_region 8 with (go_at_call 13; refine (lasts_any A1 k1 c1 xs [⟨putA pth kp dd, A4, mm + 1, c4⟩, plainA (getA pth)] 1 _ w8 HK8.out.1 rfl rfl (HK8.out.inn HDB.out pth kp) (by omega) _ rfl S3 HS3.out 2 rfl).mono ?_; rintro e w9 ⟨x3, rfl, hx3, hv3, hb9⟩; have HX3 := Lib.hid hx3; have HV3 := Lib.hid hv3; have HB9 := Lib.hid hb9; clear hx3 hv3 hb9)
  obtain ⟨w10, hw10⟩ : ∃ w10, w10 = w9.alloc (.cells #[.int .i64 x3.s.code, .int .i64 x3.s.kind, .int .i64 x3.s.size, .slice x3.A x3.n x3.c, .slice x3.N x3.m x3.d] 32) := ⟨_, rfl⟩
  obtain ⟨z3, hz3⟩ : ∃ z3, z3 = w9.heap.size := ⟨_, rfl⟩
  have HB10 : Hid (Below w8.heap.size w8 w10) := Lib.hid (by rw [hw10]; exact bthen HB9.out (ba1 _ _))
  have HZ3 : Hid (Bx 32 w10 z3 #[.int .i64 x3.s.code, .int .i64 x3.s.kind, .int .i64 x3.s.size, .slice x3.A x3.n x3.c, .slice x3.N x3.m x3.d] ∧ SvIn w10 x3) := Lib.hid (by rw [hw10, hz3]; exact ⟨bx_new _ _ _, HV3.out.below (ba1 _ _)⟩)
  have HK10 := Lib.hid (HK8.out.below HB10.out)
  have HBW10 := Lib.hid (bthen HBW8.out HB10.out)
  replace HZ1 := Lib.hid (And.intro (HZ1.out.1.below HB10.out) (HZ1.out.2.below HB10.out))
  replace HZ2 := Lib.hid (And.intro (HZ2.out.1.below HB10.out) (HZ2.out.2.below HB10.out))
  rw [← hw10, ← hz3]
  clear hw10 hz3
  have hcc := HCC.out
  rw [← HX1.out, ← HX2.out, ← HX3.out] at hcc
  have bx1 := HZ1.out.1
  have bx2 := HZ2.out.1
  have bx3 := HZ3.out.1
  have y1 := bx1.lt
  have y2 := bx2.lt
  have y3 := bx3.lt
  have f1 := bx1.cell 0 (.int .i64 x1.s.code) rfl
  have f2 := bx2.cell 0 (.int .i64 x2.s.code) rfl
  have f3 := bx3.cell 0 (.int .i64 x3.s.code) rfl
  rcases hcc with ⟨e, he, h1, h2, h3⟩ | ⟨ls, hl1, hl2, h1, h2, h3⟩
  · have e1 : x1.s.code = e := by rw [h1]; rfl
    have e2 : x2.s.code = e := by rw [h2]; rfl
    have e3 : x3.s.code = e := by rw [h3]; rfl
    rw [e1] at f1
    rw [e2] at f2
    rw [e3] at f3
    have hee : (e != 0) = true := by simp [he]
    clear bx1 bx2 bx3 h1 h2 h3 e1 e2 e3 he
    go_wp2_with fail
    go_ret
    exact ⟨rfl, HBW10.out⟩
  · have e1 : x1.s.code = 0 := by rw [h1]
    have e2 : x2.s.code = 0 := by rw [h2]
    rw [e1] at f1
    rw [e2] at f2
    have g1 := bx1.cell 3 (.slice x1.A x1.n x1.c) rfl
    have g2 : w10.cell? ⟨z2, 2, none⟩ = some (.int .i64 ((laid ls kp dd).length : Nat)) := by
      have := bx2.cell 2 (.int .i64 x2.s.size) rfl
      rw [this, h2]
    have g3 := bx3.cell 3 (.slice x3.A x3.n x3.c) rfl
    have HD1 : Hid (Ls byS w10 x1.A ls ∧ ls.length = x1.n) := Lib.hid (by
      have := HZ1.out.2
      exact ⟨by have h := this.1; rw [h1] at h; exact h, by have h := this.2.1; rw [h1] at h; exact h⟩)
    have HD3 : Hid (Ls byS w10 x3.A (laid ls kp dd) ∧ (laid ls kp dd).length = x3.n) := Lib.hid (by
      have := HZ3.out.2
      exact ⟨by have h := this.1; rw [h3] at h; exact h, by have h := this.2.1; rw [h3] at h; exact h⟩)
    have HLL : Hid ((laid ls kp dd).length = max ls.length (kp + (mm + 1))) := Lib.hid (by rw [laid_len2, HDL.out])
    have HL1 := Lib.hid hl1
    have hx1n : x1.n ≤ 2048 := by rw [← HD1.out.2]; exact hl1
    clear h1 h2 h3 e1 e2 hl1 hl2 bx1 bx2 bx3 f3
    go_upto_region 13 with (at_builtin; refine wpList_appL (F := byS) rfl w10 (.const (.slice none 0 0)) (.tmp 87) 23 rfl _ 1 Tryd.underlying23 byInfo rfl w10.heap.size none 0 0 [] rfl (OwnL.nil _ _) x1.A x1.n x1.c ls rfl HD1.out.1 HD1.out.2 x1.n (by omega) (by omega) (by omega) (Nat.le_refl _) ?_; intro A5 c5 w11 ho5 hb5 _; rw [List.nil_append] at ho5; have HO5 := Lib.hid ho5; have HB11 := Lib.hid hb5; clear ho5 hb5)
    obtain ⟨M, hM⟩ : ∃ M, M = max x1.n (kp + (mm + 1)) := ⟨_, rfl⟩
    have HM := Lib.hid hM
    have hM1 : x1.n ≤ M ∧ kp + (mm + 1) ≤ M ∧ M ≤ 2048 ∧ 1 ≤ M := by omega
    have HWL : Hid (laid ls kp dd = over_ (wide ls M) kp dd (mm + 1)) := Lib.hid (by
      have := over_all ls kp dd
      rw [HDL.out, HD1.out.2, ← HM.out] at this
      exact this.symm)
    have HLM : Hid ((laid ls kp dd).length = M) := Lib.hid (by rw [HLL.out, HD1.out.2, HM.out])
    rw [HLM.out] at g2
    have hw1 : IntKind.i64.wrap ((kp : Int) + ((mm + 1 : Nat) : Int)) = (kp : Int) + ((mm + 1 : Nat) : Int) := by rw [IntKind.wrap_i64]; omega
    clear hM
    go_loopw [19] (fun v wr => ∃ (j N c : Nat) (A : Option Addr), v = .slice A N c ∧ N = x1.n + j ∧ N ≤ M ∧ OwnL byS 5 wr w10.heap.size A N c (ls ++ zeros j) ∧ Below w10.heap.size w10 wr) (fun v _ => kp + (mm + 1) - slLen v)
    case atStart => exact ⟨0, x1.n, c5, A5, rfl, rfl, hM1.1, by show OwnL byS _ _ _ _ _ _ (ls ++ []); rw [List.append_nil]; exact HO5.out, HB11.out⟩
    case round =>
      obtain ⟨j, N, c6, A6, rfl, hN, hNM, ho6, hb6⟩ := hrel
      have HO6 := Lib.hid ho6
      have HB6' := Lib.hid hb6
      have HN' := Lib.hid hN
      clear ho6 hb6 hN
      by_cases hlt : N < kp + (mm + 1)
      · have hlti : decide ((N : Int) < (kp : Int) + ((mm + 1 : Nat) : Int)) = true := by simp; omega
        have hlti2 : decide ((N : Int) < (kp : Int) + ((mm : Int) + 1)) = true := by simp; omega
        go_wp2_with (at_builtin; refine wpList_appL (F := byS) rfl _ (.tmp 96) (.tmp 97) 23 rfl _ 1 Tryd.underlying23 byInfo rfl w10.heap.size A6 N c6 _ rfl (HO6.out.below (ba1 _ _)) (some ⟨wr.heap.size, 0, none⟩) 1 1 [0] rfl (ls_new wr _ _ _ rfl _ rfl) rfl (N + 1) rfl (by omega) (by omega) (by have := HB6'.out.size; simp; omega) ?_; intro A7 c7 w12 ho7 hb7 _; have HO7 := Lib.hid ho7; have HB7' := Lib.hid (((HB6'.out).alloc HB6'.out.size _).trans hb7); clear ho7 hb7)
        have HZJ : Hid (ls ++ zeros j ++ [0] = ls ++ zeros (j + 1)) := Lib.hid (by unfold zeros; rw [List.append_assoc, ← List.replicate_succ'])
        exact ⟨⟨j + 1, N + 1, c7, A7, rfl, by have := HN'.out; omega, by omega, by rw [← HZJ.out]; exact HO7.out, HB7'.out⟩, by simp [slLen]; omega⟩
      · have hlti : decide ((N : Int) < (kp : Int) + ((mm + 1 : Nat) : Int)) = false := by simp; omega
        have hlti2 : decide ((N : Int) < (kp : Int) + ((mm : Int) + 1)) = false := by simp; omega
        have hNN : N = M := by have := HM.out; have := HN'.out; omega
        subst hNN
        have HW0 : Hid (ls ++ zeros j = wide ls N) := Lib.hid (by unfold wide; rw [HD1.out.2]; have := HN'.out; rw [show N - x1.n = j by omega])
        have HO8 : Hid (OwnL byS 5 wr w10.heap.size A6 N c6 (wide ls N)) := Lib.hid (by rw [← HW0.out]; exact HO6.out)
        obtain ⟨g, rfl, hgb, hgl⟩ : ∃ g, A6 = some ⟨g, 0, none⟩ ∧ w10.heap.size ≤ g ∧ g < wr.heap.size := by
          rcases HO8.out.addr with ⟨-, h0, -⟩ | ⟨g, h0, h1⟩
          · omega
          · exact ⟨g, h0, (HO8.out.lt g (by rw [h0]; rfl)).1, h1⟩
        clear hlt
        go_upto_block 1 with fail
        obtain ⟨w12, hw12⟩ : ∃ w12, w12 = wr := ⟨_, rfl⟩
        subst hw12
        go_loopw [20] (fun v wx => ∃ i : Nat, v = .int .i64 (i : Int) ∧ i ≤ mm + 1 ∧ OwnL byS 5 wx w10.heap.size (some ⟨g, 0, none⟩) N c6 (over_ (wide ls N) kp dd i) ∧ Below w10.heap.size w10 wx) (fun v _ => mm + 1 - (intOf v).toNat)
        case atStart => exact ⟨0, rfl, Nat.zero_le _, by rw [over_zero]; exact HO8.out, HB6'.out⟩
        case round =>
          obtain ⟨i, rfl, hi, ho9, hb9⟩ := hrel
          have HO9 := Lib.hid ho9
          have HB9' := Lib.hid hb9
          clear ho9 hb9
          by_cases hlt2 : i < mm + 1
          · have hii : decide ((i : Int) < ((mm + 1 : Nat) : Int)) = true := by simp; omega
            have hii2 : decide ((i : Int) < (mm : Int) + 1) = true := by simp; omega
            have hwk : IntKind.i64.wrap ((kp : Int) + (i : Int)) = ((kp + i : Nat) : Int) := by rw [IntKind.wrap_i64]; omega
            obtain ⟨x, hx⟩ : ∃ x, dd[i]? = some x := ⟨_, List.getElem?_eq_getElem (by rw [HDL.out]; exact hlt2)⟩
            obtain ⟨b, o, hA4, hbl, hcc⟩ := (HK10.out.2.1.below HB9'.out).at i x hx
            have f0 := hcc 0 (.int .u8 x) rfl
            simp only [byS, Nat.add_zero, Nat.mul_one] at f0
            have hc1 := HO9.out.cellH (kp + i) (by omega)
            have hs1 := HO9.out.softH (kp + i)
            have hgx := (HO9.out.lt g rfl).2
            have HOV := Lib.hid (over_succ (wide ls N) kp dd i x hx (by rw [wide_len _ _ (by rw [HD1.out.2]; exact hM1.1), HDL.out]; exact hM1.2.1))
            subst hA4
            clear hcc hx
            go_wp2_with fail
            refine ⟨⟨i + 1, by go_num, by omega, ?_, HB9'.out.setCell hgb _⟩, by simp [intOf]; omega⟩
            rw [← HOV.out]
            exact HO9.out.putH (kp + i) x
          · have hii : decide ((i : Int) < ((mm + 1 : Nat) : Int)) = false := by simp; omega
            have hii2 : decide ((i : Int) < (mm : Int) + 1) = false := by simp; omega
            obtain rfl : i = mm + 1 := by omega
            have HOF : Hid (OwnL byS 5 wr w10.heap.size (some ⟨g, 0, none⟩) N c6 (laid ls kp dd)) := Lib.hid (by rw [HWL.out]; exact HO9.out)
            have bx2 := HZ2.out.1.below HB9'.out
            have bx3 := HZ3.out.1.below HB9'.out
            have y2 := bx2.lt
            have y3 := bx3.lt
            have f2' := (HB9'.out.cell (p := ⟨z2, 0, none⟩) HZ2.out.1.lt).trans f2
            have g2' := (HB9'.out.cell (p := ⟨z2, 2, none⟩) HZ2.out.1.lt).trans g2
            have g3' := (HB9'.out.cell (p := ⟨z3, 3, none⟩) HZ3.out.1.lt).trans g3
            have hx3 : x3.n = N := by rw [← HD3.out.2, HLM.out]
            have HX3A : Hid (Ls byS wr x3.A (laid ls kp dd)) := Lib.hid (HD3.out.1.below HB9'.out)
            rw [hx3] at g3'
            clear f1 f2 g1 g2 g3 bx2 bx3 hx3
            go_wp2_with (go_at_call 14; refine (same_keep x3.A N x3.c (some ⟨g, 0, none⟩) c6 (laid ls kp dd) wr HX3A.out HOF.out.ls HLM.out (by omega)).mono ?_; rintro e w13 ⟨rfl, hb13⟩; have HB13 := Lib.hid hb13; clear hb13)
            go_ret
            exact ⟨rfl, bthen (bthen HBW10.out HB9'.out) HB13.out⟩
theorem walkTreeHas (A : Option Addr) (n c : Nat) (z : List Jv) (p at_ : Int) (D : Option Addr) (m d : Nat) (zs : List Int) (w : World) (hb : Ls jbS w A z) (hn : z.length = n) (hc : n ≤ c) (hr : c ≤ 3518437208782) (hi : JIn w z) (h1 : -9223372036854775808 ≤ p) (h2 : p ≤ 9223372036854775807) (h3 : -9223372036854775808 ≤ at_) (h4 : at_ ≤ 9223372036854775807)
    (hz : Ls byS w D zs) (hzn : zs.length = m) (hzc : m ≤ d) (hzr : d ≤ 140737488351232) (hzb : ∀ z ∈ zs, 0 ≤ z ∧ z ≤ 255) :
    Calls Tryd.prog 3 #[.slice A n c, .int .i64 p, .int .i64 at_, .slice D m d] w fun e w' => e = .returned (.bool true) ∧ Below w.heap.size w w' := treeHas_any A n c z p at_ D m d zs w hb hn hi (by omega) h1 h2 h3 h4 hz hzn hzc hzr hzb

end Go.Proofs.YtdekpmidaleipaaDoor
