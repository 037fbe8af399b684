/-
  packthreadkeep.TreeMoved.
-/
import Derived.Test.YtdekpmidaleipaaDoorTLast
import Derived.Test.YtdekpmidaleipaaDoorTMoveMath
import Derived.Deep.DeepCutAuto
import Derived.Deep.CutBlock
import Derived.Deep.RegionHeld3
import Derived.BigRegion
import Derived.RegionTactic
namespace Go.Proofs.YtdekpmidaleipaaDoor
open Go.RowKit Go.Maps
set_option linter.unusedVariables false
set_option linter.unusedSimpArgs false

theorem moved_all {xs : List Acv} {m : Nat} (hm : xs.length = m) (hT : WF (actsT root0 (xs.map Acv.a))) (p q : Byt) :
    ∃ S1 S2 S3 : Sn, (seenT root0 (xs.map Acv.a ++ [plainA (movA p q)].map Acv.a))[m + 0]? = some S1 ∧ (seenT root0 (xs.map Acv.a ++ [plainA (movA p q), plainA (movA p q)].map Acv.a))[m + 1]? = some S2 ∧
      (seenT root0 (xs.map Acv.a ++ [plainA (movA p q), plainA (movA q p)].map Acv.a))[m + 1]? = some S3 ∧
      (S1.code = 0 → S2.code ≠ 0 ∧ (S3.code = 0 → ∀ a : Ac, ∃ S, (seenT root0 (xs.map Acv.a ++ [plainA a].map Acv.a))[m + 0]? = some S ∧ (seenT root0 (xs.map Acv.a ++ [plainA (movA p q), plainA (movA q p), plainA a].map Acv.a))[m + 2]? = some S)) := by
  have hm' : (xs.map Acv.a).length = m := by rw [List.length_map, hm]
  have l1 := fun a => last1 root0 (xs.map Acv.a) a
  have l2 := fun a b => last2 root0 (xs.map Acv.a) a b
  have l3 := fun a b c => last3 root0 (xs.map Acv.a) a b c
  rw [hm'] at l1 l2 l3
  refine ⟨_, _, _, l1 _, l2 _ _, l2 _ _, fun h0 => ?_⟩
  obtain ⟨g1, g2⟩ := moved hT p q h0
  refine ⟨g1, fun h3 a => ⟨_, l1 _, ?_⟩⟩
  have := l3 (movA p q) (movA q p) a
  rw [g2 h3] at this
  exact this

/-- what the walk keeps -/
def MvK (A : Option Addr) (n : Nat) (xs : List Acv) (q0 : Nat) (p q : Byt) (w : World) : Prop :=
  Asl w A n xs ∧ Bx 36 w q0 #[.int .i64 9, .string (tx p), .string (tx q), .int .i64 0, .int .i64 0, .slice none 0 0]
theorem MvK.below {A : Option Addr} {n : Nat} {xs : List Acv} {q0 : Nat} {p q : Byt} {w w' : World} (h : MvK A n xs q0 p q w) (hb : Below w.heap.size w w') : MvK A n xs q0 p q w' := ⟨h.1.below hb, h.2.below hb⟩

/-- where the look lies -/
def MeetL (wr : World) (pth : Byt) (v : Value) (wc : World) : Prop := ∃ (qk : Nat) (kd : Int), v = .pointer (some ⟨qk, 0, none⟩) ∧ Hid (kd = 7 ∨ kd = 6 ∨ kd = 4) ∧ Hid (Bx 36 wc qk #[.int .i64 kd, .string (tx pth), .string ⟨#[]⟩, .int .i64 0, .int .i64 60, .slice none 0 0]) ∧ Hid (Below wr.heap.size wr wc)
theorem meetA {wr w11 : World} (pth : Byt) (kd : Int) (h : kd = 7 ∨ kd = 6 ∨ kd = 4) (hb : Below wr.heap.size wr w11) : MeetL wr pth (.pointer (some ⟨w11.heap.size, 0, none⟩)) (w11.alloc (.cells #[.int .i64 kd, .string (tx pth), .string ⟨#[]⟩, .int .i64 0, .int .i64 60, .slice none 0 0] 36)) :=
  ⟨_, kd, rfl, Lib.hid h, Lib.hid (bx_new w11 _ _), Lib.hid (hb.alloc hb.size _)⟩
theorem meetB {wr w11 : World} {S : Nat} (pth : Byt) (kd : Int) (h : kd = 7 ∨ kd = 6 ∨ kd = 4) (hb : Below wr.heap.size wr w11) (hx : Bx 36 w11 S #[.int .i64 0, .string ⟨#[]⟩, .string ⟨#[]⟩, .int .i64 0, .int .i64 0, .slice none 0 0]) (hS : wr.heap.size ≤ S) :
    MeetL wr pth (.pointer (some ⟨S, 0, none⟩)) ((((((w11.setCell ⟨S, 0, none⟩ (.int .i64 kd)).setCell ⟨S, 1, none⟩ (.string (tx pth))).setCell ⟨S, 2, none⟩ (.string ⟨#[]⟩)).setCell ⟨S, 3, none⟩ (.int .i64 0)).setCell ⟨S, 4, none⟩ (.int .i64 60)).setCell ⟨S, 5, none⟩ (.slice none 0 0)) :=
  ⟨_, kd, rfl, Lib.hid h, Lib.hid (hx.put6 _ _ _ _ _ _), Lib.hid (below_store6 hb hS _ _ _ _ _ _)⟩
theorem meetC {wr w11 : World} (pth : Byt) (kd : Int) (h : kd = 7 ∨ kd = 6 ∨ kd = 4) (hb : Below wr.heap.size wr w11) {o : Obj} : MeetL wr pth (.pointer (some ⟨w11.heap.size + 1, 0, none⟩)) ((w11.alloc o).alloc (.cells #[.int .i64 kd, .string (tx pth), .string ⟨#[]⟩, .int .i64 0, .int .i64 60, .slice none 0 0] 36)) := by
  have hz := bx_new (w11.alloc o) 36 #[.int .i64 kd, .string (tx pth), .string ⟨#[]⟩, .int .i64 0, .int .i64 60, .slice none 0 0]
  rw [World.size_alloc] at hz
  exact ⟨_, kd, rfl, Lib.hid h, Lib.hid hz, Lib.hid (bthen hb (ba2 _ _ _))⟩
theorem meetOn {wr wc : World} {pth : Byt} {v : Value} (h : MeetL wr pth v wc) (o : Obj) : MeetL wr pth v (wc.alloc o) := by
  obtain ⟨qk, kd, hv, hk, hx, hb⟩ := h
  exact ⟨qk, kd, hv, hk, Lib.hid (hx.out.below (ba1 _ _)), Lib.hid (bthen hb.out (ba1 _ _))⟩
theorem meetD {wr w11 : World} (pth : Byt) (kd : Int) (h : kd = 7 ∨ kd = 6 ∨ kd = 4) (hb : Below wr.heap.size wr w11) {o : Obj} : MeetL wr pth (.pointer (some ⟨w11.heap.size, 0, none⟩)) ((w11.alloc (.cells #[.int .i64 kd, .string (tx pth), .string ⟨#[]⟩, .int .i64 0, .int .i64 60, .slice none 0 0] 36)).alloc o) :=
  meetOn (meetA pth kd h hb) o
theorem meetE {wr w11 : World} {S : Nat} (pth : Byt) (kd : Int) (h : kd = 7 ∨ kd = 6 ∨ kd = 4) (hb : Below wr.heap.size wr w11) (hx : Bx 36 w11 S #[.int .i64 0, .string ⟨#[]⟩, .string ⟨#[]⟩, .int .i64 0, .int .i64 0, .slice none 0 0]) (hS : wr.heap.size ≤ S) {o : Obj} :
    MeetL wr pth (.pointer (some ⟨S, 0, none⟩)) (((((((w11.setCell ⟨S, 0, none⟩ (.int .i64 kd)).setCell ⟨S, 1, none⟩ (.string (tx pth))).setCell ⟨S, 2, none⟩ (.string ⟨#[]⟩)).setCell ⟨S, 3, none⟩ (.int .i64 0)).setCell ⟨S, 4, none⟩ (.int .i64 60)).setCell ⟨S, 5, none⟩ (.slice none 0 0)).alloc o) :=
  meetOn (meetB pth kd h hb hx hS) o

set_option maxRecDepth 100000 in
set_option maxHeartbeats 40000000 in
theorem treeMoved_any (L : Option Addr) (n c : Nat) (l : List Jv) (p q : Int) (w : World) (hb : Ls jbS w L l) (hl : l.length = n) (hin : JIn w l) (hn : n ≤ 100000000000000) (h1 : -9223372036854775808 ≤ p) (h2 : p ≤ 9223372036854775807) (h3 : -9223372036854775808 ≤ q) (h4 : q ≤ 9223372036854775807) :
    Calls Tryd.prog 6 #[.slice L n c, .int .i64 p, .int .i64 q] w fun e w' => e = .returned (.bool true) ∧ Below w.heap.size w w' := by
  have HB := Lib.hid hb
  have HN := Lib.hid hl
  have HI := Lib.hid hin
  clear hb hl hin
  have HPA := Lib.hid (fun wx => pathBy_any p wx h1 h2)
  have HPQ := Lib.hid (fun wx => pathBy_any q wx h3 h4)
  obtain ⟨pf, hpf⟩ : ∃ s, s = pathBy p := ⟨_, rfl⟩
  obtain ⟨pt, hpt⟩ : ∃ s, s = pathBy q := ⟨_, rfl⟩
  rw [← hpf] at HPA
  rw [← hpt] at HPQ
  clear hpf hpt h1 h2 h3 h4
  go_enter Tryd.func6, Tryd.ntmps6
  go_upto_region 4 with (first
    | (go_at_call 9; refine (acts_any L n c 60 l w HB.out HN.out HI.out hn (by omega)).mono ?_; rintro e w1 ⟨m, A1, c1, xs, rfl, hk, ho1, hi1, hb1, -⟩; have HO1 := Lib.hid ho1; have HI1 := Lib.hid hi1; have HB1 := Lib.hid hb1; clear ho1 hi1 hb1)
    | (go_at_call 10; (with_reducible refine (HPA.out w1).mono ?_); rintro e w2 ⟨rfl, hb2⟩; have HB2 := Lib.hid hb2; clear hb2)
    | (go_at_call 10; (with_reducible refine (HPQ.out w2).mono ?_); rintro e w3 ⟨rfl, hb3⟩; have HB3 := Lib.hid hb3; clear hb3))
  obtain ⟨w4, hw4⟩ : ∃ w4, w4 = w3.alloc (.cells #[.int .i64 9, .string (tx pf), .string (tx pt), .int .i64 0, .int .i64 0, .slice none 0 0] 36) := ⟨_, rfl⟩
  obtain ⟨q0, hq0⟩ : ∃ q0, q0 = w3.heap.size := ⟨_, rfl⟩
  have HB4 : Hid (Below w.heap.size w w4) := Lib.hid (by rw [hw4]; exact bthen (bthen (bthen HB1.out HB2.out) HB3.out) (ba1 _ _))
  have HK4 : Hid (MvK A1 m xs q0 pf pt w4) := Lib.hid (by
    refine ⟨Asl.below (w := w1) ⟨HO1.out.ls, HO1.out.1, HI1.out.acin⟩ ?_, by rw [hw4, hq0]; exact bx_new _ _ _⟩
    rw [hw4]; exact bthen (bthen HB2.out HB3.out) (ba1 _ _))
  have hT : WF (actsT root0 (xs.map Acv.a)) := actsT_wf _ wf_root fun a ha => by
    obtain ⟨x, hx, rfl⟩ := List.mem_map.1 ha
    exact (HI1.out x hx).1.2.2
  obtain ⟨S1, S2, S3, hs1, hs2, hs3, hmv⟩ := moved_all HK4.out.1.len hT pf pt
  have HS1 := Lib.hid hs1
  have HS2 := Lib.hid hs2
  have HS3 := Lib.hid hs3
  have HMV := Lib.hid hmv
  have HW4 := Lib.hid hw4
  have HQ0 := Lib.hid hq0
  clear hs1 hs2 hs3 hmv hT hw4 hq0
  go_upto_region 5 with fail
  rw [← HW4.out, ← HQ0.out]
  clear HW4 HQ0
  obtain ⟨lq0, a0, a1, a2, a3, a4, a5, -⟩ := HK4.out.2.all6
  go_upto_region 6 with (go_at_call 13; refine (lasts_any A1 m c1 xs [plainA (movA pf pt)] 0 _ w4 HK4.out.1 rfl rfl (plain_in _ [movA pf pt] (by simp [movA])) (by omega) _ rfl S1 HS1.out 1 rfl).mono ?_; rintro e w5 ⟨x1, rfl, hx1, -, hb5⟩; have HX1 := Lib.hid hx1; have HB5 := Lib.hid hb5; clear hx1 hb5)
  obtain ⟨w6, hw6⟩ : ∃ w6, w6 = w5.alloc (.cells #[.int .i64 x1.s.code, .int .i64 x1.s.kind, .int .i64 x1.s.size, .slice x1.A x1.n x1.c, .slice x1.N x1.m x1.d] 32) := ⟨_, rfl⟩
  obtain ⟨z1, hz1⟩ : ∃ z1, z1 = w5.heap.size := ⟨_, rfl⟩
  have HB6 : Hid (Below w4.heap.size w4 w6) := Lib.hid (by rw [hw6]; exact bthen HB5.out (ba1 _ _))
  have HZ1 : Hid (Bx 32 w6 z1 #[.int .i64 x1.s.code, .int .i64 x1.s.kind, .int .i64 x1.s.size, .slice x1.A x1.n x1.c, .slice x1.N x1.m x1.d]) := Lib.hid (by rw [hw6, hz1]; exact bx_new _ _ _)
  have HK6 := Lib.hid (HK4.out.below HB6.out)
  have HBW6 := Lib.hid (bthen HB4.out HB6.out)
  rw [← hw6, ← hz1]
  clear hw6 hz1 a0 a1 a2 a3 a4 a5 lq0
  have y1 := HZ1.out.lt
  have f1 := HZ1.out.cell 0 (.int .i64 x1.s.code) rfl
  by_cases h0 : x1.s.code = 0
  · rw [h0] at f1
    obtain ⟨hn2, hm3⟩ := HMV.out (by rw [← HX1.out]; exact h0)
    have HN2 := Lib.hid hn2
    have HM3 := Lib.hid hm3
    clear hn2 hm3 h0
    go_upto_region 10 with fail
    obtain ⟨lq0, a0, a1, a2, a3, a4, a5, -⟩ := HK6.out.2.all6
    go_upto_region 11 with (go_at_call 13; refine (lasts_any A1 m c1 xs [plainA (movA pf pt), plainA (movA pf pt)] 1 _ w6 HK6.out.1 rfl rfl (plain_in _ [movA pf pt, movA pf pt] (by simp [movA])) (by omega) _ rfl S2 HS2.out 2 rfl).mono ?_; rintro e w7 ⟨x2, rfl, hx2, -, hb7⟩; have HX2 := Lib.hid hx2; have HB7 := Lib.hid hb7; clear hx2 hb7)
    obtain ⟨w8, hw8⟩ : ∃ w8, w8 = w7.alloc (.cells #[.int .i64 x2.s.code, .int .i64 x2.s.kind, .int .i64 x2.s.size, .slice x2.A x2.n x2.c, .slice x2.N x2.m x2.d] 32) := ⟨_, rfl⟩
    obtain ⟨z2, hz2⟩ : ∃ z2, z2 = w7.heap.size := ⟨_, rfl⟩
    have HB8 : Hid (Below w6.heap.size w6 w8) := Lib.hid (by rw [hw8]; exact bthen HB7.out (ba1 _ _))
    have HZ2 : Hid (Bx 32 w8 z2 #[.int .i64 x2.s.code, .int .i64 x2.s.kind, .int .i64 x2.s.size, .slice x2.A x2.n x2.c, .slice x2.N x2.m x2.d]) := Lib.hid (by rw [hw8, hz2]; exact bx_new _ _ _)
    have HK8 := Lib.hid (HK6.out.below HB8.out)
    have HBW8 := Lib.hid (bthen HBW6.out HB8.out)
    rw [← hw8, ← hz2]
    clear hw8 hz2 a0 a1 a2 a3 a4 a5 lq0 f1 y1
    obtain ⟨lq0, a0, a1, a2, a3, a4, a5, -⟩ := HK8.out.2.all6
    go_upto_region 12 with (go_at_call 13; refine (lasts_any A1 m c1 xs [plainA (movA pf pt), plainA (movA pt pf)] 1 _ w8 HK8.out.1 rfl rfl (plain_in _ [movA pf pt, movA pt pf] (by simp [movA])) (by omega) _ rfl S3 HS3.out 2 rfl).mono ?_; rintro e w9 ⟨x3, rfl, hx3, -, hb9⟩; have HX3 := Lib.hid hx3; have HB9 := Lib.hid hb9; clear hx3 hb9)
    obtain ⟨w10, hw10⟩ : ∃ w10, w10 = w9.alloc (.cells #[.int .i64 x3.s.code, .int .i64 x3.s.kind, .int .i64 x3.s.size, .slice x3.A x3.n x3.c, .slice x3.N x3.m x3.d] 32) := ⟨_, rfl⟩
    obtain ⟨z3, hz3⟩ : ∃ z3, z3 = w9.heap.size := ⟨_, rfl⟩
    have HB10 : Hid (Below w8.heap.size w8 w10) := Lib.hid (by rw [hw10]; exact bthen HB9.out (ba1 _ _))
    have HZ3 : Hid (Bx 32 w10 z3 #[.int .i64 x3.s.code, .int .i64 x3.s.kind, .int .i64 x3.s.size, .slice x3.A x3.n x3.c, .slice x3.N x3.m x3.d]) := Lib.hid (by rw [hw10, hz3]; exact bx_new _ _ _)
    have HK10 := Lib.hid (HK8.out.below HB10.out)
    have HBW10 := Lib.hid (bthen HBW8.out HB10.out)
    have HZ20 := Lib.hid (HZ2.out.below HB10.out)
    rw [← hw10, ← hz3]
    clear hw10 hz3 a0 a1 a2 a3 a4 a5 lq0
    have y2 := HZ20.out.lt
    have y3 := HZ3.out.lt
    have f2 := HZ20.out.cell 0 (.int .i64 x2.s.code) rfl
    have f3 := HZ3.out.cell 0 (.int .i64 x3.s.code) rfl
    have n2 : ¬ x2.s.code = 0 := by rw [HX2.out]; exact HN2.out
    have n2e : (x2.s.code == 0) = false := by simp [n2]
    clear n2
    by_cases h3 : x3.s.code = 0
    · rw [h3] at f3
      have HM : Hid (∀ a : Ac, ∃ S, (seenT root0 (xs.map Acv.a ++ [plainA a].map Acv.a))[m + 0]? = some S ∧ (seenT root0 (xs.map Acv.a ++ [plainA (movA pf pt), plainA (movA pt pf), plainA a].map Acv.a))[m + 2]? = some S) := Lib.hid (HM3.out (by rw [← HX3.out]; exact h3))
      clear h3
      go_upto_block 1 with fail
      clear y2 y3 f2 f3 n2e
      go_loopw [17] (fun iv wr => ∃ i : Nat, iv = .int .i64 (i : Int) ∧ i ≤ 30 ∧ Below w10.heap.size w10 wr) (fun iv _ => 30 - (intOf iv).toNat)
      case atStart => exact ⟨0, rfl, Nat.zero_le _, Below.refl _ _⟩
      case round =>
        obtain ⟨i, rfl, hi, hbr⟩ := hrel
        have HBR := Lib.hid hbr
        clear hbr
        by_cases hlt : i < 30
        · have hii : decide ((i : Int) < 30) = true := by simp; omega
          have hw7 : IntKind.i64.wrap ((i : Int) * 7) = (i : Int) * 7 := by rw [IntKind.wrap_i64]; omega
          have HPI := Lib.hid (fun wx => pathBy_any ((i : Int) * 7) wx (by omega) (by omega))
          obtain ⟨pth, hpth⟩ : ∃ s, s = pathBy ((i : Int) * 7) := ⟨_, rfl⟩
          rw [← hpth] at HPI
          clear hpth
          go_upto_region 19 with fail
          go_cut [18] (fun v wc => MeetL wr pth v wc)
          case first =>
            obtain ⟨kd, r, hkd, hrr, hr3⟩ : ∃ (kd : Int) (r : Nat), (kd = 7 ∨ kd = 6 ∨ kd = 4) ∧ (i : Int).tmod 3 = (r : Int) ∧ ((r = 0 ∧ kd = 7) ∨ (r = 1 ∧ kd = 6) ∨ (r = 2 ∧ kd = 4)) := by
              have e : (i : Int).tmod 3 = ((i % 3 : Nat) : Int) := by rw [Int.tmod_eq_emod_of_nonneg (by omega)]; omega
              have h3 : i % 3 = 0 ∨ i % 3 = 1 ∨ i % 3 = 2 := by omega
              rcases h3 with g | g | g
              · exact ⟨7, 0, .inl rfl, by rw [e, g], .inl ⟨rfl, rfl⟩⟩
              · exact ⟨6, 1, .inr (.inl rfl), by rw [e, g], .inr (.inl ⟨rfl, rfl⟩)⟩
              · exact ⟨4, 2, .inr (.inr rfl), by rw [e, g], .inr (.inr ⟨rfl, rfl⟩)⟩
            have hrr2 : (i : Int) % 3 = (r : Int) := by rw [← hrr, Int.tmod_eq_emod_of_nonneg (by omega)]
            have HKD := Lib.hid hkd
            clear hkd
            have HS0 := Lib.hid (Nat.le_refl wr.heap.size)
            have HS1 := Lib.hid (Nat.le_succ wr.heap.size)
            have HXA : Hid (Bx 36 (wr.alloc (.cells #[.int .i64 0, .string ⟨#[]⟩, .string ⟨#[]⟩, .int .i64 0, .int .i64 0, .slice none 0 0] 36)).drew wr.heap.size #[.int .i64 0, .string ⟨#[]⟩, .string ⟨#[]⟩, .int .i64 0, .int .i64 0, .slice none 0 0]) := Lib.hid ((bx_new wr _ _).below (Below.refl _ _).drew)
            have HSA : Hid (Bx 3 (wr.alloc (.cells #[.int .i64 7, .int .i64 6, .int .i64 4] 3)).drew wr.heap.size #[.int .i64 7, .int .i64 6, .int .i64 4]) := Lib.hid ((bx_new wr _ _).below (Below.refl _ _).drew)
            have HXB : Hid (Bx 3 ((wr.alloc (.cells #[.int .i64 7, .int .i64 6, .int .i64 4] 3)).alloc (.cells #[.int .i64 0, .string ⟨#[]⟩, .string ⟨#[]⟩, .int .i64 0, .int .i64 0, .slice none 0 0] 36)).drew wr.heap.size #[.int .i64 7, .int .i64 6, .int .i64 4] ∧ Bx 36 ((wr.alloc (.cells #[.int .i64 7, .int .i64 6, .int .i64 4] 3)).alloc (.cells #[.int .i64 0, .string ⟨#[]⟩, .string ⟨#[]⟩, .int .i64 0, .int .i64 0, .slice none 0 0] 36)).drew (wr.heap.size + 1) #[.int .i64 0, .string ⟨#[]⟩, .string ⟨#[]⟩, .int .i64 0, .int .i64 0, .slice none 0 0]) := Lib.hid (by
              have h2 := bx_new (wr.alloc (.cells #[.int .i64 7, .int .i64 6, .int .i64 4] 3)) 36 #[.int .i64 0, .string ⟨#[]⟩, .string ⟨#[]⟩, .int .i64 0, .int .i64 0, .slice none 0 0]
              rw [World.size_alloc] at h2
              exact ⟨((bx_new wr _ _).below (ba1 _ _)).below (Below.refl _ _).drew, h2.below (Below.refl _ _).drew⟩)
            have HXC : Hid (Bx 36 ((wr.alloc (.cells #[.int .i64 0, .string ⟨#[]⟩, .string ⟨#[]⟩, .int .i64 0, .int .i64 0, .slice none 0 0] 36)).alloc (.cells #[.int .i64 7, .int .i64 6, .int .i64 4] 3)).drew wr.heap.size #[.int .i64 0, .string ⟨#[]⟩, .string ⟨#[]⟩, .int .i64 0, .int .i64 0, .slice none 0 0] ∧ Bx 3 ((wr.alloc (.cells #[.int .i64 0, .string ⟨#[]⟩, .string ⟨#[]⟩, .int .i64 0, .int .i64 0, .slice none 0 0] 36)).alloc (.cells #[.int .i64 7, .int .i64 6, .int .i64 4] 3)).drew (wr.heap.size + 1) #[.int .i64 7, .int .i64 6, .int .i64 4]) := Lib.hid (by
              have h2 := bx_new (wr.alloc (.cells #[.int .i64 0, .string ⟨#[]⟩, .string ⟨#[]⟩, .int .i64 0, .int .i64 0, .slice none 0 0] 36)) 3 #[.int .i64 7, .int .i64 6, .int .i64 4]
              rw [World.size_alloc] at h2
              exact ⟨((bx_new wr _ _).below (ba1 _ _)).below (Below.refl _ _).drew, h2.below (Below.refl _ _).drew⟩)
            rcases hr3 with ⟨rfl, rfl⟩ | ⟨rfl, rfl⟩ | ⟨rfl, rfl⟩
            · go_region_law (first
                | (go_simp; go_at_call 10; (with_reducible refine (HPI.out wr.drew).mono ?_); rintro e w11 ⟨rfl, hb11⟩; have HB11 : Hid (Below wr.heap.size wr w11) := Lib.hid ((Below.refl _ _).drew.trans hb11); clear hb11)
                | (go_simp; go_at_call 10; (with_reducible refine (HPI.out (wr.alloc (.cells #[.int .i64 7, .int .i64 6, .int .i64 4] 3)).drew).mono ?_); rintro e w11 ⟨rfl, hb11⟩; have HB11 : Hid (Below wr.heap.size wr w11) := Lib.hid (bthen (ba1 _ _).drew hb11); have hs := HSA.out.below hb11; have s0 := hs.cell 0 (.int .i64 7) rfl; have s1 := hs.cell 1 (.int .i64 6) rfl; have s2 := hs.cell 2 (.int .i64 4) rfl; have sl := hs.lt; clear hb11 hs)
                | (go_simp; go_at_call 10; (with_reducible refine (HPI.out (wr.alloc (.cells #[.int .i64 0, .string ⟨#[]⟩, .string ⟨#[]⟩, .int .i64 0, .int .i64 0, .slice none 0 0] 36)).drew).mono ?_); rintro e w11 ⟨rfl, hb11⟩; have HB11 : Hid (Below wr.heap.size wr w11) := Lib.hid (bthen (ba1 _ _).drew hb11); have HV := Lib.hid (HXA.out.below hb11); obtain ⟨l7, v0, v1, v2, v3, v4, v5, f0, f1, f2, f3, f4, f5⟩ := HV.out.all6; clear hb11)
                | (go_simp; go_at_call 10; (with_reducible refine (HPI.out ((wr.alloc (.cells #[.int .i64 7, .int .i64 6, .int .i64 4] 3)).alloc (.cells #[.int .i64 0, .string ⟨#[]⟩, .string ⟨#[]⟩, .int .i64 0, .int .i64 0, .slice none 0 0] 36)).drew).mono ?_); rintro e w11 ⟨rfl, hb11⟩; have HB11 : Hid (Below wr.heap.size wr w11) := Lib.hid (bthen (ba2 _ _ _).drew hb11); have HV := Lib.hid (HXB.out.2.below hb11); obtain ⟨l7, v0, v1, v2, v3, v4, v5, f0, f1, f2, f3, f4, f5⟩ := HV.out.all6; have hs := HXB.out.1.below hb11; have s0 := hs.cell 0 (.int .i64 7) rfl; have s1 := hs.cell 1 (.int .i64 6) rfl; have s2 := hs.cell 2 (.int .i64 4) rfl; have sl := hs.lt; clear hb11 hs)
                | (go_simp; go_at_call 10; (with_reducible refine (HPI.out ((wr.alloc (.cells #[.int .i64 0, .string ⟨#[]⟩, .string ⟨#[]⟩, .int .i64 0, .int .i64 0, .slice none 0 0] 36)).alloc (.cells #[.int .i64 7, .int .i64 6, .int .i64 4] 3)).drew).mono ?_); rintro e w11 ⟨rfl, hb11⟩; have HB11 : Hid (Below wr.heap.size wr w11) := Lib.hid (bthen (ba2 _ _ _).drew hb11); have HV := Lib.hid (HXC.out.1.below hb11); obtain ⟨l7, v0, v1, v2, v3, v4, v5, f0, f1, f2, f3, f4, f5⟩ := HV.out.all6; have hs := HXC.out.2.below hb11; have s0 := hs.cell 0 (.int .i64 7) rfl; have s1 := hs.cell 1 (.int .i64 6) rfl; have s2 := hs.cell 2 (.int .i64 4) rfl; have sl := hs.lt; clear hb11 hs))
              all_goals
                go_wp2_with fail
              all_goals
                go_meet
                first
                  | with_reducible exact meetA pth _ (.inl rfl) HB11.out
                  | with_reducible exact meetC pth _ (.inl rfl) HB11.out
                  | with_reducible exact meetD pth _ (.inl rfl) HB11.out
                  | with_reducible exact meetB pth _ (.inl rfl) HB11.out HV.out HS0.out
                  | with_reducible exact meetB pth _ (.inl rfl) HB11.out HV.out HS1.out
                  | with_reducible exact meetE pth _ (.inl rfl) HB11.out HV.out HS0.out
                  | with_reducible exact meetE pth _ (.inl rfl) HB11.out HV.out HS1.out
            · go_region_law (first
                | (go_simp; go_at_call 10; (with_reducible refine (HPI.out wr.drew).mono ?_); rintro e w11 ⟨rfl, hb11⟩; have HB11 : Hid (Below wr.heap.size wr w11) := Lib.hid ((Below.refl _ _).drew.trans hb11); clear hb11)
                | (go_simp; go_at_call 10; (with_reducible refine (HPI.out (wr.alloc (.cells #[.int .i64 7, .int .i64 6, .int .i64 4] 3)).drew).mono ?_); rintro e w11 ⟨rfl, hb11⟩; have HB11 : Hid (Below wr.heap.size wr w11) := Lib.hid (bthen (ba1 _ _).drew hb11); have hs := HSA.out.below hb11; have s0 := hs.cell 0 (.int .i64 7) rfl; have s1 := hs.cell 1 (.int .i64 6) rfl; have s2 := hs.cell 2 (.int .i64 4) rfl; have sl := hs.lt; clear hb11 hs)
                | (go_simp; go_at_call 10; (with_reducible refine (HPI.out (wr.alloc (.cells #[.int .i64 0, .string ⟨#[]⟩, .string ⟨#[]⟩, .int .i64 0, .int .i64 0, .slice none 0 0] 36)).drew).mono ?_); rintro e w11 ⟨rfl, hb11⟩; have HB11 : Hid (Below wr.heap.size wr w11) := Lib.hid (bthen (ba1 _ _).drew hb11); have HV := Lib.hid (HXA.out.below hb11); obtain ⟨l7, v0, v1, v2, v3, v4, v5, f0, f1, f2, f3, f4, f5⟩ := HV.out.all6; clear hb11)
                | (go_simp; go_at_call 10; (with_reducible refine (HPI.out ((wr.alloc (.cells #[.int .i64 7, .int .i64 6, .int .i64 4] 3)).alloc (.cells #[.int .i64 0, .string ⟨#[]⟩, .string ⟨#[]⟩, .int .i64 0, .int .i64 0, .slice none 0 0] 36)).drew).mono ?_); rintro e w11 ⟨rfl, hb11⟩; have HB11 : Hid (Below wr.heap.size wr w11) := Lib.hid (bthen (ba2 _ _ _).drew hb11); have HV := Lib.hid (HXB.out.2.below hb11); obtain ⟨l7, v0, v1, v2, v3, v4, v5, f0, f1, f2, f3, f4, f5⟩ := HV.out.all6; have hs := HXB.out.1.below hb11; have s0 := hs.cell 0 (.int .i64 7) rfl; have s1 := hs.cell 1 (.int .i64 6) rfl; have s2 := hs.cell 2 (.int .i64 4) rfl; have sl := hs.lt; clear hb11 hs)
                | (go_simp; go_at_call 10; (with_reducible refine (HPI.out ((wr.alloc (.cells #[.int .i64 0, .string ⟨#[]⟩, .string ⟨#[]⟩, .int .i64 0, .int .i64 0, .slice none 0 0] 36)).alloc (.cells #[.int .i64 7, .int .i64 6, .int .i64 4] 3)).drew).mono ?_); rintro e w11 ⟨rfl, hb11⟩; have HB11 : Hid (Below wr.heap.size wr w11) := Lib.hid (bthen (ba2 _ _ _).drew hb11); have HV := Lib.hid (HXC.out.1.below hb11); obtain ⟨l7, v0, v1, v2, v3, v4, v5, f0, f1, f2, f3, f4, f5⟩ := HV.out.all6; have hs := HXC.out.2.below hb11; have s0 := hs.cell 0 (.int .i64 7) rfl; have s1 := hs.cell 1 (.int .i64 6) rfl; have s2 := hs.cell 2 (.int .i64 4) rfl; have sl := hs.lt; clear hb11 hs))
              all_goals
                go_wp2_with fail
              all_goals
                go_meet
                first
                  | with_reducible exact meetA pth _ (.inr (.inl rfl)) HB11.out
                  | with_reducible exact meetC pth _ (.inr (.inl rfl)) HB11.out
                  | with_reducible exact meetD pth _ (.inr (.inl rfl)) HB11.out
                  | with_reducible exact meetB pth _ (.inr (.inl rfl)) HB11.out HV.out HS0.out
                  | with_reducible exact meetB pth _ (.inr (.inl rfl)) HB11.out HV.out HS1.out
                  | with_reducible exact meetE pth _ (.inr (.inl rfl)) HB11.out HV.out HS0.out
                  | with_reducible exact meetE pth _ (.inr (.inl rfl)) HB11.out HV.out HS1.out
            · go_region_law (first
                | (go_simp; go_at_call 10; (with_reducible refine (HPI.out wr.drew).mono ?_); rintro e w11 ⟨rfl, hb11⟩; have HB11 : Hid (Below wr.heap.size wr w11) := Lib.hid ((Below.refl _ _).drew.trans hb11); clear hb11)
                | (go_simp; go_at_call 10; (with_reducible refine (HPI.out (wr.alloc (.cells #[.int .i64 7, .int .i64 6, .int .i64 4] 3)).drew).mono ?_); rintro e w11 ⟨rfl, hb11⟩; have HB11 : Hid (Below wr.heap.size wr w11) := Lib.hid (bthen (ba1 _ _).drew hb11); have hs := HSA.out.below hb11; have s0 := hs.cell 0 (.int .i64 7) rfl; have s1 := hs.cell 1 (.int .i64 6) rfl; have s2 := hs.cell 2 (.int .i64 4) rfl; have sl := hs.lt; clear hb11 hs)
                | (go_simp; go_at_call 10; (with_reducible refine (HPI.out (wr.alloc (.cells #[.int .i64 0, .string ⟨#[]⟩, .string ⟨#[]⟩, .int .i64 0, .int .i64 0, .slice none 0 0] 36)).drew).mono ?_); rintro e w11 ⟨rfl, hb11⟩; have HB11 : Hid (Below wr.heap.size wr w11) := Lib.hid (bthen (ba1 _ _).drew hb11); have HV := Lib.hid (HXA.out.below hb11); obtain ⟨l7, v0, v1, v2, v3, v4, v5, f0, f1, f2, f3, f4, f5⟩ := HV.out.all6; clear hb11)
                | (go_simp; go_at_call 10; (with_reducible refine (HPI.out ((wr.alloc (.cells #[.int .i64 7, .int .i64 6, .int .i64 4] 3)).alloc (.cells #[.int .i64 0, .string ⟨#[]⟩, .string ⟨#[]⟩, .int .i64 0, .int .i64 0, .slice none 0 0] 36)).drew).mono ?_); rintro e w11 ⟨rfl, hb11⟩; have HB11 : Hid (Below wr.heap.size wr w11) := Lib.hid (bthen (ba2 _ _ _).drew hb11); have HV := Lib.hid (HXB.out.2.below hb11); obtain ⟨l7, v0, v1, v2, v3, v4, v5, f0, f1, f2, f3, f4, f5⟩ := HV.out.all6; have hs := HXB.out.1.below hb11; have s0 := hs.cell 0 (.int .i64 7) rfl; have s1 := hs.cell 1 (.int .i64 6) rfl; have s2 := hs.cell 2 (.int .i64 4) rfl; have sl := hs.lt; clear hb11 hs)
                | (go_simp; go_at_call 10; (with_reducible refine (HPI.out ((wr.alloc (.cells #[.int .i64 0, .string ⟨#[]⟩, .string ⟨#[]⟩, .int .i64 0, .int .i64 0, .slice none 0 0] 36)).alloc (.cells #[.int .i64 7, .int .i64 6, .int .i64 4] 3)).drew).mono ?_); rintro e w11 ⟨rfl, hb11⟩; have HB11 : Hid (Below wr.heap.size wr w11) := Lib.hid (bthen (ba2 _ _ _).drew hb11); have HV := Lib.hid (HXC.out.1.below hb11); obtain ⟨l7, v0, v1, v2, v3, v4, v5, f0, f1, f2, f3, f4, f5⟩ := HV.out.all6; have hs := HXC.out.2.below hb11; have s0 := hs.cell 0 (.int .i64 7) rfl; have s1 := hs.cell 1 (.int .i64 6) rfl; have s2 := hs.cell 2 (.int .i64 4) rfl; have sl := hs.lt; clear hb11 hs))
              all_goals
                go_wp2_with fail
              all_goals
                go_meet
                first
                  | with_reducible exact meetA pth _ (.inr (.inr rfl)) HB11.out
                  | with_reducible exact meetC pth _ (.inr (.inr rfl)) HB11.out
                  | with_reducible exact meetD pth _ (.inr (.inr rfl)) HB11.out
                  | with_reducible exact meetB pth _ (.inr (.inr rfl)) HB11.out HV.out HS0.out
                  | with_reducible exact meetB pth _ (.inr (.inr rfl)) HB11.out HV.out HS1.out
                  | with_reducible exact meetE pth _ (.inr (.inr rfl)) HB11.out HV.out HS0.out
                  | with_reducible exact meetE pth _ (.inr (.inr rfl)) HB11.out HV.out HS1.out
          case rest =>
            obtain ⟨qk, kd, rfl, HKD, HXK, HBC⟩ := hcut
            obtain ⟨w12, hw12⟩ : ∃ w12, w12 = wc := ⟨_, rfl⟩
            subst hw12
            have HBX : Hid (Below w10.heap.size w10 w12) := Lib.hid (bthen HBR.out HBC.out)
            have HK12 := Lib.hid (HK10.out.below HBX.out)
            obtain ⟨S, hS1, hS2⟩ := HM.out (⟨kd, pth, [], 0, 60, []⟩ : Ac)
            have HSA := Lib.hid hS1
            have HSB := Lib.hid hS2
            clear hS1 hS2
            obtain ⟨lk, k0, k1, k2, k3, k4, k5, -⟩ := HXK.out.all6
            go_upto_region 21 with (go_at_call 13; refine (lasts_any A1 m c1 xs [plainA ⟨kd, pth, [], 0, 60, []⟩] 0 _ w12 HK12.out.1 rfl rfl (plain_in _ [⟨kd, pth, [], 0, 60, []⟩] (by simp)) (by omega) _ rfl S HSA.out 1 rfl).mono ?_; rintro e w13 ⟨x4, rfl, hx4, hv4, hb13⟩; have HX4 := Lib.hid hx4; have HV4 := Lib.hid hv4; have HB13 := Lib.hid hb13; clear hx4 hv4 hb13)
            obtain ⟨w14, hw14⟩ : ∃ w14, w14 = w13.alloc (.cells #[.int .i64 x4.s.code, .int .i64 x4.s.kind, .int .i64 x4.s.size, .slice x4.A x4.n x4.c, .slice x4.N x4.m x4.d] 32) := ⟨_, rfl⟩
            obtain ⟨z4, hz4⟩ : ∃ z4, z4 = w13.heap.size := ⟨_, rfl⟩
            have HB14 : Hid (Below w12.heap.size w12 w14) := Lib.hid (by rw [hw14]; exact bthen HB13.out (ba1 _ _))
            have HZ4 : Hid (Bx 32 w14 z4 #[.int .i64 x4.s.code, .int .i64 x4.s.kind, .int .i64 x4.s.size, .slice x4.A x4.n x4.c, .slice x4.N x4.m x4.d] ∧ SvIn w14 x4) := Lib.hid (by rw [hw14, hz4]; exact ⟨bx_new _ _ _, HV4.out.below (ba1 _ _)⟩)
            have HK14 := Lib.hid (HK12.out.below HB14.out)
            rw [← hw14, ← hz4]
            clear hw14 hz4 lk k0 k1 k2 k3 k4 k5
            obtain ⟨lk, k0, k1, k2, k3, k4, k5, -⟩ := (HXK.out.below HB14.out).all6
            obtain ⟨lq0, a0, a1, a2, a3, a4, a5, -⟩ := HK14.out.2.all6
            go_upto_region 22 with (go_at_call 13; refine (lasts_any A1 m c1 xs [plainA (movA pf pt), plainA (movA pt pf), plainA ⟨kd, pth, [], 0, 60, []⟩] 2 _ w14 HK14.out.1 rfl rfl (plain_in _ [movA pf pt, movA pt pf, ⟨kd, pth, [], 0, 60, []⟩] (by simp [movA])) (by omega) _ rfl S HSB.out 3 rfl).mono ?_; rintro e w15 ⟨x5, rfl, hx5, hv5, hb15⟩; have HX5 := Lib.hid hx5; have HV5 := Lib.hid hv5; have HB15 := Lib.hid hb15; clear hx5 hv5 hb15)
            obtain ⟨w16, hw16⟩ : ∃ w16, w16 = w15.alloc (.cells #[.int .i64 x5.s.code, .int .i64 x5.s.kind, .int .i64 x5.s.size, .slice x5.A x5.n x5.c, .slice x5.N x5.m x5.d] 32) := ⟨_, rfl⟩
            obtain ⟨z5, hz5⟩ : ∃ z5, z5 = w15.heap.size := ⟨_, rfl⟩
            have HB16 : Hid (Below w14.heap.size w14 w16) := Lib.hid (by rw [hw16]; exact bthen HB15.out (ba1 _ _))
            have HZ5 : Hid (Bx 32 w16 z5 #[.int .i64 x5.s.code, .int .i64 x5.s.kind, .int .i64 x5.s.size, .slice x5.A x5.n x5.c, .slice x5.N x5.m x5.d] ∧ SvIn w16 x5) := Lib.hid (by rw [hw16, hz5]; exact ⟨bx_new _ _ _, HV5.out.below (ba1 _ _)⟩)
            have HZ46 := Lib.hid (And.intro (HZ4.out.1.below HB16.out) (HZ4.out.2.below HB16.out))
            have HBW16 := Lib.hid (bthen HBX.out (bthen HB14.out HB16.out))
            rw [← hw16, ← hz5]
            clear hw16 hz5 lk k0 k1 k2 k3 k4 k5 lq0 a0 a1 a2 a3 a4 a5
            obtain ⟨m4, a0, a1, a2, a3, a4, -⟩ := HZ46.out.1.all5
            obtain ⟨m5, b0, b1, b2, b3, b4, -⟩ := HZ5.out.1.all5
            have HSAME := Lib.hid (sameSeen_of x4 x5 (HX4.out.trans HX5.out.symm) w16 HZ46.out.2 HZ5.out.2)
            go_wp2_with (go_at_call 16; (with_reducible refine HSAME.out.mono ?_); rintro e w17 ⟨rfl, hb17⟩; have HB17 := Lib.hid hb17; clear hb17)
            exact ⟨⟨i + 1, by go_num, by omega, bthen HBW16.out HB17.out⟩, by simp [intOf]; omega⟩
        · obtain rfl : i = 30 := by omega
          go_wp2_with fail
          go_ret
          exact ⟨rfl, bthen HBW10.out HBR.out⟩
    · have h3e : (x3.s.code != 0) = true := by simp [h3]
      clear h3
      go_wp2_with fail
      go_ret
      exact ⟨rfl, HBW10.out⟩
  · have h0e : (x1.s.code != 0) = true := by simp [h0]
    clear h0
    go_wp2_with fail
    go_ret
    exact ⟨rfl, HBW6.out⟩

theorem walkTreeMoved (A : Option Addr) (n c : Nat) (z : List Jv) (p q : Int) (w : World) (hb : Ls jbS w A z) (hn : z.length = n) (hc : n ≤ c) (hr : c ≤ 3518437208782) (hi : JIn w z) (h1 : -9223372036854775808 ≤ p) (h2 : p ≤ 9223372036854775807) (h3 : -9223372036854775808 ≤ q) (h4 : q ≤ 9223372036854775807) :
    Calls Tryd.prog 6 #[.slice A n c, .int .i64 p, .int .i64 q] w fun e w' => e = .returned (.bool true) ∧ Below w.heap.size w w' := treeMoved_any A n c z p q w hb hn hi (by omega) h1 h2 h3 h4

end Go.Proofs.YtdekpmidaleipaaDoor
