/-
  The walk of RecvTwice.
-/
import Derived.Test.YtehckiihipnimaaRecvTwiceMath
import Derived.Test.YtehckiihipnimaaPutAr
import Derived.Test.YtehckiihipnimaaBox6
import Derived.Test.YtehckiihipnimaaHearer
import Derived.Test.YtehckiihipnimaaSameRgs
import Derived.Laws.BitsAllLaws
import Derived.BigQuiet
import Derived.BigRegion
import Derived.Deep.DeepCutAuto
namespace Go.Proofs.Ytehckiihipnimaa
open Go.RowKit
set_option linter.unusedVariables false
set_option linter.unusedSimpArgs false

/-- the arrivals, some of their takes made takes of nothing -/
def TwO (w1 : World) (A2 : Option Addr) (kn c2 : Nat) (S : List Int) (i : Value) (wr : World) : Prop :=
  ∃ (k : Nat) (xs : List Av), k ≤ kn ∧ i = .int .i64 k ∧ OwnL arS 61 wr w1.heap.size A2 kn c2 xs ∧ AEI wr (fun j => (Value.slice A2 kn c2).ownBlock = some j) xs ∧ (∀ x ∈ xs, Tame8 S false x.a) ∧ Below w1.heap.size w1 wr

/-- the arrivals so far, some twice -/
def TwI (w4 : World) (A2 : Option Addr) (kn c2 : Nat) (xs : List Av) (tw i : Value) (wr : World) : Prop :=
  ∃ (k m : Nat) (At : Option Addr) (ct : Nat) (ys : List Av), k ≤ kn ∧ m ≤ 2 * k ∧ i = .int .i64 k ∧ tw = .slice At m ct ∧ OwnL arS 61 wr w4.heap.size At m ct ys ∧
    AEI wr (fun j => (Value.slice A2 kn c2).ownBlock = some j ∨ (Value.slice At m ct).ownBlock = some j) ys ∧ Twice ((xs.take k).map Av.a) (ys.map Av.a) ∧ Below w4.heap.size w4 wr

theorem tw_app {w4 wr wq w8 : World} {R : Nat → Prop} {At A8 : Option Addr} {m ct m8 c8 : Nat} {ys : List Av} {x : Av} (h : AEI wr (fun j => R j ∨ (Value.slice At m ct).ownBlock = some j) ys) (hx : AEI1 wr (fun j => R j ∨ (Value.slice At m ct).ownBlock = some j) x)
    (hb : Below wr.heap.size wr wq) (hs : Beside (.slice At m ct) (.slice A8 m8 c8) wq w8) (hb8 : Below w4.heap.size wq w8) : AEI w8 (fun j => R j ∨ (Value.slice A8 m8 c8).ownBlock = some j) (ys ++ [x]) :=
  ((h.app hx).new hb).only (hs.only hb8) (fun j hj => .inl (.inr hj)) (fun j hj => hj.elim (fun g => .inl (.inl g)) (fun g => (hs.own j g).imp .inr id))
theorem take_snoc {xs : List Av} {k : Nat} {x : Av} (h : xs[k]? = some x) : (xs.take (k + 1)).map Av.a = (xs.take k).map Av.a ++ [x.a] := by
  rw [List.take_add_one, h]; simp

/-- a copy's bytes, some of them others -/
def XorI (K q20 : Nat) (at_ : Int) (fin : Bool) (ct : Int) (A7 : Option Addr) (xn c7 : Nat) (wA : World) (i : Value) (wr : World) : Prop :=
  ∃ (kk : Nat) (zs : List Int), kk ≤ xn ∧ i = .int .i64 kk ∧ OwnL byS 5 wr K A7 xn c7 zs ∧ (∀ z ∈ zs, 0 ≤ z ∧ z ≤ 255) ∧ Bx 61 wr q20 #[.int .i64 1, .int .i64 at_, .slice A7 xn c7, .bool fin, .int .i64 ct] ∧ Only (fun q => (Value.slice A7 xn c7).ownBlock = some q) wA wr

set_option maxRecDepth 100000 in
set_option maxHeartbeats 8000000 in
theorem walkRecvTwice (room seed size : Int) (A : Option Addr) (n c : Nat) (l : List Int) (which other : Int) (w : World) (r1 : -9223372036854775808 ≤ room) (r2 : room ≤ 9223372036854775807) (s1 : -9223372036854775808 ≤ seed) (s2 : seed ≤ 9223372036854775807) (z1 : -9223372036854775808 ≤ size) (z2 : size ≤ 9223372036854775807)
    (hb : Ls inS w A l) (hn : l.length = n) (hc : n ≤ c) (hr : c ≤ 17592186043904) (hi : ∀ z ∈ l, i64in z) (h1 : -9223372036854775808 ≤ which) (h2 : which ≤ 9223372036854775807) (o1 : 0 ≤ other) (o2 : other ≤ 255) :
    Calls Try.prog 10 #[.int .i64 room, .int .i64 seed, .int .i64 size, .slice A n c, .int .i64 which, .int .u8 other] w fun e w' => e = .returned (.bool true) ∧ Below w.heap.size w w' := by
  have HL := Lib.hid hb
  have HN := Lib.hid hn
  have HI := Lib.hid hi
  obtain ⟨rm, hrm, hrm2⟩ := pick_nat room 300 (by omega)
  obtain ⟨sz, hsz, hsz2⟩ := pick_nat size 300 (by omega)
  obtain ⟨rr, hrr⟩ : ∃ q : Nat, 1 + rm = q := ⟨_, rfl⟩
  have er : IntKind.i64.wrap (1 + (rm : Int)) = (rr : Int) := by rw [IntKind.wrap_i64]; omega
  have hrrb : 1 ≤ rr ∧ rr ≤ 300 := by omega
  obtain ⟨ss, hss⟩ : ∃ q : Nat, 1 + sz = q := ⟨_, rfl⟩
  have es : IntKind.i64.wrap (1 + (sz : Int)) = (ss : Int) := by rw [IntKind.wrap_i64]; omega
  have hssb : 1 ≤ ss ∧ ss ≤ 300 := by omega
  clear hb hn hi hrr hss
  go_enter Try.func10, Try.ntmps10
  go_upto_region 6 with (first
    | (go_at_call 20; (with_reducible refine (picked_n room 300 rm _ hrm r1 r2 (by omega) (by omega)).mono ?_); rintro e w' ⟨rfl, rfl⟩)
    | (go_at_call 20; (with_reducible refine (picked_n size 300 sz _ hsz z1 z2 (by omega) (by omega)).mono ?_); rintro e w' ⟨rfl, rfl⟩)
    | (go_at_call 28; (refine (stream_any seed ss w s1 s2 (by omega)).mono ?_); rintro e w1 ⟨A1, c1, S, rfl, ho1, hz1, hb1⟩; have HO1 := Lib.hid ho1; have HZ1 := Lib.hid hz1; have HB1 := Lib.hid hb1; clear ho1 hz1 hb1)
    | (go_at_call 29; (refine (arrivals_any A n c 80 l w1 (HL.out.below HB1.out) HN.out HI.out (by omega) (by omega) A1 ss c1 S HO1.out.ls HO1.out.1 (by omega) HO1.out.cap (HO1.out.addr.imp id (fun ⟨g, h, _⟩ => ⟨g, h⟩)) HZ1.out false).mono ?_); rintro e w2 ⟨kn, A2, c2, xs0, rfl, hk2, ho2, he2, ht2, hb2⟩; have HO2 := Lib.hid ho2; have HE2 := Lib.hid he2; have HT2 := Lib.hid ht2; have HB2 := Lib.hid hb2; clear ho2 he2 ht2 hb2))
  have HSL : Hid (S.length = ss) := Lib.hid HO1.out.1
  have HBw1 : Hid (Below w.heap.size w w1) := HB1
  go_loopw [17] (fun i wr => TwO w1 A2 kn c2 S i wr) (fun i _ => kn - (intOf i).toNat)
  case atStart => exact ⟨0, xs0, Nat.zero_le _, rfl, HO2.out, HE2.out, HT2.out, HB2.out⟩
  case round =>
    obtain ⟨k, xs, hk, rfl, hown, hei, hta, hbw⟩ := hrel
    have HOW := Lib.hid hown
    have HEI := Lib.hid hei
    have HTA := Lib.hid hta
    have HBW := Lib.hid hbw
    clear hown hei hta hbw
    by_cases hlt : k < kn
    · have hki : (k : Int) < (kn : Int) := by omega
      have hwi : IntKind.i64.wrap ((k : Int) + 1) = ((k + 1 : Nat) : Int) := by rw [IntKind.wrap_i64]; omega
      obtain ⟨x, hx⟩ : ∃ x, xs[k]? = some x := ⟨_, List.getElem?_eq_getElem (by rw [HOW.out.1]; exact hlt)⟩
      have HX := Lib.hid hx
      have htx := HTA.out x (List.mem_of_getElem? hx)
      have hex := HEI.out x (List.mem_of_getElem? hx)
      rcases HOW.out.addr with ⟨rfl, e0, -⟩ | ⟨g, rfl, hg⟩
      · omega
      obtain ⟨b, o, hA, hbl, hcx⟩ := HOW.out.ls.at k x hx
      injection hA with hA
      injection hA with e1 e2
      subst e1; subst e2
      obtain ⟨⟨kd, at_, D, fin, ct⟩, xA, xn, xc⟩ := x
      have p0 := hcx 0 (.int .i64 kd) rfl
      have p4 := hcx 4 (.int .i64 ct) rfl
      simp only [arS, Nat.add_zero, Nat.zero_add] at p0 p4
      have f4 := HOW.out.softL (k * 5 + 4)
      clear hx hcx
      rcases htx with ⟨k1, k2, k3, k4, k5, k6⟩ | ⟨k1, k2, hrest⟩
      · simp only at k1
        subst k1
        have hput := HOW.out.putL k ⟨⟨2, at_, D, fin, ct⟩, xA, xn, xc⟩ ⟨⟨2, at_, D, fin, 0⟩, xA, xn, xc⟩ 4 (.int .i64 0) HX.out (by decide) rfl
        have HPUT : Hid (OwnL arS 61 (wr.setCell ⟨g, k * 5 + 4, none⟩ (.int .i64 0)) w1.heap.size (some ⟨g, 0, none⟩) kn c2 (xs.set k ⟨⟨2, at_, D, fin, 0⟩, xA, xn, xc⟩)) := Lib.hid hput
        have hoB : ∀ j, (Value.slice (some ⟨g, 0, none⟩) kn c2).ownBlock = some j ↔ g = j := fun j => ⟨fun h => by injection h, fun h => by rw [h]; rfl⟩
        have honly : Only (fun j => j = g) wr (wr.setCell ⟨g, k * 5 + 4, none⟩ (.int .i64 0)) := (Only.refl (fun j => j = g) wr).setCell (.inl rfl) _
        have HEI2 : Hid (AEI (wr.setCell ⟨g, k * 5 + 4, none⟩ (.int .i64 0)) (fun j => (Value.slice (some ⟨g, 0, none⟩) kn c2).ownBlock = some j) (xs.set k ⟨⟨2, at_, D, fin, 0⟩, xA, xn, xc⟩)) := Lib.hid (AEI.only (S := fun j => (Value.slice (some ⟨g, 0, none⟩) kn c2).ownBlock = some j) (w := wr) (fun y hy => by
            rcases List.mem_or_eq_of_mem_set hy with hy | rfl
            · exact HEI.out y hy
            · exact hex) honly (fun j hj => .inl ((hoB j).2 hj.symm)) (fun j hj => .inl hj))
        have HBS : Hid (Below w1.heap.size w1 (wr.setCell ⟨g, k * 5 + 4, none⟩ (.int .i64 0))) := Lib.hid (HBW.out.setCell (HOW.out.lt g rfl).1 _)
        have HTA2 : Hid (∀ y ∈ xs.set k ⟨⟨2, at_, D, fin, 0⟩, xA, xn, xc⟩, Tame8 S false y.a) := Lib.hid (fun y hy => by
            rcases List.mem_or_eq_of_mem_set hy with hy | rfl
            · exact HTA.out y hy
            · exact .inl ⟨rfl, by simp, by simp, k4, k5, k6⟩)
        clear hput hoB honly hex k2 k3 k4 k5 k6
        go_wp2_with fail
        exact ⟨⟨k + 1, _, by omega, rfl, HPUT.out, HEI2.out, HTA2.out, HBS.out⟩, by simp [intOf]; omega⟩
      · simp only at k1
        subst k1
        clear hex k2 hrest
        go_wp2_with fail
        exact ⟨⟨k + 1, xs, by omega, rfl, HOW.out, HEI.out, HTA.out, HBW.out⟩, by simp [intOf]; omega⟩
    · obtain rfl : k = kn := by omega
      have hki : ¬ (k : Int) < (k : Int) := by omega
      obtain ⟨w4, hw4⟩ : ∃ w4, w4 = wr := ⟨_, rfl⟩
      subst hw4
      have HK4 : Hid (Below w.heap.size w w4) := Lib.hid (bthen HBw1.out HBW.out)
      clear hki hk
      go_wp2_with fail
      go_loopw [18, 19] (fun tw i wr => TwI w4 A2 k c2 xs tw i wr) (fun _ i _ => k - (intOf i).toNat)
      case atStart => exact ⟨0, 0, none, 0, [], Nat.zero_le _, by omega, rfl, rfl, OwnL.nil _ _, (fun x hx => by cases hx), by rw [List.take_zero]; exact Twice.nil, Below.refl _ _⟩
      case round =>
        obtain ⟨j, m, At, ct, ys, hj, hm, rfl, rfl, hown, hei, htw, hbw⟩ := hrel
        have HOT := Lib.hid hown
        have HEY := Lib.hid hei
        have HTW := Lib.hid htw
        have HB4 := Lib.hid hbw
        clear hown hei htw hbw
        by_cases hlt : j < k
        · have hki : (j : Int) < (k : Int) := by omega
          have hwi : IntKind.i64.wrap ((j : Int) + 1) = ((j + 1 : Nat) : Int) := by rw [IntKind.wrap_i64]; omega
          obtain ⟨x, hx⟩ : ∃ x, xs[j]? = some x := ⟨_, List.getElem?_eq_getElem (by rw [HOW.out.1]; exact hlt)⟩
          have HTK := Lib.hid (take_snoc hx)
          have htx := HTA.out x (List.mem_of_getElem? hx)
          have hxa : AEI1 wr (fun q => (Value.slice A2 k c2).ownBlock = some q ∨ (Value.slice At m ct).ownBlock = some q) x :=
            (AEI.only (S' := fun _ => False) HEI.out (only_new HB4.out) (fun _ g => g.elim) (T := fun q => (Value.slice A2 k c2).ownBlock = some q ∨ (Value.slice At m ct).ownBlock = some q) (fun q g => g.imp id (fun g => (HOT.out.lt q g).1))) x (List.mem_of_getElem? hx)
          obtain ⟨b, o, rfl, hbl, hcx⟩ := (HOW.out.below HB4.out).ls.at j x hx
          obtain ⟨⟨kd, at_, D, fin, ct'⟩, xA, xn, xc⟩ := x
          have HXA := Lib.hid hxa
          have p0 := hcx 0 (.int .i64 kd) rfl
          have p1 := hcx 1 (.int .i64 at_) rfl
          have p2 := hcx 2 (.slice xA xn xc) rfl
          have p3 := hcx 3 (.bool fin) rfl
          have p4 := hcx 4 (.int .i64 ct') rfl
          simp only [arS, Nat.add_zero] at p0 p1 p2 p3 p4
          obtain ⟨b', o', hA', hbl', hc4⟩ := HOW.out.ls.at j _ hx
          injection hA' with hA'
          injection hA' with e1 e2
          subst e1; subst e2
          have HP8 : Hid (∀ w8, Below w4.heap.size (wr.alloc (.cells #[.int .i64 kd, .int .i64 at_, .slice xA xn xc, .bool fin, .int .i64 ct'] 61)) w8 →
              w8.cell? ⟨b, o + j * 5, none⟩ = some (.int .i64 kd) ∧ w8.cell? ⟨b, o + j * 5 + 1, none⟩ = some (.int .i64 at_) ∧ w8.cell? ⟨b, o + j * 5 + 2, none⟩ = some (.slice xA xn xc) ∧ w8.cell? ⟨b, o + j * 5 + 3, none⟩ = some (.bool fin) ∧ w8.cell? ⟨b, o + j * 5 + 4, none⟩ = some (.int .i64 ct') ∧ b < w8.heap.size) := Lib.hid (fun w8 h8 => by
            have hb48 : Below w4.heap.size w4 w8 := (HB4.out.trans ((ba1 wr _).mono HB4.out.size)).trans h8
            have g : ∀ p : Nat, w8.cell? ⟨b, p, none⟩ = w4.cell? ⟨b, p, none⟩ := fun p => World.cell?_of_block (hb48.block b hbl')
            rw [g, g, g, g, g]
            exact ⟨hc4 0 (.int .i64 kd) rfl, hc4 1 (.int .i64 at_) rfl, hc4 2 (.slice xA xn xc) rfl, hc4 3 (.bool fin) rfl, hc4 4 (.int .i64 ct') rfl, Nat.lt_of_lt_of_le hbl' hb48.size⟩)
          clear hcx hxa hx hc4 hbl'
          obtain ⟨qq, hqq⟩ : ∃ q, IntKind.i64.wrap (which + (j : Int)) = q := ⟨_, rfl⟩
          have hqb : -9223372036854775808 ≤ qq ∧ qq ≤ 9223372036854775807 := by rw [← hqq, IntKind.wrap_i64]; omega
          obtain ⟨pk, hpk, hpk2⟩ := pick_nat qq 3 (by omega)
          have HFIN : Hid (∀ (A8 : Option Addr) (c8 : Nat) (w8 wz : World), OwnL arS 61 w8 w4.heap.size A8 (m + 1) c8 (ys ++ [⟨⟨kd, at_, D, fin, ct'⟩, xA, xn, xc⟩]) → Below w4.heap.size (wr.alloc (.cells #[.int .i64 kd, .int .i64 at_, .slice xA xn xc, .bool fin, .int .i64 ct'] 61)) w8 → Beside (.slice At m ct) (.slice A8 (m + 1) c8) (wr.alloc (.cells #[.int .i64 kd, .int .i64 at_, .slice xA xn xc, .bool fin, .int .i64 ct'] 61)) w8 → Below w8.heap.size w8 wz →
              TwI w4 (some ⟨b, o, none⟩) k c2 xs (.slice A8 ((m + 1 : Nat) : Nat) c8) (.int .i64 ((j + 1 : Nat) : Int)) wz) := Lib.hid (fun A8 c8 w8 wz g1 g2 g3 g4 =>
                ⟨j + 1, m + 1, A8, c8, _, by omega, by omega, rfl, rfl, g1.below g4, (tw_app HEY.out HXA.out (ba1 _ _) g3 g2).new g4, by rw [HTK.out, List.map_append]; exact Twice.one _ HTW.out, ((HB4.out.trans ((ba1 wr _).mono HB4.out.size)).trans g2).trans (g4.mono (by have q1 := g2.size; have q2 := HB4.out.size; simp at q1; omega))⟩)
          have hcase : kd = 2 ∨ (kd = 1 ∧ pk ≠ 0) ∨ (kd = 1 ∧ pk = 0) := by
            rcases htx with ⟨k1, -⟩ | ⟨k1, -⟩
            · exact .inl k1
            · exact .inr ((Nat.eq_zero_or_pos pk).elim (fun g => .inr ⟨k1, g⟩) (fun g => .inl ⟨k1, by omega⟩))
          clear htx
          rcases hcase with rfl | ⟨rfl, hp0⟩ | ⟨rfl, rfl⟩
          · go_wp2_with (at_builtin; refine wpList_appL (F := arS) rfl _ (.tmp 61) (.tmp 66) 47 rfl _ 56 Try.underlying47 arInfo rfl w4.heap.size At m ct ys rfl (HOT.out.below (ba1 _ _)) (some ⟨wr.heap.size, 0, none⟩) 1 1 [⟨⟨2, at_, D, fin, ct'⟩, xA, xn, xc⟩] rfl (ls_new wr _ _ _ rfl _ rfl) rfl (m + 1) rfl (by omega) (by omega) (by have := HB4.out.size; simp; omega) ?_; intro A8 c8 w8 ho8 hb8 hs8; have HO8 := Lib.hid ho8; have HB8 := Lib.hid hb8; have HS8 := Lib.hid hs8; obtain ⟨y0, y1, y2, y3, y4, y5⟩ := HP8.out w8 hb8; clear ho8 hb8 hs8)
            exact ⟨HFIN.out A8 c8 w8 _ HO8.out HB8.out HS8.out (Below.refl _ _), by simp [intOf]; omega⟩
          · have e1 : ((pk : Int) == 0) = false := by simp; omega
            have e2 : decide ((pk : Int) = 0) = false := by simp; omega
            go_wp2_with (first
              | (at_builtin; refine wpList_appL (F := arS) rfl _ (.tmp 61) (.tmp 66) 47 rfl _ 56 Try.underlying47 arInfo rfl w4.heap.size At m ct ys rfl (HOT.out.below (ba1 _ _)) (some ⟨wr.heap.size, 0, none⟩) 1 1 [⟨⟨1, at_, D, fin, ct'⟩, xA, xn, xc⟩] rfl (ls_new wr _ _ _ rfl _ rfl) rfl (m + 1) rfl (by omega) (by omega) (by have := HB4.out.size; simp; omega) ?_; intro A8 c8 w8 ho8 hb8 hs8; have HO8 := Lib.hid ho8; have HB8 := Lib.hid hb8; have HS8 := Lib.hid hs8; obtain ⟨y0, y1, y2, y3, y4, y5⟩ := HP8.out w8 hb8; clear ho8 hb8 hs8)
              | (go_at_call 20; (with_reducible refine (picked_n qq 3 pk _ hpk hqb.1 hqb.2 (by omega) (by omega)).mono ?_); rintro e w' ⟨rfl, rfl⟩))
            exact ⟨HFIN.out A8 c8 w8 _ HO8.out HB8.out HS8.out (Below.refl _ _), by simp [intOf]; omega⟩
          · go_upto_region 16 with (first
              | (at_builtin; refine wpList_appL (F := arS) rfl _ (.tmp 61) (.tmp 66) 47 rfl _ 56 Try.underlying47 arInfo rfl w4.heap.size At m ct ys rfl (HOT.out.below (ba1 _ _)) (some ⟨wr.heap.size, 0, none⟩) 1 1 [⟨⟨1, at_, D, fin, ct'⟩, xA, xn, xc⟩] rfl (ls_new wr _ _ _ rfl _ rfl) rfl (m + 1) rfl (by omega) (by omega) (by have := HB4.out.size; simp; omega) ?_; intro A8 c8 w8 ho8 hb8 hs8; have HO8 := Lib.hid ho8; have HB8 := Lib.hid hb8; have HS8 := Lib.hid hs8; obtain ⟨y0, y1, y2, y3, y4, y5⟩ := HP8.out w8 hb8; clear ho8 hb8 hs8)
              | (go_at_call 20; (with_reducible refine (picked_n qq 3 0 _ hpk hqb.1 hqb.2 (by omega) (by omega)).mono ?_); rintro e w' ⟨rfl, rfl⟩))
            go_upto_region 17 with fail
            obtain ⟨q20, hq20⟩ : ∃ q, q = w8.heap.size := ⟨_, rfl⟩
            obtain ⟨w9, hw9⟩ : ∃ w9, w9 = w8.alloc (.cells #[.int .i64 1, .int .i64 at_, .slice xA xn xc, .bool fin, .int .i64 ct'] 61) := ⟨_, rfl⟩
            have HB9 : Hid (Below w8.heap.size w8 w9) := Lib.hid (by rw [hw9]; exact ba1 _ _)
            have HX9 : Hid (Bx 61 w9 q20 #[.int .i64 1, .int .i64 at_, .slice xA xn xc, .bool fin, .int .i64 ct']) := Lib.hid (by rw [hw9, hq20]; exact bx_new _ _ _)
            have HQ9 : Hid (q20 = w8.heap.size) := Lib.hid hq20
            have hz9 : w9.heap.size = q20 + 1 := by rw [hw9, hq20]; simp
            have HZ9 := Lib.hid hz9
            rw [← hw9, ← hq20]
            clear hw9 hq20 hz9 y0 y1 y2 y3 y4 y5 p0 p1 p2 p3 p4
            have HE8 : Hid (AEI w8 (fun q => (Value.slice (some ⟨b, o, none⟩) k c2).ownBlock = some q ∨ (Value.slice A8 (m + 1) c8).ownBlock = some q) (ys ++ [⟨⟨1, at_, D, fin, ct'⟩, xA, xn, xc⟩])) := Lib.hid (tw_app HEY.out HXA.out (ba1 _ _) HS8.out HB8.out)
            have HLD : Hid (Ls byS w9 xA D) := Lib.hid ((HE8.out ⟨⟨1, at_, D, fin, ct'⟩, xA, xn, xc⟩ (by simp)).1.below HB9.out)
            have HLN : Hid (D.length = xn) := Lib.hid HXA.out.2.1
            have hxn : xn ≤ 64 := HXA.out.2.2.1
            have j2 := HX9.out.cell 2 (.slice xA xn xc) rfl
            have l9 := HX9.out.lt
            go_upto_region 18 with (at_builtin; refine wpList_appL (F := byS) rfl _ (.const (.slice none 0 0)) (.tmp 86) 27 rfl _ 1 Try.underlying27 byInfo rfl w9.heap.size none 0 0 [] rfl (OwnL.nil _ _) xA xn xc D rfl HLD.out HLN.out xn (by omega) (by omega) (by omega) (Nat.le_refl _) ?_; intro A7 c7 w7 ho7 hb7 _; rw [List.nil_append] at ho7; have HO7 := Lib.hid ho7; have HB7 := Lib.hid hb7; have j7 := (HX9.out.below hb7).cell 2 (.slice xA xn xc) rfl; have f7 := (HX9.out.below hb7).soft 2; have l7 := (HX9.out.below hb7).lt; clear ho7 hb7)
            obtain ⟨wA, hwA⟩ : ∃ wA, wA = w7.setCell ⟨q20, 2, none⟩ (.slice A7 xn c7) := ⟨_, rfl⟩
            have HXB : Hid (Bx 61 wA q20 #[.int .i64 1, .int .i64 at_, .slice A7 xn c7, .bool fin, .int .i64 ct']) := Lib.hid (by rw [hwA]; exact (HX9.out.below HB7.out).set 2 _)
            have HOA : Hid (OwnL byS 5 wA w9.heap.size A7 xn c7 D) := Lib.hid (by rw [hwA]; exact HO7.out.set (Off.under (fun q hq => (HO7.out.lt q hq).1) (by rw [HZ9.out]; omega)) 2 _)
            have HBA : Hid (Below w8.heap.size w8 wA) := Lib.hid (by
              rw [hwA]
              exact (HB9.out.trans (HB7.out.mono HB9.out.size)).setCell (Nat.le_of_eq HQ9.out.symm) _)
            rw [← hwA]
            clear hwA j7 f7 l7 j2 l9
            obtain ⟨wo, hwo⟩ : ∃ wo, wo = wr := ⟨_, rfl⟩
            subst hwo
            go_wp2_with fail
            go_loopw [21] (fun i wr => XorI w9.heap.size q20 at_ fin ct' A7 xn c7 wA i wr) (fun i _ => xn - (intOf i).toNat)
            case atStart => exact ⟨0, D, Nat.zero_le _, rfl, HOA.out, HXA.out.2.2.2.1, HXB.out, Only.refl _ _⟩
            case round =>
              obtain ⟨kk, zs, hkk, rfl, hown, hz, hbx, honly⟩ := hrel
              have HO3 := Lib.hid hown
              have HZ3 := Lib.hid hz
              have HX3 := Lib.hid hbx
              have HN3 := Lib.hid honly
              clear hown hz hbx honly
              have p2 := HX3.out.cell 2 (.slice A7 xn c7) rfl
              have lq := HX3.out.lt
              by_cases hlt2 : kk < xn
              · have hki2 : (kk : Int) < (xn : Int) := by omega
                have hwi2 : IntKind.i64.wrap ((kk : Int) + 1) = ((kk + 1 : Nat) : Int) := by rw [IntKind.wrap_i64]; omega
                rcases HO3.out.addr with ⟨rfl, e0, -⟩ | ⟨g7, rfl, lg⟩
                · omega
                obtain ⟨z, hz⟩ : ∃ z, zs[kk]? = some z := ⟨_, List.getElem?_eq_getElem (by rw [HO3.out.1]; exact hlt2)⟩
                have pc : wr.cell? ⟨g7, kk, none⟩ = some (.int .u8 z) := by
                  have := HO3.out.cellB kk hlt2
                  rw [List.getD_eq_getElem?_getD, hz] at this
                  exact this
                have pf := HO3.out.softB kk
                have hzb := HZ3.out z (List.mem_of_getElem? hz)
                obtain ⟨v, hv⟩ : ∃ v, bits .xor .u8 z other = v := ⟨_, rfl⟩
                have hvb : 0 ≤ v ∧ v ≤ 255 := by
                  rw [← hv, u8_xor z other hzb.1 (by omega) o1 (by omega)]
                  have := Nat.xor_lt_two_pow (x := z.toNat) (y := other.toNat) (n := 8) (by omega) (by omega)
                  omega
                have HV := Lib.hid hvb
                have hgq : g7 ≠ q20 := by
                  have := (HO3.out.lt g7 rfl).1
                  have := HZ9.out
                  omega
                have hfin : XorI w9.heap.size q20 at_ fin ct' (some ⟨g7, 0, none⟩) xn c7 wA (.int .i64 ((kk + 1 : Nat) : Int)) (wr.setCell ⟨g7, kk, none⟩ (.int .u8 v)) :=
                  ⟨kk + 1, zs.set kk v, by omega, rfl, HO3.out.putB kk v, (fun y hy => by
                    rcases List.mem_or_eq_of_mem_set hy with hy | rfl
                    · exact HZ3.out y hy
                    · exact HV.out), HX3.out.other (fun e => hgq e.symm) _, HN3.out.setCell (.inl rfl) _⟩
                have HFI := Lib.hid hfin
                clear hfin hvb hzb hz hgq
                go_wp2_with fail
                exact ⟨HFI.out, by simp [intOf]; omega⟩
              · obtain rfl : kk = xn := by omega
                have hki2 : ¬ (kk : Int) < (kk : Int) := by omega
                obtain ⟨wE, hwE⟩ : ∃ wE, wE = wr := ⟨_, rfl⟩
                subst hwE
                have HBE : Hid (Below w8.heap.size w8 wE) := Lib.hid (HBA.out.trans (HN3.out.below (fun q hq => Nat.le_trans HB9.out.size (HO3.out.lt q hq).1) HBA.out.size))
                have HE9 : Hid (AEI wE (fun q => (Value.slice (some ⟨b, o, none⟩) k c2).ownBlock = some q ∨ (Value.slice A8 (m + 1) c8).ownBlock = some q) (ys ++ [⟨⟨1, at_, D, fin, ct'⟩, xA, kk, xc⟩])) := Lib.hid (HE8.out.new HBE.out)
                have HO9 : Hid (OwnL arS 61 wE w4.heap.size A8 (m + 1) c8 (ys ++ [⟨⟨1, at_, D, fin, ct'⟩, xA, kk, xc⟩])) := Lib.hid (HO8.out.below HBE.out)
                have hz48 : w4.heap.size ≤ w8.heap.size := by
                  have q1 := HB8.out.size; have q2 := HB4.out.size; simp at q1; omega
                have HZ48 := Lib.hid hz48
                have HNX : Hid (AEI1 wE (fun q => (Value.slice (some ⟨b, o, none⟩) k c2).ownBlock = some q ∨ (Value.slice A8 (m + 1) c8).ownBlock = some q) ⟨⟨1, at_, zs, fin, ct'⟩, A7, kk, c7⟩) := Lib.hid ⟨HO3.out.ls, HO3.out.1, hxn, HZ3.out, clear_of_own HO3.out.2 (fun q hq => by
                  have := HZ9.out; have := HQ9.out
                  rcases hq with (hq | hq) | hq
                  · have := (HOW.out.lt q hq).2; left; omega
                  · have := (HO8.out.lt q hq).2; left; omega
                  · right; exact hq)⟩
                have HFI2 : Hid (∀ (A9 : Option Addr) (c9 : Nat) (wF : World), OwnL arS 61 wF w4.heap.size A9 (m + 2) c9 (ys ++ [⟨⟨1, at_, D, fin, ct'⟩, xA, kk, xc⟩] ++ [⟨⟨1, at_, zs, fin, ct'⟩, A7, kk, c7⟩]) → Below w4.heap.size (wE.alloc (.cells #[.int .i64 1, .int .i64 at_, .slice A7 kk c7, .bool fin, .int .i64 ct'] 61)) wF → Beside (.slice A8 (m + 1) c8) (.slice A9 (m + 2) c9) (wE.alloc (.cells #[.int .i64 1, .int .i64 at_, .slice A7 kk c7, .bool fin, .int .i64 ct'] 61)) wF →
                    TwI w4 (some ⟨b, o, none⟩) k c2 xs (.slice A9 ((m + 2 : Nat) : Nat) c9) (.int .i64 ((j + 1 : Nat) : Int)) wF) := Lib.hid (fun A9 c9 wF g1 g2 g3 =>
                  ⟨j + 1, m + 2, A9, c9, _, by omega, by omega, rfl, rfl, g1, tw_app HE9.out HNX.out (ba1 _ _) g3 g2, by
                    rw [HTK.out, List.append_assoc, List.map_append]
                    exact Twice.two _ _ HTW.out rfl ⟨rfl, rfl, by show zs.length = D.length; rw [HO3.out.1, HLN.out], rfl, rfl⟩,
                    (((HB4.out.trans ((ba1 wo _).mono HB4.out.size)).trans HB8.out).trans (HBE.out.mono HZ48.out)).trans ((((ba1 wE _).mono (Nat.le_trans HZ48.out HBE.out.size))).trans g2)⟩)
                have p0 := HX3.out.cell 0 (.int .i64 1) rfl
                have p1 := HX3.out.cell 1 (.int .i64 at_) rfl
                have p3 := HX3.out.cell 3 (.bool fin) rfl
                have p4 := HX3.out.cell 4 (.int .i64 ct') rfl
                have hzE : w4.heap.size ≤ wE.heap.size := Nat.le_trans hz48 HBE.out.size
                clear hz48
                go_wp2_with (at_builtin; refine wpList_appL (F := arS) rfl _ (.tmp 104) (.tmp 106) 47 rfl _ 56 Try.underlying47 arInfo rfl w4.heap.size A8 (m + 1) c8 _ rfl (HO9.out.below (ba1 _ _)) (some ⟨wE.heap.size, 0, none⟩) 1 1 [⟨⟨1, at_, zs, fin, ct'⟩, A7, kk, c7⟩] rfl (ls_new wE _ _ _ rfl _ rfl) rfl (m + 2) rfl (by omega) (by omega) (by simp; omega) ?_; intro A9 c9 wF ho9 hb9 hs9; have HO9' := Lib.hid ho9; have HB9' := Lib.hid hb9; have HS9 := Lib.hid hs9; clear ho9 hb9 hs9)
                exact ⟨HFI2.out A9 c9 wF HO9'.out HB9'.out HS9.out, by simp [intOf]; omega⟩
        · obtain rfl : j = k := by omega
          have hki : ¬ (j : Int) < (j : Int) := by omega
          have hxs : xs.take j = xs := List.take_of_length_le (by rw [HOW.out.1]; omega)
          rw [hxs] at HTW
          have HLX : Hid (xs.length = j) := Lib.hid HOW.out.1
          have HLY : Hid (ys.length = m) := Lib.hid HOT.out.1
          have HLT : Hid (∃ t, (heard (hr0 (rr : Int)) ((xs ++ [(⟨⟨2, 0, [], false, 4096⟩, none, 0, 0⟩ : Av)]).map Av.a))[j]? = some t ∧ (heard (hr0 (rr : Int)) ((ys ++ [(⟨⟨2, 0, [], false, 4096⟩, none, 0, 0⟩ : Av)]).map Av.a))[m]? = some t ∧ t.data.length ≤ 700 ∧ t.sacks.length ≤ 3) := Lib.hid (by
            have := twice_last (S := S) (by rw [HSL.out]; omega) (rt_start S false (r := (rr : Int)) (by omega) (by omega)) HTW.out (fun a ha => by
              obtain ⟨x, hx, rfl⟩ := List.mem_map.1 ha
              exact HTA.out x hx) ⟨2, 0, [], false, 4096⟩ (.inl ⟨rfl, by simp, by simp, rfl, rfl, rfl⟩)
            rw [List.length_map, List.length_map, HLX.out, HLY.out] at this
            rw [List.map_append, List.map_append]
            exact this)
          have HA5 : Hid (OwnL arS 61 wr w1.heap.size A2 j c2 xs) := Lib.hid (HOW.out.below HB4.out)
          have HEX : Hid (AEI wr (fun q => (Value.slice At m ct).ownBlock = some q ∨ (Value.slice A2 j c2).ownBlock = some q) xs) := Lib.hid (AEI.only (S' := fun _ => False) HEI.out (only_new HB4.out) (fun _ g => g.elim) (fun q g => g.elim (fun g => .inr (HOT.out.lt q g).1) .inl))
          have hb14 : w1.heap.size ≤ w4.heap.size := HBW.out.size
          have hb45 : w4.heap.size ≤ wr.heap.size := HB4.out.size
          have HAP : Hid (∀ q, (Value.slice At m ct).ownBlock = some q → ¬ (Value.slice A2 j c2).ownBlock = some q) := Lib.hid (fun q h1 h2 => by
            have := (HOT.out.lt q h1).1; have := (HOW.out.lt q h2).2; omega)
          go_upto_region 24 with (at_builtin; refine wpList_appL (F := arS) rfl _ (.tmp 108) (.tmp 110) 47 rfl _ 56 Try.underlying47 arInfo rfl w1.heap.size A2 j c2 xs rfl (HA5.out.below (ba1 _ _)) (some ⟨wr.heap.size, 0, none⟩) 1 1 [⟨⟨2, 0, [], false, 4096⟩, none, 0, 0⟩] rfl (ls_new wr _ _ _ rfl _ rfl) rfl (j + 1) rfl (by omega) (by omega) (by simp; omega) ?_; intro A6 c6 w6 ho6 hb6 hs6; have HO6 := Lib.hid ho6; have HB6 := Lib.hid hb6; have HS6 := Lib.hid hs6; clear ho6 hb6 hs6)
          have HOT6 : Hid (OwnL arS 61 w6 w4.heap.size At m ct ys) := Lib.hid ((HOT.out.below (ba1 _ _)).only (HS6.out.only HB6.out) HAP.out)
          have HEX6 : Hid (AEI w6 (fun q => (Value.slice At m ct).ownBlock = some q ∨ (Value.slice A6 (j + 1) c6).ownBlock = some q) (xs ++ [⟨⟨2, 0, [], false, 4096⟩, none, 0, 0⟩])) := Lib.hid (tw_app (w4 := w1) HEX.out ⟨Ls.nil _ _, rfl, by simp, by simp, Clear.none _⟩ (ba1 _ _) HS6.out HB6.out)
          have HEY6 : Hid (AEI w6 (fun q => (Value.slice A6 (j + 1) c6).ownBlock = some q ∨ (Value.slice At m ct).ownBlock = some q) ys) := Lib.hid (AEI.only (HEY.out.new (ba1 _ _)) (HS6.out.only HB6.out) (fun q hq => .inl (.inl hq)) (fun q hq => hq.elim (fun g => (HS6.out.own q g).imp .inl id) (fun g => .inl (.inr g))))
          have HAP6 : Hid (∀ q, (Value.slice A6 (j + 1) c6).ownBlock = some q → ¬ (Value.slice At m ct).ownBlock = some q) := Lib.hid (fun q g1 g2 => by
            rcases HS6.out.own q g1 with g | g
            · exact HAP.out q g2 g
            · have := (HOT.out.lt q g2).2; simp at g; omega)
          have hz6 : wr.heap.size + 1 ≤ w6.heap.size := by have := HB6.out.size; simpa using this
          have HB16 : Hid (Below w1.heap.size w1 w6) := Lib.hid (((HBW.out.trans (HB4.out.mono hb14)).trans ((ba1 wr _).mono (Nat.le_trans hb14 hb45))).trans HB6.out)
          go_upto_region 25 with (at_builtin; refine wpList_appL (F := arS) rfl _ (.tmp 112) (.tmp 114) 47 rfl _ 56 Try.underlying47 arInfo rfl w4.heap.size At m ct ys rfl (HOT6.out.below (ba1 _ _)) (some ⟨w6.heap.size, 0, none⟩) 1 1 [⟨⟨2, 0, [], false, 4096⟩, none, 0, 0⟩] rfl (ls_new w6 _ _ _ rfl _ rfl) rfl (m + 1) rfl (by omega) (by omega) (by simp; omega) ?_; intro A7 c7 w7 ho7 hb7 hs7; have HO7 := Lib.hid ho7; have HB7 := Lib.hid hb7; have HS7 := Lib.hid hs7; clear ho7 hb7 hs7)
          have HO67 : Hid (OwnL arS 61 w7 w1.heap.size A6 (j + 1) c6 (xs ++ [⟨⟨2, 0, [], false, 4096⟩, none, 0, 0⟩])) := Lib.hid ((HO6.out.below (ba1 _ _)).only (HS7.out.only HB7.out) HAP6.out)
          have HEX7 : Hid (AIn w7 (xs ++ [⟨⟨2, 0, [], false, 4096⟩, none, 0, 0⟩])) := Lib.hid (AEI.ain (AEI.only (T := fun _ => False) (HEX6.out.new (ba1 _ _)) (HS7.out.only HB7.out) (fun q hq => .inl (.inl hq)) (fun q hq => hq.elim)))
          have HEY7 : Hid (AIn w7 (ys ++ [⟨⟨2, 0, [], false, 4096⟩, none, 0, 0⟩])) := Lib.hid (AEI.ain (tw_app HEY6.out ⟨Ls.nil _ _, rfl, by simp, by simp, Clear.none _⟩ (ba1 _ _) HS7.out HB7.out))
          have HB17 : Hid (Below w1.heap.size w1 w7) := Lib.hid ((HB16.out.trans ((ba1 w6 _).mono HB16.out.size)).trans (HB7.out.mono hb14))
          go_upto_region 26 with (go_at_call 30; (refine (hearer_any (rr : Int) A6 (j + 1) c6 _ w7 (by omega) (by omega) (by omega) HO67.out.ls HO67.out.1 HEX7.out _ rfl).mono ?_); unfold RetHs; rw [heard_len, List.length_map, HO67.out.1]; rintro e w8 ⟨A8, c8, l8, rfl, ho8, hm8, he8, hb8⟩; have HO8 := Lib.hid ho8; have HM8 := Lib.hid hm8; have HE8 := Lib.hid he8; have HB8 := Lib.hid hb8; clear ho8 hm8 he8 hb8)
          go_upto_region 29 with (go_at_call 30; (refine (hearer_any (rr : Int) A7 (m + 1) c7 _ w8 (by omega) (by omega) (by omega) (HO7.out.ls.below HB8.out) HO7.out.1 (HEY7.out.below HB8.out) _ rfl).mono ?_); unfold RetHs; rw [heard_len, List.length_map, HO7.out.1]; rintro e w9 ⟨A9, c9, l9, rfl, ho9, hm9, he9, hb9⟩; have HO9 := Lib.hid ho9; have HM9 := Lib.hid hm9; have HE9 := Lib.hid he9; have HB9 := Lib.hid hb9; clear ho9 hm9 he9 hb9)
          obtain ⟨t, ht1, ht2, ht3, ht4⟩ := HLT.out
          obtain ⟨x1, hx1, e1, ⟨d1, n1⟩, sk1, m1⟩ := heard_at (HO8.out.below HB9.out) HM8.out (HE8.out.new HB9.out) j t ht1
          obtain ⟨x2, hx2, e2, ⟨d2, n2⟩, sk2, m2⟩ := heard_at HO9.out HM9.out HE9.out m t ht2
          obtain ⟨b1, q1, rfl, hl1, hc1⟩ := (HO8.out.below HB9.out).ls.at j x1 hx1
          obtain ⟨b2, q2, rfl, hl2, hc2⟩ := HO9.out.ls.at m x2 hx2
          obtain ⟨t1, S1, m1', f1, B1, n1', g1⟩ := x1
          obtain ⟨t2, S2, m2', f2, B2, n2', g2⟩ := x2
          simp only at e1 d1 n1 sk1 m1 e2 d2 n2 sk2 m2
          obtain rfl : n2' = n1' := by omega
          obtain rfl : m2' = m1' := by omega
          subst e1; subst e2
          obtain ⟨tc, tack, twin, tsk, td, tst⟩ := t2
          simp only at ht3 ht4 d1 n1 sk1 m1 d2 n2 sk2 m2
          have HD1 := Lib.hid d1; have HD2 := Lib.hid d2; have HS1 := Lib.hid sk1; have HS2 := Lib.hid sk2; have HN1 := Lib.hid n1; have HM1 := Lib.hid m1
          have u0 := hc1 0 (.int .i64 tc) rfl
          have u1 := hc1 1 (.int .i64 tack) rfl
          have u2 := hc1 2 (.int .i64 twin) rfl
          have u3 := hc1 3 (.slice S1 m2' f1) rfl
          have u4 := hc1 4 (.slice B1 n2' g1) rfl
          have u5 := hc1 5 (.bool tst) rfl
          have v0 := hc2 0 (.int .i64 tc) rfl
          have v1 := hc2 1 (.int .i64 tack) rfl
          have v2 := hc2 2 (.int .i64 twin) rfl
          have v3 := hc2 3 (.slice S2 m2' f2) rfl
          have v4 := hc2 4 (.slice B2 n2' g2) rfl
          have v5 := hc2 5 (.bool tst) rfl
          simp only [teS, Nat.add_zero] at u0 u1 u2 u3 u4 u5 v0 v1 v2 v3 v4 v5
          have ew1 : IntKind.i64.wrap ((j : Int) + 1 - 1) = (j : Int) := by rw [IntKind.wrap_i64]; omega
          have ew2 : IntKind.i64.wrap ((m : Int) + 1 - 1) = (m : Int) := by rw [IntKind.wrap_i64]; omega
          have hsm : n2' ≤ 700 := by omega
          have hsm2 : m2' ≤ 3 := by omega
          clear hc1 hc2 hx1 hx2 ht1 ht2 d1 d2 n1 n2 sk1 sk2 m1 m2
          go_upto_region 31 with fail
          obtain ⟨w10, hw10⟩ : ∃ w10, w10 = w9.alloc (.cells #[.int .i64 tc, .int .i64 tack, .int .i64 twin, .slice S1 m2' f1, .slice B1 n2' g1, .bool tst] 52) := ⟨_, rfl⟩
          obtain ⟨w12, hw12⟩ : ∃ w12, w12 = w10.alloc (.cells #[.int .i64 tc, .int .i64 tack, .int .i64 twin, .slice S2 m2' f2, .slice B2 n2' g2, .bool tst] 52) := ⟨_, rfl⟩
          obtain ⟨q26, hq26⟩ : ∃ q, q = w9.heap.size := ⟨_, rfl⟩
          obtain ⟨q27, hq27⟩ : ∃ q, q = w9.heap.size + 1 := ⟨_, rfl⟩
          have HXa : Hid (Bx 52 w12 q26 #[.int .i64 tc, .int .i64 tack, .int .i64 twin, .slice S1 m2' f1, .slice B1 n2' g1, .bool tst]) := Lib.hid (by rw [hw12, hw10, hq26]; exact (bx_new _ _ _).below (ba1 _ _))
          have HXb : Hid (Bx 52 w12 q27 #[.int .i64 tc, .int .i64 tack, .int .i64 twin, .slice S2 m2' f2, .slice B2 n2' g2, .bool tst]) := Lib.hid (by
            rw [hw12, hq27]
            have := bx_new w10 52 #[.int .i64 tc, .int .i64 tack, .int .i64 twin, .slice S2 m2' f2, .slice B2 n2' g2, .bool tst]
            rw [show w10.heap.size = w9.heap.size + 1 by rw [hw10]; simp] at this
            exact this)
          have HB12 : Hid (Below w9.heap.size w9 w12) := Lib.hid (by rw [hw12, hw10]; exact ba2 _ _ _)
          rw [← hw10, ← hw12, ← hq27, ← hq26]
          clear hw10 hw12 hq26 hq27 u0 u1 u2 u3 u4 u5 v0 v1 v2 v3 v4 v5
          have p4 := HXa.out.cell 4 (.slice B1 n2' g1) rfl
          have r4 := HXb.out.cell 4 (.slice B2 n2' g2) rfl
          have lp := HXa.out.lt
          have lr := HXb.out.lt
          go_wp2_with (first
            | (go_at_call 23; (refine (same_keep B1 n2' g1 B2 g2 td _ (HD1.out.below HB12.out) (HD2.out.below HB12.out) HN1.out (by omega)).mono ?_); rintro e w13 ⟨rfl, hb13⟩; have HB13 := Lib.hid hb13; have p1 := (HXa.out.below hb13).cell 1 (.int .i64 tack) rfl; have r1' := (HXb.out.below hb13).cell 1 (.int .i64 tack) rfl; have p3 := (HXa.out.below hb13).cell 3 (.slice S1 m2' f1) rfl; have r3 := (HXb.out.below hb13).cell 3 (.slice S2 m2' f2) rfl; have lp' := (HXa.out.below hb13).lt; have lr' := (HXb.out.below hb13).lt; clear hb13)
            | (go_at_call 31; (refine (same_rgs S1 m2' f1 S2 f2 tsk _ ((HS1.out.below HB12.out).below HB13.out) ((HS2.out.below HB12.out).below HB13.out) HM1.out (by omega)).mono ?_); rintro e w14 ⟨rfl, hb14'⟩; have HB14 := Lib.hid hb14'; clear hb14'))
          go_ret
          exact ⟨rfl, bthen (bthen (bthen (bthen (bthen (bthen HBw1.out HB17.out) HB8.out) HB9.out) HB12.out) HB13.out) HB14.out⟩

end Go.Proofs.Ytehckiihipnimaa
