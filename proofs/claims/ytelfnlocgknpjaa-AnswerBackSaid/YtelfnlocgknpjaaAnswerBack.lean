/-
  AnswerBack.
-/
import Derived.Test.YtelfnlocgknpjaaMSameRK
import Derived.Test.YtelfnlocgknpjaaAppG
import Derived.Test.YtelfnlocgknpjaaPicked
import Derived.Test.YtelfnlocgknpjaaOct2
import Derived.Test.YtelfnlocgknpjaaIns
namespace Go.Proofs.Ytelfnlocgknpjaa
open Go.RowKit
set_option linter.unusedVariables false
set_option linter.unusedSimpArgs false

def tblN : List Byt := [[97], [98, 98], [99, 46, 99], [115, 105, 120, 116, 101, 101, 110, 45, 108, 101, 116, 116, 101, 114, 115, 33]]
def nmZ (z : Int) : Byt := tblN.getD (z % 4).toNat []
def nmB (zs : List Int) (k : Nat) : List Byt := (zs.take k).map nmZ
theorem ls_top' {α : Type} {F : Shape α} {w : World} {D : Option Addr} {l : List α} (h : Ls F w D l) : l = [] ∨ Clear (fun k => w.heap.size ≤ k) D := by
  rcases l with _ | ⟨x, r⟩
  · exact .inl rfl
  · obtain ⟨b, o, rfl, hlt, -⟩ := h.at 0 x rfl
    right
    intro a ha e
    injection ha with ha
    subst ha
    have e : w.heap.size ≤ b := e
    omega
theorem ls_two (w : World) (c1 : Array Value) (t1 : TypeId) (x : Byt) (t : TypeId) : Ls stS ((w.alloc (.cells c1 t1)).alloc (.cells #[.string (tx x)] t)) (some ⟨w.heap.size + 1, 0, none⟩) [x] := by
  have h := ls_new (F := stS) (w.alloc (.cells c1 t1)) t [x] #[.string (tx x)] rfl (w.heap.size + 1) (by rw [World.size_alloc])
  exact h
theorem only_of_below {B : Nat} {w w' : World} (h : Below B w w') : Only (fun k => B ≤ k) w w' := ⟨h.os, h.tape, h.output, h.size, fun k hk hn => h.block k (by have hn : ¬ B ≤ k := hn; omega)⟩
theorem ls_lt {α : Type} {F : Shape α} {e : TypeId} {w : World} {base : Nat} {A : Option Addr} {n c : Nat} {l : List α} (h : OwnL F e w base A n c l) : ∀ q, A = some q → q.block < w.heap.size := fun q hq => (h.lt q.block (by rw [hq]; rfl)).2
theorem nmZ_name (z : Int) : nameB (nmZ z) = true := by
  unfold nmZ
  have h0 := Int.emod_nonneg z (show (4 : Int) ≠ 0 by decide)
  have h1 := Int.emod_lt_of_pos z (show (0 : Int) < 4 by decide)
  generalize z % 4 = v at h0 h1
  have : v.toNat = 0 ∨ v.toNat = 1 ∨ v.toNat = 2 ∨ v.toNat = 3 := by omega
  rcases this with e | e | e | e <;> rw [e] <;> decide
theorem nmB_all (zs : List Int) (k : Nat) : (nmB zs k).all nameB = true := by
  unfold nmB
  rw [List.all_eq_true]
  intro x hx
  obtain ⟨z, -, rfl⟩ := List.mem_map.1 hx
  exact nmZ_name z
theorem nmB_succ {zs : List Int} {k : Nat} {z : Int} (h : zs[k]? = some z) : nmB zs (k + 1) = nmB zs k ++ [nmZ z] := by
  unfold nmB
  rw [List.take_add_one, h, List.map_append]; rfl

set_option maxRecDepth 100000 in
set_option maxHeartbeats 16000000 in
theorem walkAnswerBack (mark code a : Int) (D : Option Addr) (dn dc : Nat) (ds : List Int) (M : Option Addr) (mn mc : Nat) (ms : List Int) (cut : Int) (w : World)
    (hm0 : -9223372036854775808 ≤ mark) (hm1 : mark ≤ 9223372036854775807) (hk0 : -9223372036854775808 ≤ code) (hk1 : code ≤ 9223372036854775807) (ha0 : -9223372036854775808 ≤ a) (ha1 : a ≤ 9223372036854775807)
    (hd : Ls byS w D ds) (hdn : ds.length = dn) (hdc : dn ≤ dc) (hdr : dc ≤ 140737488351232) (hdo : ∀ z ∈ ds, 0 ≤ z ∧ z ≤ 255)
    (hm : Ls inS w M ms) (hmn : ms.length = mn) (hmc : mn ≤ mc) (hmr : mc ≤ 17592186043904) (hmo : ∀ z ∈ ms, i64in z) (hc0 : -9223372036854775808 ≤ cut) (hc1 : cut ≤ 9223372036854775807) :
    Calls Try.prog 9 #[.int .i64 mark, .int .i64 code, .int .i64 a, .slice D dn dc, .slice M mn mc, .int .i64 cut] w fun e w' => e = .returned (.bool true) ∧ Below w.heap.size w w' := by
  obtain ⟨pm, HPM, pm2⟩ := pick_nat mark 4294967296 (by omega)
  obtain ⟨pc, HPC, pc2⟩ := pick_nat code 18 (by omega)
  obtain ⟨ph, HPH, ph2⟩ := pick_nat a 1048576 (by omega)
  obtain ⟨pk, HPK, pk2⟩ := pick_nat a 4 (by omega)
  obtain ⟨ps, HPS, ps2⟩ := pick_nat a 2048 (by omega)
  have HQM := Lib.hid (fun wx => picked_n mark 4294967296 pm wx HPM hm0 hm1 (by omega) (by omega))
  have HQC := Lib.hid (fun wx => picked_n code 18 pc wx HPC hk0 hk1 (by omega) (by omega))
  have HQH := Lib.hid (fun wx => picked_n a 1048576 ph wx HPH ha0 ha1 (by omega) (by omega))
  have HQK := Lib.hid (fun wx => picked_n a 4 pk wx HPK ha0 ha1 (by omega) (by omega))
  have HQS := Lib.hid (fun wx => picked_n a 2048 ps wx HPS ha0 ha1 (by omega) (by omega))
  obtain ⟨m, hmm⟩ : ∃ m : Nat, m = min dn 100 := ⟨_, rfl⟩
  have hm100 : m ≤ 100 := by omega
  have HOC : Hid (Calls Try.prog 25 #[.slice D dn dc, .int .i64 100] w (RetY w m (ds.take m))) := Lib.hid (octets_any D dn dc 100 m ds w hd hdn hdc (by omega) (by omega) hmm)
  have HDL : Hid ((ds.take m).length = m) := Lib.hid (by rw [List.length_take, hdn]; omega)
  have HDO : Hid (Oct (ds.take m)) := Lib.hid (fun z hz => hdo z (List.mem_of_mem_take hz))
  have HM := Lib.hid hm
  have HMN := Lib.hid hmn
  have HMO := Lib.hid hmo
  clear hd hdn hdc hdr hdo hm hmn hmo hmm
  go_enter Try.func9, Try.ntmps9
  go_upto_region 2 with (first
    | (go_at_call 23; (with_reducible refine (HQM.out _).mono ?_); rintro e w1 ⟨rfl, rfl⟩)
    | (go_at_call 23; (with_reducible refine (HQC.out _).mono ?_); rintro e w1 ⟨rfl, rfl⟩)
    | (go_at_call 23; (with_reducible refine (HQH.out _).mono ?_); rintro e w1 ⟨rfl, rfl⟩)
    | (go_at_call 23; (with_reducible refine (HQK.out _).mono ?_); rintro e w1 ⟨rfl, rfl⟩)
    | (go_at_call 23; (with_reducible refine (HQS.out _).mono ?_); rintro e w1 ⟨rfl, rfl⟩)
    | (go_at_call 25; (with_reducible refine HOC.out.mono ?_); rintro e w1 ⟨A1, c1, rfl, ho1, hb1⟩; have HO1 := Lib.hid ho1; have HB1 := Lib.hid hb1; clear ho1 hb1))
  obtain ⟨w2, hw2⟩ : ∃ w2, w2 = w1.alloc (.cells #[.int .i64 pm, .int .i64 pc, .int .i64 ph, .int .i64 pk, .int .i64 ps, .slice A1 m c1, .slice none 0 0] 36) := ⟨_, rfl⟩
  obtain ⟨X, hX⟩ : ∃ X, X = w1.heap.size := ⟨_, rfl⟩
  obtain ⟨base, hbs⟩ : ∃ base, base = w2.heap.size := ⟨_, rfl⟩
  have HB2 : Hid (Below w1.heap.size w1 w2) := Lib.hid (by rw [hw2]; exact ba1 _ _)
  have HX2 : Hid (Bx 36 w2 X #[.int .i64 pm, .int .i64 pc, .int .i64 ph, .int .i64 pk, .int .i64 ps, .slice A1 m c1, .slice none 0 0]) := Lib.hid (by rw [hw2, hX]; exact bx_new _ _ _)
  have hXb : X < base := by rw [hbs]; exact HX2.out.lt
  have HBW : Hid (Below w.heap.size w w2) := Lib.hid (bthen HB1.out HB2.out)
  have HWX : Hid (w.heap.size ≤ X) := Lib.hid (by rw [hX]; exact HB1.out.size)
  have HBS := Lib.hid hbs
  have HD2 : Hid (Ls byS w2 A1 (ds.take m)) := Lib.hid (HO1.out.ls.below HB2.out)
  have HDX : Hid (ds.take m = [] ∨ Clear (fun k => X ≤ k) A1) := Lib.hid (by rw [hX]; exact ls_top' HO1.out.ls)
  have HM2 := Lib.hid (HM.out.below HBW.out)
  have HMX : Hid (ms = [] ∨ Clear (fun k => X ≤ k) M) := Lib.hid (by
    rcases ls_top' HM.out with h | h
    · exact .inl h
    · exact .inr (h.mono fun k hk => by have := HWX.out; have hk : X ≤ k := hk; show w.heap.size ≤ k; omega))
  rw [← hw2, ← hX]
  clear hw2 hX hbs
  go_wp2_with fail
  go_loopw [14] (fun i wr => ∃ (k : Nat) (N : Option Addr) (c' : Nat), i = .int .i64 (k : Int) ∧ k ≤ mn ∧ k ≤ 40 ∧ Bx 36 wr X #[.int .i64 pm, .int .i64 pc, .int .i64 ph, .int .i64 pk, .int .i64 ps, .slice A1 m c1, .slice N k c'] ∧ OwnL stS 9 wr base N k c' (nmB ms k) ∧ Only (fun j => j = X) w2 wr) (fun i _ => 40 - (intOf i).toNat)
  case atStart => exact ⟨0, none, 0, rfl, Nat.zero_le _, Nat.zero_le _, HX2.out, OwnL.nil _ _, Only.refl _ _⟩
  case round =>
    obtain ⟨k, N, c', rfl, hk, hk4, hx, ho, hon⟩ := hrel
    have HX := Lib.hid hx
    have HO := Lib.hid ho
    have HON := Lib.hid hon
    have lx := hx.lt
    have x6 : wr.cell? ⟨X, 6, none⟩ = some (.slice N k c') := hx.cell 6 _ rfl
    have z6 := hx.soft 6
    have HMr : Hid (Ls inS wr M ms) := Lib.hid (by
      rcases HMX.out with h | h
      · rw [h]; exact Ls.nil _ _
      · exact HM2.out.only hon (h.mono fun j hj => by have hj : j = X := hj; show X ≤ j; omega))
    have hbr : base ≤ wr.heap.size := by rw [HBS.out]; exact hon.size
    clear hx ho hon
    by_cases hlt : k < mn ∧ k < 40
    · obtain ⟨h1, h2⟩ := hlt
      have g1 : (k : Int) < (mn : Int) := by omega
      have g2 : (k : Int) < 40 := by omega
      obtain ⟨z, hz⟩ : ∃ z, ms[k]? = some z := ⟨_, List.getElem?_eq_getElem (by rw [HMN.out]; exact h1)⟩
      obtain ⟨b, o, rfl, hbl, hcc⟩ := HMr.out.at k z hz
      have k0 := hcc 0 (.int .i64 z) rfl
      simp only [inS, Nat.add_zero, Nat.mul_one] at k0
      have hzb := HMO.out z (List.mem_of_getElem? hz)
      obtain ⟨j, HJ, hj⟩ := pick_nat z 4 (by omega)
      have HPJ := Lib.hid (fun wx => picked_n z 4 j wx HJ hzb.1 hzb.2 (by omega) (by omega))
      have HSU : Hid (nmB ms (k + 1) = nmB ms k ++ [tblN.getD j []]) := Lib.hid (by rw [nmB_succ hz]; unfold nmZ; rw [← HJ.out]; rfl)
      have hXne : ¬ X = wr.heap.size := by omega
      obtain ⟨nm, hnm⟩ : ∃ nm, nm = tblN.getD j [] := ⟨_, rfl⟩
      rw [← hnm] at HSU
      have hrow : ∀ w : World, (w.alloc (.cells #[.string ⟨#[97]⟩, .string ⟨#[98, 98]⟩, .string ⟨#[99, 46, 99]⟩, .string ⟨#[115, 105, 120, 116, 101, 101, 110, 45, 108, 101, 116, 116, 101, 114, 115, 33]⟩] 9)).cell? ⟨w.heap.size, j, none⟩ = some (.string (tx nm)) := fun w => by
        rw [hnm]
        have hj4 : j = 0 ∨ j = 1 ∨ j = 2 ∨ j = 3 := by omega
        rcases hj4 with rfl | rfl | rfl | rfl
        · exact (bx_new w _ _).cell 0 _ rfl
        · exact (bx_new w _ _).cell 1 _ rfl
        · exact (bx_new w _ _).cell 2 _ rfl
        · exact (bx_new w _ _).cell 3 _ rfl
      have hj4 : ((j : Nat) : Int) < 4 := hj
      clear hcc hz hzb hnm
      have HOFF : Hid (Off X (.slice N k c')) := Lib.hid (Off.under (fun q hq => (HO.out.lt q hq).1) hXb)
      go_upto_region 5 with fail
      go_region_law (first
          | (go_simp; go_at_call 23; (with_reducible refine (HPJ.out _).mono ?_); rintro e w5 ⟨rfl, rfl⟩)
          | (refine step_appL (F := stS) rfl _ (.tmp 45) (.tmp 54) 34 rfl _ 16 Try.underlying34 stInfo rfl base N k c' _ (by first | rfl | simp [Act.eval, Act.put]) (HO.out.below (ba2 _ _ _).drew) (some ⟨wr.heap.size + 1, 0, none⟩) 1 1 ([nm] : List Byt) (by first | rfl | simp [Act.eval, Act.put]) ((ls_two wr _ _ _ _).below (Below.refl _ _).drew) rfl (k + 1) rfl (by omega) (by omega) (by simp; omega) ?_; intro N5 c5 w5 ho5 hb5 hs5; have HO5 := Lib.hid ho5; have HX5 := Lib.hid ((HX.out.below (ba2 _ _ _).drew).beside hs5 HOFF.out); have HB5 := Lib.hid hb5; have HS5 := Lib.hid hs5; have x6' := HX5.out.cell 6 _ rfl; have z6' := HX5.out.soft 6; have lx5 := HX5.out.lt; clear ho5 hb5 hs5))
      all_goals
        go_wp2_with fail
        exact ⟨⟨k + 1, N5, c5, by go_num, by omega, by omega, HX5.out.set 6 _, by rw [HSU.out]; exact HO5.out.set (HOFF.out.grow HS5.out (by simp; omega)) 6 _, ((HON.out.new (ba2 _ _ _).drew).trans (only_of_below HB5.out) (fun q hq => .inr (by rw [← HBS.out]; exact hq))).setCell (.inl rfl) _⟩, by simp [intOf]; omega⟩
    · obtain ⟨x, hxd⟩ : ∃ x : Rpv, x = ⟨pm, pc, ph, pk, ps, A1, m, c1, ds.take m, N, k, c', nmB ms k⟩ := ⟨_, rfl⟩
      have HXD := Lib.hid hxd
      have HNK : Hid ((nmB ms k).length = k) := Lib.hid HO.out.1
      have hin : x.In wr := by
        rw [hxd]
        refine ⟨⟨?_, HDL.out⟩, HO.out.ls, HNK.out⟩
        rcases HDX.out with h | h
        · show Ls byS wr A1 (ds.take m); rw [h]; exact Ls.nil _ _
        · exact HD2.out.only HON.out (h.mono fun j hj => by have hj : j = X := hj; show X ≤ j; omega)
      have hfine : FineR x.rp := by
        rw [hxd]
        exact ⟨⟨by show (0 : Int) ≤ pm; omega, by show (pm : Int) < 4294967296; omega⟩, ⟨by show (0 : Int) ≤ pc; omega, by show (pc : Int) < 256; omega⟩, ⟨by show (0 : Int) ≤ ph; omega, by show (ph : Int) < 4294967296; omega⟩, ⟨by show (0 : Int) ≤ pk; omega, by show (pk : Int) < 256; omega⟩, ⟨by show (0 : Int) ≤ ps; omega, by show (ps : Int) < 4294967296; omega⟩, by show (ds.take m).length ≤ 100; rw [HDL.out]; exact hm100, by show (nmB ms k).length ≤ 40; rw [HNK.out]; exact hk4, nmB_all ms k⟩
      have HXV : Hid (Bx 36 wr X #[.int .i64 x.mrk, .int .i64 x.code, .int .i64 x.han, .int .i64 x.kd, .int .i64 x.sz, .slice x.D x.m x.d, .slice x.N x.n x.c]) := Lib.hid (by rw [hxd]; exact HX.out)
      have hxn : x.n ≤ 40 := by rw [hxd]; exact hk4
      have hxm : x.m ≤ 100 := by rw [hxd]; exact hm100
      have HZO : Hid (Oct x.zs) := Lib.hid (by rw [hxd]; exact HDO.out)
      clear hxd
      have HBWr : Hid (Below w.heap.size w wr) := Lib.hid (HBW.out.trans (HON.out.below (fun j hj => by have hj : j = X := hj; have := HWX.out; omega) HBW.out.size))
      obtain ⟨L, hL⟩ : ∃ L, L = x.rp.bytes := ⟨_, rfl⟩
      obtain ⟨n, hn⟩ : ∃ n, n = L.length := ⟨_, rfl⟩
      have hlen := bytes_len hfine
      have hn17 : 17 ≤ n := by rw [hn, hL]; exact hlen.1
      have hn10 : n ≤ 837 := by rw [hn, hL]; exact hlen.2
      have HLN0 : Hid (L.length = n) := Lib.hid hn.symm
      have HLO : Hid (Oct L) := Lib.hid (by rw [hL]; exact bytes_oct HZO.out)
      have HA0 : Hid (answeredT L = (0, x.rp)) := Lib.hid (by rw [hL]; exact answered_ans hfine)
      have HAC : Hid (∀ j, j < n → (answeredT (L.take j)).1 = 5) := Lib.hid (fun j hj => by rw [hL]; exact answered_cut hfine j (by rw [← hL, ← hn]; exact hj))
      have HF0 : Hid (x.fault = 0) := Lib.hid (by
        have h := fault_of hfine
        unfold Rp.fault Rpv.rp at h
        unfold Rpv.fault
        rw [hin.1.2] at h
        exact h)
      have HAN : Hid (Calls Try.prog 16 #[.agg #[.int .i64 x.mrk, .int .i64 x.code, .int .i64 x.han, .int .i64 x.kd, .int .i64 x.sz, .slice x.D x.m x.d, .slice x.N x.n x.c]] wr fun e w' => Below wr.heap.size wr w' ∧ ∃ A n c, e = .returned (.tuple #[.slice A n c, .int .i64 0]) ∧ OwnL byS 5 w' wr.heap.size A n c L) := Lib.hid ((answer_any x wr hin (by omega)).mono fun e w' h => by
        obtain ⟨h1, h2⟩ := h
        rw [if_pos HF0.out] at h2
        rw [hL]
        exact ⟨h1, h2⟩)
      have HIN := Lib.hid hin
      clear hin hfine hL hn hlen x6 z6 pm2 pc2 ph2 pk2 ps2
      have hgs : ¬ (k : Int) < (mn : Int) ∨ ((k : Int) < (mn : Int) ∧ ¬ (k : Int) < 40) := by
        by_cases h : k < mn
        · right
          exact ⟨by omega, by omega⟩
        · left
          omega
      obtain ⟨j, HJ, hjn⟩ := pick_nat cut n (by omega)
      have HPJ := Lib.hid (fun wx => picked_n cut n j wx HJ hc0 hc1 (by omega) (by omega))
      have HJL : Hid ((L.take j).length = j) := Lib.hid (by rw [List.length_take, HLN0.out]; omega)
      have HJO : Hid (Oct (L.take j)) := Lib.hid (fun z hz => HLO.out z (List.mem_of_mem_take hz))
      have HJ5 : Hid ((answeredT (L.take j)).1 = 5) := Lib.hid (HAC.out j (by omega))
      have g17 : ¬ ((n : Int) < 17) := by omega
      have g1024 : ¬ ((1024 : Int) < (n : Int)) := by omega
      obtain ⟨lX, b0, b1, b2, b3, b4, b5, b6, -⟩ := HXV.out.cells7
      clear hlt
      rcases hgs with gs | ⟨gs, gs2⟩
      all_goals
        go_upto_region 7 with (go_at_call 16; (with_reducible refine HAN.out.mono ?_); rintro e w3 ⟨hb3, A3, n3, c3, rfl, ho3⟩; obtain rfl : n3 = n := ho3.1.symm.trans HLN0.out; have HB3 := Lib.hid hb3; have HO3 := Lib.hid ho3; clear hb3 ho3)
        have hc3 := HO3.out.caps
        have HX3 := Lib.hid (HXV.out.below HB3.out)
        have HIN3 := Lib.hid (HIN.out.below HB3.out)
        have HBW3 : Hid (Below w.heap.size w w3) := Lib.hid (bthen HBWr.out HB3.out)
        have HLS3 := Lib.hid HO3.out.ls
        clear lX b0 b1 b2 b3 b4 b5 b6
        go_upto_region 8 with (first
          | (at_builtin; refine wpList_appG (F := byS) rfl w3 (.const (.slice none 0 0)) (.tmp 63) 22 rfl _ 1 Try.underlying22 byInfo rfl w3.heap.size none 0 0 [] rfl (OwnL.nil _ _) A3 n3 c3 L rfl HLS3.out HLN0.out n3 (by omega) (by omega) (by omega) (Nat.le_refl _) ?_; intro A4 c4 w4 ho4 hb4 _; rw [List.nil_append] at ho4; have HO4 := Lib.hid ho4; have HB4 := Lib.hid hb4; have hc4 := HO4.out.caps; have HAD : Hid (Calls Try.prog 18 #[.slice A4 n3 c4] w4 fun e w' => Below w4.heap.size w4 w' ∧ ∃ y : Rpv, e = .returned (.tuple #[.agg #[.int .i64 y.mrk, .int .i64 y.code, .int .i64 y.han, .int .i64 y.kd, .int .i64 y.sz, .slice y.D y.m y.d, .slice y.N y.n y.c], .int .i64 0]) ∧ y.In w' ∧ x.rp = y.rp) := Lib.hid ((answered_any A4 n3 c4 L w4 ho4.ls HLN0.out hc4.1 hc4.2 HLO.out (ls_lt ho4)).mono fun e w' h => (by obtain ⟨h1, y, h2, h3, h4⟩ := h; rw [HA0.out] at h2 h4; exact ⟨h1, y, h2, h3, h4.symm⟩)); clear ho4 hb4)
          | (go_at_call 18; (with_reducible refine HAD.out.mono ?_); rintro e w5 ⟨hb5, y, rfl, hin, hg⟩; have HB5 := Lib.hid hb5; have HINY := Lib.hid hin; have HG := Lib.hid hg; clear hb5 hin hg))
        obtain ⟨w6, hw6⟩ : ∃ w6, w6 = w5.alloc (.cells #[.int .i64 y.mrk, .int .i64 y.code, .int .i64 y.han, .int .i64 y.kd, .int .i64 y.sz, .slice y.D y.m y.d, .slice y.N y.n y.c] 36) := ⟨_, rfl⟩
        obtain ⟨Y, hY⟩ : ∃ Y, Y = w5.heap.size := ⟨_, rfl⟩
        have HB6 : Hid (Below w5.heap.size w5 w6) := Lib.hid (by rw [hw6]; exact ba1 _ _)
        have hy6 : Bx 36 w6 Y #[.int .i64 y.mrk, .int .i64 y.code, .int .i64 y.han, .int .i64 y.kd, .int .i64 y.sz, .slice y.D y.m y.d, .slice y.N y.n y.c] := by rw [hw6, hY]; exact bx_new _ _ _
        have HB36 : Hid (Below w3.heap.size w3 w6) := Lib.hid (bthen HB4.out (bthen HB5.out HB6.out))
        obtain ⟨lY, y0, y1, y2, y3, y4, y5, y6, -⟩ := hy6.cells7
        have hx6 := HX3.out.below HB36.out
        obtain ⟨lX, b0, b1, b2, b3, b4, b5, b6, -⟩ := hx6.cells7
        have HSQ : Hid (Calls Try.prog 26 #[.agg #[.int .i64 x.mrk, .int .i64 x.code, .int .i64 x.han, .int .i64 x.kd, .int .i64 x.sz, .slice x.D x.m x.d, .slice x.N x.n x.c], .agg #[.int .i64 y.mrk, .int .i64 y.code, .int .i64 y.han, .int .i64 y.kd, .int .i64 y.sz, .slice y.D y.m y.d, .slice y.N y.n y.c]] w6 fun e w' => e = .returned (.bool true) ∧ Below w6.heap.size w6 w') := Lib.hid (rep_x_packthreadkeep x y w6 (HIN3.out.below HB36.out) (HINY.out.below HB6.out) HG.out (by omega) (by omega))
        rw [← hw6, ← hY]
        clear hw6 hY hy6 hx6
        have HBW6 : Hid (Below w.heap.size w w6) := Lib.hid (bthen HBW3.out HB36.out)
        have HLS6 := Lib.hid (HLS3.out.below HB36.out)
        have hjc : (j : Int) ≤ (c3 : Int) := by omega
        go_upto_region 10 with (go_at_call 26; (with_reducible refine HSQ.out.mono ?_); rintro e w7 ⟨rfl, hb7⟩; have HB7 := Lib.hid hb7; clear hb7)
        have HLS7 := Lib.hid (HLS6.out.below HB7.out)
        have HAT : Hid (Calls Try.prog 18 #[.slice A3 j c3] w7 fun e w' => Below w7.heap.size w7 w' ∧ ∃ z : Rpv, e = .returned (.tuple #[.agg #[.int .i64 z.mrk, .int .i64 z.code, .int .i64 z.han, .int .i64 z.kd, .int .i64 z.sz, .slice z.D z.m z.d, .slice z.N z.n z.c], .int .i64 5])) := Lib.hid ((answered_any A3 j c3 (L.take j) w7 (HLS7.out.take j) HJL.out (by omega) (by omega) HJO.out (fun q hq => Nat.lt_of_lt_of_le (ls_lt HO3.out q hq) (Nat.le_trans HB36.out.size HB7.out.size))).mono fun e w' h => (by obtain ⟨h1, z, h2, -⟩ := h; rw [HJ5.out] at h2; exact ⟨h1, z, h2⟩))
        go_wp2_with (first
          | (go_at_call 23; (with_reducible refine (HPJ.out _).mono ?_); rintro e wq ⟨rfl, rfl⟩)
          | (go_at_call 18; (with_reducible refine HAT.out.mono ?_); rintro e w8 ⟨hb8, z, rfl⟩; have HB8 := Lib.hid hb8; clear hb8))
        go_ret
        exact ⟨rfl, bthen HBW6.out (bthen HB7.out (bthen HB8.out (ba1 _ _)))⟩

end Go.Proofs.Ytelfnlocgknpjaa
