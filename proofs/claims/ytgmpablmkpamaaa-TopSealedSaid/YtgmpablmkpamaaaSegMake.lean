/-
  Contract of packthreadkeep.Seg: a segment that may be.
-/
import Derived.Test.YtgmpablmkpamaaaSegDecode
import Derived.Test.YtgmpablmkpamaaaOctets
import Derived.Test.YtgmpablmkpamaaaPicked
import Derived.Laws.NewBlocks
namespace Go.Proofs.Ytgmpablmkpamaaa
open Go.RowKit Go.Shelf
set_option linter.unusedVariables false
set_option linter.unusedSimpArgs false

def RetSeg (flags : Int) (W : World) (e : Ending) (w' : World) : Prop :=
  ∃ seq ack win f0 f1 f2 f3 l ds A n c D m d, e = .returned (.agg #[.int .i64 seq, .int .i64 ack, .int .i64 win, .bool f0, .bool f1, .bool f2, .bool f3, .slice A n c, .slice D m d]) ∧
    SegOwn w' W.heap.size ⟨seq, ack, win, f0, f1, f2, f3, l, ds⟩ A n c D m d ∧ fault ⟨seq, ack, win, f0, f1, f2, f3, l, ds⟩ = 0 ∧ (flags = 8 → f3 = true) ∧ Below W.heap.size W w'

theorem fault_made (seq ack win : Int) (f0 f1 f2 f3 : Bool) (l : List Rg) (ds : List Int) (h1 : 0 ≤ seq ∧ seq ≤ 65535) (h2 : 0 ≤ ack ∧ ack ≤ 65535) (h3 : 0 ≤ win ∧ win ≤ 65535) (h4 : l.length ≤ 3) (h5 : ds.length ≤ 64) (h6 : l.all okR = true) (h7 : f3 = false → ack = 0 ∧ win = 0 ∧ l = []) :
    fault ⟨seq, ack, win, f0, f1, f2, f3, l, ds⟩ = 0 := by
  unfold fault
  have e1 : ¬ (sm seq && sm ack && sm win) = false := by simp [sm_t.2 h1, sm_t.2 h2, sm_t.2 h3]
  rw [if_neg e1, if_neg (by show ¬ (3 < l.length ∨ 64 < ds.length); omega), if_neg (by simp [h6]), if_neg]
  rintro ⟨a, b⟩
  obtain ⟨b1, b2, b3⟩ := h7 a
  rcases b with b | b | b
  · exact b b1
  · exact b b2
  · exact b b3

theorem ownsRow_same {w w' : World} {base : Nat} {e : TypeId} {size : Nat} {v : Value} {n : Nat} {xs : List Value} (h : w.ownsRow base e size v n xs) (hb : ∀ k, v.ownBlock = some k → w'.heap[k]? = w.heap[k]?) : w'.ownsRow base e size v n xs :=
  ⟨h.1, by
    rcases h.2 with hv | ⟨g, cap, cur, hv, hg, hh, r⟩
    · exact .inl hv
    · exact .inr ⟨g, cap, cur, hv, hg, (hb g (by rw [hv]; rfl)).trans hh, r⟩⟩

theorem box9_own7 {w : World} {S : Nat} {v0 v1 v2 v3 v4 v5 v6 v7 v8 : Value} (h : Box9 w S v0 v1 v2 v3 v4 v5 v6 v7 v8) (u : Value) : Box9 (w.setCell ⟨S, 7, none⟩ u) S v0 v1 v2 v3 v4 v5 v6 u v8 := box9_s7 h u

def Making (V : World) (S n : Nat) (ra rb rc : Int) (g0 g1 g2 : Bool) (D2 : Option Addr) (m c2 : Nat) (i : Value) (wr : World) : Prop :=
  ∃ (k j : Nat) (l : List Rg) (Ao : Option Addr) (co : Nat), k ≤ 3 ∧ j = 2 * k ∧ i = .int .i64 (j : Int) ∧ l.length = k ∧ l.all okR = true ∧
    Box9 wr S (.int .i64 ra) (.int .i64 rb) (.int .i64 rc) (.bool g0) (.bool g1) (.bool g2) (.bool true) (.slice Ao k co) (.slice D2 m c2) ∧ OwnR wr V.heap.size Ao k co l ∧ Below S V wr

set_option maxRecDepth 100000 in
set_option maxHeartbeats 16000000 in
theorem seg_any (a b c flags : Int) (A : Option Addr) (n cc : Nat) (zs : List Int) (Dd : Option Addr) (nd cd : Nat) (ds : List Int) (w : World)
    (a1 : -9223372036854775808 ≤ a) (a2 : a ≤ 9223372036854775807) (b1 : -9223372036854775808 ≤ b) (b2 : b ≤ 9223372036854775807) (c1 : -9223372036854775808 ≤ c) (c2' : c ≤ 9223372036854775807) (f1' : -9223372036854775808 ≤ flags) (f2' : flags ≤ 9223372036854775807)
    (hz : Is w A zs) (hn : zs.length = n) (hn47 : n ≤ 17592186043904) (hd : Bs w Dd ds) (hnd : ds.length = nd) (hcd : nd ≤ cd) (hcd47 : cd ≤ 140737488355328) :
    Calls Try.prog 15 #[.int .i64 a, .int .i64 b, .int .i64 c, .int .i64 flags, .slice A n cc, .slice Dd nd cd] w (RetSeg flags w) := by
  have HZ := Lib.hid hz; have HN := Lib.hid hn; have HD := Lib.hid hd; have HND := Lib.hid hnd
  obtain ⟨fr, hfr⟩ : ∃ r, Hid (r = flags % 16) := ⟨_, Lib.hid rfl⟩
  obtain ⟨ra, hra⟩ : ∃ r, Hid (r = a % 65536) := ⟨_, Lib.hid rfl⟩
  obtain ⟨rb, hrb⟩ : ∃ r, Hid (r = b % 65536) := ⟨_, Lib.hid rfl⟩
  obtain ⟨rc, hrc⟩ : ∃ r, Hid (r = c % 65536) := ⟨_, Lib.hid rfl⟩
  have fr0 : 0 ≤ fr := by rw [hfr.out]; omega
  have fr1 : fr < 16 := by rw [hfr.out]; omega
  have ra0 : 0 ≤ ra := by rw [hra.out]; omega
  have ra1 : ra ≤ 65535 := by rw [hra.out]; omega
  have rb0 : 0 ≤ rb := by rw [hrb.out]; omega
  have rb1 : rb ≤ 65535 := by rw [hrb.out]; omega
  have rc0 : 0 ≤ rc := by rw [hrc.out]; omega
  have rc1 : rc ≤ 65535 := by rw [hrc.out]; omega
  obtain ⟨g0, z0⟩ : ∃ g, decide (0 < bits .and .i64 fr 1) = g := ⟨_, rfl⟩
  obtain ⟨g1, z1⟩ : ∃ g, decide (0 < bits .and .i64 fr 2) = g := ⟨_, rfl⟩
  obtain ⟨g2, z2⟩ : ∃ g, decide (0 < bits .and .i64 fr 4) = g := ⟨_, rfl⟩
  obtain ⟨g3, z3⟩ : ∃ g, decide (0 < bits .and .i64 fr 8) = g := ⟨_, rfl⟩
  have hg3 : Hid (flags = 8 → g3 = true) := Lib.hid (by
    intro h
    have : fr = 8 := by rw [hfr.out, h]; decide
    rw [← z3, this]; decide)
  obtain ⟨m, hm⟩ : ∃ m, m = min nd 64 := ⟨_, rfl⟩
  have m1 : m ≤ nd := by omega
  have m2 : m ≤ 64 := by omega
  have m3 : nd ≤ 64 → m = nd := by omega
  have m4 : 64 ≤ nd → m = 64 := by omega
  have HOC : Hid (∀ w' : World, Below w.heap.size w w' → Calls Try.prog 34 #[.slice Dd nd cd, .int .i64 64] w' (RetB w' m (ds.take m))) := Lib.hid (fun w' h => by
    have := octets_any Dd nd cd 64 m ds w' (hd.below h) hnd hcd hcd47 (by omega) m1 m2 m3 m4
    exact this)
  clear hz hn hd hnd hm m3 m4
  go_enter Try.func15, Try.ntmps15
  go_upto_region 3 with (first
    | (go_at_call 17; (with_reducible refine (picked_v flags 16 fr _ hfr f1' f2' (by decide) (by decide)).mono ?_); rintro e w' ⟨rfl, rfl⟩)
    | (go_at_call 17; (with_reducible refine (picked_v a 65536 ra _ hra a1 a2 (by decide) (by decide)).mono ?_); rintro e w' ⟨rfl, rfl⟩)
    | (go_at_call 34; (refine (HOC.out _ (ba1 _ _)).mono ?_); rintro e w2 ⟨D2, c2, rfl, ho2, hb2⟩; have HO2 := Lib.hid ho2; have HB2 : Hid (Below w.heap.size w w2) := Lib.hid (bthen (ba1 _ _) hb2); have HR2 : Hid (Box9 w2 w.heap.size (.int .i64 0) (.int .i64 0) (.int .i64 0) (.bool false) (.bool false) (.bool false) (.bool false) (.slice none 0 0) (.slice none 0 0)) := Lib.hid (box9_below (World.alloc_heap_new w _) hb2); clear ho2 hb2))
  obtain ⟨V, hV⟩ : ∃ V, V = w2.alloc (.cells #[.int .i64 ra, .int .i64 0, .int .i64 0, .bool g0, .bool g1, .bool g2, .bool g3, .slice none 0 0, .slice D2 m c2] 25) := ⟨_, rfl⟩
  obtain ⟨S, hS⟩ : ∃ S, S = w2.heap.size := ⟨_, rfl⟩
  have hVS : Box9 V S (.int .i64 ra) (.int .i64 0) (.int .i64 0) (.bool g0) (.bool g1) (.bool g2) (.bool g3) (.slice none 0 0) (.slice D2 m c2) := by rw [hV, hS]; exact World.alloc_heap_new w2 _
  have hVR : Box9 V w.heap.size (.int .i64 0) (.int .i64 0) (.int .i64 0) (.bool false) (.bool false) (.bool false) (.bool false) (.slice none 0 0) (.slice none 0 0) := by rw [hV]; exact box9_below HR2.out (ba1 _ _)
  have HBV : Hid (Below w.heap.size w V) := Lib.hid (by rw [hV]; exact HB2.out.alloc HB2.out.size _)
  have HDV : Hid (OwnB V (w.heap.size + 1) D2 m c2 (ds.take m)) := Lib.hid (by rw [hV]; have := HO2.out.below (ba1 w2 (.cells #[.int .i64 ra, .int .i64 0, .int .i64 0, .bool g0, .bool g1, .bool g2, .bool g3, .slice none 0 0, .slice D2 m c2] 25)); simpa using this)
  have HDB : Hid (∀ k, (Value.slice D2 m c2).ownBlock = some k → k < S) := Lib.hid (by rw [hS]; intro k hk; exact (HO2.out.lt k hk).2)
  have hRS : w.heap.size < S := by rw [hS]; exact lt_of_block HR2.out
  have hSV : V.heap.size = S + 1 := by rw [hV, hS]; simp
  have hne : S ≠ w.heap.size := by omega
  have hne' : w.heap.size ≠ S := by omega
  have HDN : Hid ((ds.take m).length ≤ 64) := Lib.hid (by rw [List.length_take]; omega)
  rw [← hV, ← hS]
  have HVS := Lib.hid hVS; have HVR := Lib.hid hVR; have HSV := Lib.hid hSV
  clear hV hS hVS hVR hSV
  cases g3
  · obtain ⟨lS, k0, k1, k2, k3, k4, k5, k6, k7, k8, ks⟩ := HVS.out.cells
    obtain ⟨lR, c0, c1', c2_, c3, c4, c5, c6, c7, c8, fr_⟩ := HVR.out.cells
    have y0 := fr_ 0; have y1 := fr_ 1; have y2 := fr_ 2; have y3 := fr_ 3; have y4 := fr_ 4; have y5 := fr_ 5; have y6 := fr_ 6; have y7 := fr_ 7; have y8 := fr_ 8
    clear fr_ ks
    go_wp2
    obtain ⟨wf, hwf⟩ : ∃ wf, wf = (((((((((V.setCell ⟨w.heap.size, 0, none⟩ (.int .i64 ra)).setCell ⟨w.heap.size, 1, none⟩ (.int .i64 0)).setCell ⟨w.heap.size, 2, none⟩ (.int .i64 0)).setCell ⟨w.heap.size, 3, none⟩ (.bool g0)).setCell ⟨w.heap.size, 4, none⟩ (.bool g1)).setCell ⟨w.heap.size, 5, none⟩ (.bool g2)).setCell ⟨w.heap.size, 6, none⟩ (.bool false)).setCell ⟨w.heap.size, 7, none⟩ (.slice none 0 0)).setCell ⟨w.heap.size, 8, none⟩ (.slice D2 m c2)) := ⟨_, rfl⟩
    have hf : Box9 wf w.heap.size (.int .i64 ra) (.int .i64 0) (.int .i64 0) (.bool g0) (.bool g1) (.bool g2) (.bool false) (.slice none 0 0) (.slice D2 m c2) := by rw [hwf]; exact box9_store HVR.out _ _ _ _ _ _ _ _ _
    have hbf : Below w.heap.size w wf := by rw [hwf]; exact below_store HBV.out (Nat.le_refl _) _ _ _ _ _ _ _ _ _
    have hdf : OwnB wf (w.heap.size + 1) D2 m c2 (ds.take m) := by rw [hwf]; exact ⟨HDV.out.1, HDV.out.2.1, ownsRow_store HDV.out.2.2 _ (by omega) _ _ _ _ _ _ _ _ _⟩
    obtain ⟨-, r0, r1, r2, r3, r4, r5, r6, r7, r8, -⟩ := hf.cells
    rw [← hwf]
    refine end_ret (v := .agg #[.int .i64 ra, .int .i64 0, .int .i64 0, .bool g0, .bool g1, .bool g2, .bool false, .slice none 0 0, .slice D2 m c2]) (by simp [results, Try.results15, go_sem, r0, r1, r2, r3, r4, r5, r6, r7, r8]) ?_
    refine ⟨ra, 0, 0, g0, g1, g2, false, [], ds.take m, none, 0, 0, D2, m, c2, rfl, ⟨OwnR.nil _ _, hdf.base (by omega)⟩, ?_, (fun h => by have := hg3.out h; cases this), hbf⟩
    exact fault_made _ _ _ _ _ _ _ _ _ ⟨ra0, ra1⟩ (by omega) (by omega) (by simp) HDN.out rfl (fun _ => ⟨rfl, rfl, rfl⟩)
  · obtain ⟨lS, k0, k1, k2, k3, k4, k5, k6, k7, k8, ks⟩ := HVS.out.cells
    have s1 := ks 1; have s2 := ks 2
    clear ks
    go_upto_region 6 with (first
      | (go_at_call 17; (with_reducible refine (picked_v b 65536 rb _ hrb b1 b2 (by decide) (by decide)).mono ?_); rintro e w' ⟨rfl, rfl⟩)
      | (go_at_call 17; (with_reducible refine (picked_v c 65536 rc _ hrc c1 c2' (by decide) (by decide)).mono ?_); rintro e w' ⟨rfl, rfl⟩))
    obtain ⟨V3, hV3⟩ : ∃ V3, V3 = (V.setCell ⟨S, 1, none⟩ (.int .i64 rb)).setCell ⟨S, 2, none⟩ (.int .i64 rc) := ⟨_, rfl⟩
    have hV3S : Box9 V3 S (.int .i64 ra) (.int .i64 rb) (.int .i64 rc) (.bool g0) (.bool g1) (.bool g2) (.bool true) (.slice none 0 0) (.slice D2 m c2) := by rw [hV3]; exact box9_s2 (box9_s1 HVS.out _) _
    have HV3B : Hid (Below S V V3) := Lib.hid (by rw [hV3]; have hSS : S ≤ S := Nat.le_refl S; exact ((Below.refl S V).setCell hSS _).setCell hSS _)
    have hV3z : V3.heap.size = S + 1 := by rw [hV3]; simpa using HSV.out
    rw [← hV3]
    have HV3S := Lib.hid hV3S
    clear hV3 hV3S k0 k1 k2 k3 k4 k5 k6 k7 k8 s1 s2
    go_wp2
    go_loopw [15] (fun i wr => Making V S n ra rb rc g0 g1 g2 D2 m c2 i wr) (fun i _ => 6 - (intOf i).toNat)
    case atStart => exact ⟨0, 0, [], none, 0, by omega, rfl, rfl, rfl, rfl, HV3S.out, OwnR.nil _ _, HV3B.out⟩
    case round =>
      obtain ⟨k, j, l, Ao, co, hk3, hj, rfl, hlk, hall, hbx, hor, hbel⟩ := hrel
      have hWs := hbel.size
      obtain ⟨lS, k0, k1, k2, k3, k4, k5, k6, k7, k8, ks⟩ := hbx.cells
      have s7 := ks 7
      have HBX := Lib.hid hbx; have HOR := Lib.hid hor; have HBEL := Lib.hid hbel; have HJ := Lib.hid hj; have HLK := Lib.hid hlk; have HALL := Lib.hid hall; have HSVV := HSV.out
      have HBW : Hid (Below w.heap.size w wr) := Lib.hid (HBV.out.trans (hbel.mono (by omega)))
      have hj6 : j ≤ 6 := by omega
      clear hbx hor hbel hlk hall ks hj
      by_cases hgo : j + 1 < n ∧ k < 3
      · obtain ⟨g1', g2'⟩ := hgo
        have zj : (j : Int) + 1 < (n : Int) := by omega
        have zj6 : (j : Int) < 6 := by have := HJ.out; omega
        have zj0 : (j : Int) < (n : Int) := by omega
        obtain ⟨x, hx⟩ : ∃ x, zs[j]? = some x := ⟨zs[j]'(by rw [HN.out]; omega), List.getElem?_eq_getElem _⟩
        obtain ⟨y, hy⟩ : ∃ y, zs[j + 1]? = some y := ⟨zs[j + 1]'(by rw [HN.out]; omega), List.getElem?_eq_getElem _⟩
        obtain ⟨bb, oo, rfl, hbs, hc1, hx1, hx2⟩ := (HZ.out.below HBW.out).at j x hx
        obtain ⟨bb', oo', he, hbs', hc2, hy1, hy2⟩ := (HZ.out.below HBW.out).at (j + 1) y hy
        injection he with he; injection he with e1 e2; subst e1; subst e2
        obtain ⟨rx, hrx⟩ : ∃ r, Hid (r = x % 65536) := ⟨_, Lib.hid rfl⟩
        obtain ⟨ry, hry⟩ : ∃ r, Hid (r = y % 65536) := ⟨_, Lib.hid rfl⟩
        have hok : Hid ((l ++ [(rx, ry)]).all okR = true) := Lib.hid (by
          rw [List.all_append, HALL.out]
          have h1 : 0 ≤ rx ∧ rx ≤ 65535 := by rw [hrx.out]; omega
          have h2 : 0 ≤ ry ∧ ry ≤ 65535 := by rw [hry.out]; omega
          simp [okR, sm_t.2 h1, sm_t.2 h2])
        have zw : IntKind.i64.wrap ((j : Int) + 1) = (j : Int) + 1 := wraps_i64 _ (by omega) (by omega)
        have zt : ((j : Int) + 1).toNat = j + 1 := by omega
        have zp : (0 : Int) ≤ (j : Int) + 1 := by omega
        clear hx hy
        go_upto_region 9 with fail
        go_region_law (first
          | (go_simp; go_at_call 17; (with_reducible refine (picked_v x 65536 rx _ hrx hx1 hx2 (by decide) (by decide)).mono ?_); rintro e w' ⟨rfl, rfl⟩)
          | (go_simp; go_at_call 17; (with_reducible refine (picked_v y 65536 ry _ hry hy1 hy2 (by decide) (by decide)).mono ?_); rintro e w' ⟨rfl, rfl⟩)
          | (refine step_appR rfl (wr.drew.alloc (.cells #[.int .i64 rx, .int .i64 ry] 50)) (.tmp 55) (.tmp 68) rfl V.heap.size Ao k co l (by simp [Act.eval, Act.put]) (HOR.out.below ((Below.refl wr.heap.size wr).drew.alloc (Nat.le_refl _) _)) (some ⟨wr.heap.size, 0, none⟩) 1 1 [(rx, ry)] (by simp [Act.eval, Act.put]) (rs_new wr.drew _ _ _ rfl _ rfl) rfl (k + 1) rfl (by omega) (by simp; omega) ?_; intro A4 c4 w4 ho4 hb4 hs4; have O4 := Lib.hid ho4; have HB4 : Hid (Below V.heap.size wr w4) := Lib.hid ((((Below.refl V.heap.size wr).drew.alloc hWs _)).trans hb4); have BX4 := (HB4.out.block S (by omega)).trans HBX.out; have h47 := (Box9.cells BX4).2.2.2.2.2.2.2.2.1; have f47 := (Box9.cells BX4).2.2.2.2.2.2.2.2.2.2 7; have HX4 : Hid (Box9 w4 S (.int .i64 ra) (.int .i64 rb) (.int .i64 rc) (.bool g0) (.bool g1) (.bool g2) (.bool true) (.slice Ao k co) (.slice D2 m c2)) := Lib.hid BX4; clear ho4 hb4 hs4 BX4)
          | (refine step_appR rfl ((wr.alloc (.cells #[.int .i64 rx, .int .i64 ry] 50)).drew) (.tmp 55) (.tmp 68) rfl V.heap.size Ao k co l (by simp [Act.eval, Act.put]) (HOR.out.below ((ba1 wr _).drew)) (some ⟨wr.heap.size, 0, none⟩) 1 1 [(rx, ry)] (by simp [Act.eval, Act.put]) (rs_new wr _ _ _ rfl _ rfl) rfl (k + 1) rfl (by omega) (by simp; omega) ?_; intro A4 c4 w4 ho4 hb4 hs4; have O4 := Lib.hid ho4; have HB4 : Hid (Below V.heap.size wr w4) := Lib.hid ((((Below.refl V.heap.size wr).alloc hWs _).drew).trans hb4); have BX4 := (HB4.out.block S (by omega)).trans HBX.out; have h47 := (Box9.cells BX4).2.2.2.2.2.2.2.2.1; have f47 := (Box9.cells BX4).2.2.2.2.2.2.2.2.2.2 7; have HX4 : Hid (Box9 w4 S (.int .i64 ra) (.int .i64 rb) (.int .i64 rc) (.bool g0) (.bool g1) (.bool g2) (.bool true) (.slice Ao k co) (.slice D2 m c2)) := Lib.hid BX4; clear ho4 hb4 hs4 BX4))
        all_goals
          clear zw zt zp
          go_wp2
          go_roundw
          case rel => exact ⟨k + 1, j + 2, l ++ [(rx, ry)], A4, c4, by omega, by have := HJ.out; omega, by go_num, by rw [List.length_append, HLK.out]; rfl, hok.out, box9_s7 HX4.out _, ⟨O4.out.1, ownsRow_setCell_below O4.out.2 (a := ⟨S, 7, none⟩) (by simp only; omega) _⟩, (HBEL.out.trans (HB4.out.mono (by omega))).setCell (Nat.le_refl _) _⟩
          case measure => simp [intOf]; omega
      · have zz' : ¬ ((j : Int) + 1 < (n : Int)) ∨ ((j : Int) + 1 < (n : Int) ∧ ¬ ((j : Int) < 6)) := by have := HJ.out; omega
        have hR0 := (HBEL.out.block w.heap.size (by omega)).trans HVR.out
        obtain ⟨lR, c0, c1', c2_, c3, c4, c5, c6, c7, c8, fr_⟩ := Box9.cells hR0
        have y0 := fr_ 0; have y1 := fr_ 1; have y2 := fr_ 2; have y3 := fr_ 3; have y4 := fr_ 4; have y5 := fr_ 5; have y6 := fr_ 6; have y7 := fr_ 7; have y8 := fr_ 8
        have HRR : Hid (Box9 wr w.heap.size (.int .i64 0) (.int .i64 0) (.int .i64 0) (.bool false) (.bool false) (.bool false) (.bool false) (.slice none 0 0) (.slice none 0 0)) := Lib.hid hR0
        have HDW : Hid (OwnB wr (w.heap.size + 1) D2 m c2 (ds.take m)) := Lib.hid ⟨HDV.out.1, HDV.out.2.1, ownsRow_same HDV.out.2.2 (fun k hk => HBEL.out.block k (HDB.out k hk))⟩
        clear fr_ hR0 hgo
        rcases zz' with zz' | ⟨zz1, zz2⟩
        all_goals
          go_wp2
          obtain ⟨wf, hwf⟩ : ∃ wf, wf = (((((((((wr.setCell ⟨w.heap.size, 0, none⟩ (.int .i64 ra)).setCell ⟨w.heap.size, 1, none⟩ (.int .i64 rb)).setCell ⟨w.heap.size, 2, none⟩ (.int .i64 rc)).setCell ⟨w.heap.size, 3, none⟩ (.bool g0)).setCell ⟨w.heap.size, 4, none⟩ (.bool g1)).setCell ⟨w.heap.size, 5, none⟩ (.bool g2)).setCell ⟨w.heap.size, 6, none⟩ (.bool true)).setCell ⟨w.heap.size, 7, none⟩ (.slice Ao k co)).setCell ⟨w.heap.size, 8, none⟩ (.slice D2 m c2)) := ⟨_, rfl⟩
          have hf : Box9 wf w.heap.size (.int .i64 ra) (.int .i64 rb) (.int .i64 rc) (.bool g0) (.bool g1) (.bool g2) (.bool true) (.slice Ao k co) (.slice D2 m c2) := by rw [hwf]; exact box9_store HRR.out _ _ _ _ _ _ _ _ _
          have hbf : Below w.heap.size w wf := by rw [hwf]; exact below_store HBW.out (Nat.le_refl _) _ _ _ _ _ _ _ _ _
          have hdf : OwnB wf (w.heap.size + 1) D2 m c2 (ds.take m) := by rw [hwf]; exact ⟨HDW.out.1, HDW.out.2.1, ownsRow_store HDW.out.2.2 _ (by omega) _ _ _ _ _ _ _ _ _⟩
          have hof : OwnR wf V.heap.size Ao k co l := by rw [hwf]; exact ⟨HOR.out.1, ownsRow_store HOR.out.2 _ (by omega) _ _ _ _ _ _ _ _ _⟩
          obtain ⟨-, r0, r1, r2, r3, r4, r5, r6, r7, r8, -⟩ := hf.cells
          rw [← hwf]
          refine end_ret (v := .agg #[.int .i64 ra, .int .i64 rb, .int .i64 rc, .bool g0, .bool g1, .bool g2, .bool true, .slice Ao k co, .slice D2 m c2]) (by simp [results, Try.results15, go_sem, r0, r1, r2, r3, r4, r5, r6, r7, r8]) ?_
          refine ⟨ra, rb, rc, g0, g1, g2, true, l, ds.take m, Ao, k, co, D2, m, c2, rfl, ⟨hof.base (by omega), hdf.base (by omega)⟩, ?_, fun _ => rfl, hbf⟩
          exact fault_made _ _ _ _ _ _ _ _ _ ⟨ra0, ra1⟩ ⟨rb0, rb1⟩ ⟨rc0, rc1⟩ (by rw [HLK.out]; exact hk3) HDN.out HALL.out (fun h => by cases h)

end Go.Proofs.Ytgmpablmkpamaaa
