/-
  The document's globOf: a table, row by row.
-/
import Derived.Test.YtmcgjkhbljdddaaGlobRefM
import Derived.Test.YtmcgjkhbljdddaaWhole
namespace Go.Proofs.Ytmcgjkhbljdddaa
open Go.RowKit
set_option linter.unusedVariables false
set_option linter.unusedSimpArgs false

def boS : Shape Bool := { cells := fun b => [.bool b], size := 1, len := fun _ => rfl, pos := by decide, one := by intro x u hu; simp at hu; subst hu; rfl }
theorem boInfo : (Try.prog.info? 4).map (fun i => (i.zero, i.size, i.bytes)) = some (some (.bool false), boS.size, 1) := by kernel_rfl
/-- which beginnings of a name parts are of -/
def rowG (P : List Gp) (s : Byt) : List Bool := (List.range (s.length + 1)).map fun k => mt P (s.take k)
/-- the same, as far as it is told -/
def partG (P : List Gp) (s : Byt) (k : Nat) : List Bool := (List.range (s.length + 1)).map fun j => decide (j < k) && mt P (s.take j)
theorem row_len (P : List Gp) (s : Byt) : (rowG P s).length = s.length + 1 := by simp [rowG]
theorem part_len (P : List Gp) (s : Byt) (k : Nat) : (partG P s k).length = s.length + 1 := by simp [partG]
theorem row_get (P : List Gp) (s : Byt) (k : Nat) (h : k ≤ s.length) : (rowG P s)[k]? = some (mt P (s.take k)) := by
  unfold rowG
  rw [List.getElem?_map, List.getElem?_range (by omega)]; rfl
theorem part_get (P : List Gp) (s : Byt) (k j : Nat) (h : j ≤ s.length) : (partG P s k)[j]? = some (decide (j < k) && mt P (s.take j)) := by
  unfold partG
  rw [List.getElem?_map, List.getElem?_range (by omega)]; rfl
theorem part_zero (P : List Gp) (s : Byt) : partG P s 0 = List.replicate (s.length + 1) false := by
  apply List.ext_getElem?
  intro j
  by_cases h : j ≤ s.length
  · rw [part_get P s 0 j h]; simp [List.getElem?_replicate]; omega
  · rw [List.getElem?_eq_none (by rw [part_len]; omega), List.getElem?_eq_none (by rw [List.length_replicate]; omega)]
theorem part_end (P : List Gp) (s : Byt) : partG P s (s.length + 1) = rowG P s := by
  apply List.ext_getElem?
  intro j
  by_cases h : j ≤ s.length
  · rw [part_get P s _ j h, row_get P s j h, decide_eq_true (by omega)]; rfl
  · rw [List.getElem?_eq_none (by rw [part_len]; omega), List.getElem?_eq_none (by rw [row_len]; omega)]
theorem part_step (P : List Gp) (s : Byt) (k : Nat) (h : k ≤ s.length) : (partG P s k).set k (mt P (s.take k)) = partG P s (k + 1) := by
  apply List.ext_getElem?
  intro j
  rw [List.getElem?_set]
  by_cases hj : j ≤ s.length
  · rw [part_get P s k j hj, part_get P s (k + 1) j hj, part_len]
    by_cases e : k = j
    · subst e
      rw [if_pos rfl, if_pos (by omega), decide_eq_true (by omega)]; rfl
    · rw [if_neg e]
      have : decide (j < k + 1) = decide (j < k) := decide_eq_decide.2 ⟨fun h => by omega, fun h => by omega⟩
      rw [this]
  · rw [List.getElem?_eq_none (by rw [part_len]; omega), List.getElem?_eq_none (by rw [part_len]; omega), part_len]
    by_cases e : k = j
    · omega
    · rw [if_neg e]
theorem row_zero (s : Byt) : (List.replicate (s.length + 1) false).set 0 true = rowG [] s := by
  rw [← part_zero [] s]
  have := part_step [] s 0 (Nat.zero_le _)
  rw [show mt [] (s.take 0) = true from rfl] at this
  rw [this]
  apply List.ext_getElem?
  intro j
  by_cases hj : j ≤ s.length
  · rw [part_get _ s _ j hj, row_get _ s j hj]
    congr 1
    rcases j with _ | j
    · rfl
    · have : mt [] (s.take (j + 1)) = false := by
        rw [Bool.eq_false_iff]
        intro e
        have := (mt_nil _).1 e
        have hl := congrArg List.length this
        rw [List.length_take] at hl
        simp only [List.length_nil] at hl
        omega
      rw [this]; simp
  · rw [List.getElem?_eq_none (by rw [part_len]; omega), List.getElem?_eq_none (by rw [row_len]; omega)]
theorem snoc_run (P : List Gp) (p : Gp) (h : p.run = true) (s : Byt) (k : Nat) (hk : k ≤ s.length) : mt (P ++ [p]) (s.take k) = (mt P (s.take k) || (decide (0 < k) && mt (P ++ [p]) (s.take (k - 1)))) := by
  rw [Bool.eq_iff_iff, mt_snoc_run P p h s k hk]; simp
theorem snoc_one (P : List Gp) (p : Gp) (h : p.run = false) (s : Byt) (k : Nat) (hk : k ≤ s.length) : mt (P ++ [p]) (s.take k) = (decide (0 < k) && (mt P (s.take (k - 1)) && p.of (s.getD (k - 1) 0))) := by
  rw [Bool.eq_iff_iff, mt_snoc_one P p h s k hk]; simp

theorem cell_set1 {w : World} {b j : Nat} {v : Value} {p : Addr} (h : p.block ≠ b) {u : Value} (hc : w.cell? p = some u) : (w.setCell ⟨b, j, none⟩ v).cell? p = some u :=
  (World.cell?_of_block (w := w) (a := p) (Below.heap_setCell _ _ _ _ h)).trans hc
set_option maxHeartbeats 40000000 in
theorem of_any (A : Option Addr) (m c : Nat) (l : List Iv) (s : Byt) (w : World) (S : Nat → Prop) (hl : Ls giS w A l) (hm : l.length = m) (hii : II w S l) (h40 : m ≤ 40) (hs : s.length ≤ 200) (hr : ∀ x ∈ l, x.n ≤ 1000) :
    Calls Try.prog 27 #[.slice A m c, .string (tx s)] w fun e w' => e = .returned (.bool (mt ((l.map Iv.it).map gpOf) s)) ∧ Below w.heap.size w w' := by
  have HLS := Lib.hid hl
  have HM := Lib.hid hm
  have HII := Lib.hid hii
  have HR := Lib.hid hr
  have hts := tx_size s
  have bg := bn_get s
  obtain ⟨n, hn⟩ : ∃ n, s.length = n := ⟨_, rfl⟩
  rw [hn] at hts hs
  have HN := Lib.hid hn
  have wn : IntKind.i64.wrap ((n : Int) + 1) = (n : Int) + 1 := by rw [IntKind.wrap_i64]; omega
  clear hl hm hii hr hn
  go_enter Try.func27, Try.ntmps27
  go_upto_region 2 with (at_make; refine wpList_makeW (F := boS) rfl _ _ _ 61 rfl _ 1 Try.underlying61 boInfo (fun b => .bool b) (fun _ => rfl) false rfl _ _ _ _ (n + 1) rfl rfl (by simp) (by simp) (by omega) (by omega) ?_; intro w1 hw1 hb1 hs1; have HW1 := Lib.hid hw1; have HB1 := Lib.hid hb1; clear hw1 hb1)
  obtain ⟨g0, hg0⟩ : ∃ g, g = w.heap.size := ⟨_, rfl⟩
  rw [← hg0]
  rw [← hg0] at HW1 hs1
  have HG0 := Lib.hid hg0
  clear hg0
  have q0 := HW1.out.cell (fun b => .bool b) (fun _ => rfl) 0 false (by simp)
  have q1 := HW1.out.soft 0
  have n0 : (0 : Int) < (n : Int) + 1 := by omega
  go_upto_region 3 with fail
  obtain ⟨w2, hw2⟩ : ∃ w2, w2 = w1.setCell ⟨g0, 0, none⟩ (.bool true) := ⟨_, rfl⟩
  have HW2 : Hid (Wh boS 4 w2 g0 (rowG [] s)) := Lib.hid (by
    have := HW1.out.put (fun b => .bool b) (fun _ => rfl) 0 true
    rw [hw2, ← row_zero s, HN.out]; exact this)
  have HB2 : Hid (Below w.heap.size w w2) := Lib.hid (by rw [hw2]; exact HB1.out.setCell (by rw [← HG0.out]; exact Nat.le_refl _) _)
  rw [← hw2]
  clear hw2 q0 q1 HW1 HB1 hs1
  go_wp2
  go_loopw [5, 18] (fun v5 v18 wr => ∃ (i g : Nat), v18 = .int .i64 (i : Int) ∧ i ≤ m ∧ v5 = .slice (some ⟨g, 0, none⟩) (n + 1) (n + 1) ∧ Wh boS 4 wr g (rowG (((l.map Iv.it).map gpOf).take i) s) ∧ Below w.heap.size w wr) (fun _ v18 _ => m - (intOf v18).toNat)
  case atStart => exact ⟨0, g0, rfl, Nat.zero_le _, rfl, HW2.out, HB2.out⟩
  case round =>
    obtain ⟨i, g, rfl, hi, rfl, hw, hbw⟩ := hrel
    have HW := Lib.hid hw
    have HBW := Lib.hid hbw
    clear hw hbw
    by_cases hlt : i < m
    · have hli : (i : Int) < (m : Int) := by omega
      obtain ⟨x, hx⟩ : ∃ x, l[i]? = some x := ⟨_, List.getElem?_eq_getElem (by rw [HM.out]; exact hlt)⟩
      have hxm := List.mem_of_getElem? hx
      obtain ⟨hx1, hx2, hx3⟩ := HII.out x hxm
      have HX1 := Lib.hid hx1
      have HX2 := Lib.hid (hx2.below HBW.out)
      have HX3 := Lib.hid (HR.out x hxm)
      have HTK : Hid (((l.map Iv.it).map gpOf).take (i + 1) = ((l.map Iv.it).map gpOf).take i ++ [gpOf x.it]) := Lib.hid (by
        rw [List.take_add_one, List.getElem?_map, List.getElem?_map, hx]; rfl)
      obtain ⟨bb, oo, rfl, hbl, hc⟩ := (HLS.out.below HBW.out).at i x hx
      have k0 := hc 0 (.int .u8 (x.it.kind.toNat : Int)) rfl
      have k1 := hc 1 (.int .u8 (x.it.one.toNat : Int)) rfl
      have k2 := hc 2 (.slice x.A x.n x.c) rfl
      have k3 := hc 3 (.bool x.it.neg) rfl
      simp only [giS, Nat.add_zero] at k0 k1 k2 k3
      obtain ⟨K, hK⟩ : ∃ K : Int, (x.it.kind.toNat : Int) = K := ⟨_, rfl⟩
      have HK := Lib.hid hK
      simp only [hK] at k0
      clear hc hx hx1 hx2 hx3 hxm hK
      obtain ⟨PP, hPP⟩ : ∃ PP, ((l.map Iv.it).map gpOf).take i = PP := ⟨_, rfl⟩
      rw [hPP] at HW HTK
      have HPP := Lib.hid hPP
      clear hPP
      obtain ⟨wo, rfl⟩ : ∃ wo, wo = wr := ⟨_, rfl⟩
      obtain ⟨X, hX⟩ : ∃ X, X = wo.heap.size := ⟨_, rfl⟩
      go_upto_region 6 with fail
      obtain ⟨w5, hw5⟩ : ∃ w5, w5 = wo.alloc (.cells #[.int .u8 K, .int .u8 (x.it.one.toNat : Int), .slice x.A x.n x.c, .bool x.it.neg] 57) := ⟨_, rfl⟩
      have HX5 : Hid (Bx 57 w5 X #[.int .u8 K, .int .u8 (x.it.one.toNat : Int), .slice x.A x.n x.c, .bool x.it.neg]) := Lib.hid (by rw [hw5, hX]; exact bx_new _ _ _)
      have HB5 : Hid (Below wo.heap.size wo w5) := Lib.hid (by rw [hw5]; exact ba1 _ _)
      rw [← hw5, ← hX]
      have HXE := Lib.hid hX
      clear hw5 hX k0 k1 k2 k3 hbl
      go_upto_region 7 with (at_make; refine wpList_makeW (F := boS) rfl _ _ _ 61 rfl _ 1 Try.underlying61 boInfo (fun b => .bool b) (fun _ => rfl) false rfl _ _ _ _ (n + 1) rfl rfl (by simp) (by simp) (by omega) (by omega) ?_; intro w6 hw6 hb6 hs6; have HW6 := Lib.hid hw6; have HB6 := Lib.hid hb6; clear hw6 hb6)
      obtain ⟨gn, hgn⟩ : ∃ g, g = w5.heap.size := ⟨_, rfl⟩
      rw [← hgn]
      rw [← hgn] at HW6 hs6
      have HGN := Lib.hid hgn
      clear hgn
      have HBO6 : Hid (Below wo.heap.size wo w6) := Lib.hid (bthen HB5.out HB6.out)
      have hg1 : g < wo.heap.size := HW.out.lt
      have hX1 : X < w5.heap.size := HX5.out.lt
      go_wp2
      go_loopw [9] (fun v9 wx => ∃ k : Nat, v9 = .int .i64 (k : Int) ∧ k ≤ n + 1 ∧ Wh boS 4 wx gn (partG (PP ++ [gpOf x.it]) s k) ∧ Bx 57 wx X #[.int .u8 K, .int .u8 (x.it.one.toNat : Int), .slice x.A x.n x.c, .bool x.it.neg] ∧ Wh boS 4 wx g (rowG PP s) ∧ Below wo.heap.size wo wx) (fun v9 _ => n + 1 - (intOf v9).toNat)
      case atStart => exact ⟨0, rfl, Nat.zero_le _, by rw [part_zero, HN.out]; exact HW6.out, HX5.out.below HB6.out, (HW.out.below HB5.out).below HB6.out, HBO6.out⟩
      case round =>
        obtain ⟨k, rfl, hk, hp1, hp2, hp3, hp4⟩ := hrel
        have hne1 : ¬ X = gn := by have := HGN.out; omega
        have hne2 : ¬ g = gn := by have h1 := HGN.out; have h2 := HB5.out.size; omega
        by_cases hkn : k ≤ n
        · have hki : (k : Int) ≤ (n : Int) := by omega
          have hki1 : (k : Int) < (n : Int) + 1 := by omega
          have k0 : (0 : Int) ≤ (k : Int) := by omega
          have w1k : IntKind.i64.wrap ((k : Int) + 1) = (k : Int) + 1 := by rw [IntKind.wrap_i64]; omega
          have x0 := hp2.cell 0 (.int .u8 K) rfl
          have hst := hp1.put (fun b => .bool b) (fun _ => rfl) k (mt (PP ++ [gpOf x.it]) (s.take k))
          rw [part_step _ s k (by rw [HN.out]; exact hkn)] at hst
          have nk := hp1.cell (fun b => .bool b) (fun _ => rfl) k _ (part_get _ s k k (by rw [HN.out]; exact hkn))
          have fk := hp1.soft k
          have rk := hp3.cell (fun b => .bool b) (fun _ => rfl) k _ (row_get PP s k (by rw [HN.out]; exact hkn))
          have HST := Lib.hid hst
          have HP1 := Lib.hid hp1
          have HP2 := Lib.hid hp2
          have HP3 := Lib.hid hp3
          have HP4 := Lib.hid hp4
          clear hst hp1 hp2 hp3 hp4
          have REL : Hid (∀ v, mt (PP ++ [gpOf x.it]) (s.take k) = v → ∀ wz, Below wr.heap.size wr wz →
              Wh boS 4 (wz.setCell ⟨gn, k, none⟩ (.bool v)) gn (partG (PP ++ [gpOf x.it]) s (k + 1)) ∧ Bx 57 (wz.setCell ⟨gn, k, none⟩ (.bool v)) X #[.int .u8 K, .int .u8 (x.it.one.toNat : Int), .slice x.A x.n x.c, .bool x.it.neg] ∧ Wh boS 4 (wz.setCell ⟨gn, k, none⟩ (.bool v)) g (rowG PP s) ∧ Below wo.heap.size wo (wz.setCell ⟨gn, k, none⟩ (.bool v))) := Lib.hid (by
            intro v hv wz hb
            have e := part_step (PP ++ [gpOf x.it]) s k (by rw [HN.out]; exact hkn)
            rw [hv] at e
            rw [← e]
            exact ⟨(HP1.out.below hb).put (fun b => .bool b) (fun _ => rfl) k v, (HP2.out.below hb).other hne1 _, Bx.other (HP3.out.below hb) hne2 _, (HP4.out.trans (hb.mono HP4.out.size)).setCell (by rw [HGN.out]; exact HB5.out.size) _⟩)
          have HNF := Lib.hid (show (decide (k < k) && mt (PP ++ [gpOf x.it]) (s.take k)) = false by simp)
          rw [HNF.out] at nk
          clear HNF HST
          obtain ⟨a, ha⟩ : ∃ a, mt PP (s.take k) = a := ⟨_, rfl⟩
          rw [ha] at rk
          have hK42 : K = 42 ↔ (gpOf x.it).run = true := by
            have := HK.out
            rw [← this]
            unfold gpOf
            rw [decide_eq_true_eq]
            exact (u8_eq x.it.kind 42).symm
          rcases Nat.eq_zero_or_pos k with rfl | hk0
          · have nk : wr.cell? ⟨gn, 0, none⟩ = some (.bool false) := nk
            by_cases hrun : K = 42
            · have hv := snoc_run PP (gpOf x.it) (hK42.1 hrun) s 0 (by rw [HN.out]; exact hkn)
              rw [ha, decide_eq_false (by omega)] at hv
              have HV := Lib.hid hv
              clear ha hK42 hv
              cases a <;>
              · go_wp2
                go_roundw
                case rel => exact ⟨0 + 1, by simp, by omega, REL.out _ (by rw [HV.out]; rfl) _ (Below.refl _ _)⟩
                case measure => first | (simp [intOf]; done) | (simp [intOf]; omega)
            · have hr0 : (gpOf x.it).run = false := by
                rw [Bool.eq_false_iff]; exact fun e => hrun (hK42.2 e)
              have hv := snoc_one PP (gpOf x.it) hr0 s 0 (by rw [HN.out]; exact hkn)
              rw [decide_eq_false (by omega)] at hv
              have HV := Lib.hid hv
              clear ha hK42 hv hr0
              go_upto_region 12 with fail
              go_region
              all_goals
                go_wp2_with fail
                go_roundw
                case rel => exact ⟨0 + 1, by simp, by omega, REL.out _ (by rw [HV.out]; rfl) _ (Below.refl _ _).drew⟩
                case measure => first | (simp [intOf]; done) | (simp [intOf]; omega)
          · obtain ⟨q, rfl⟩ : ∃ q, k = q + 1 := ⟨k - 1, by omega⟩
            have hkl : (0 : Int) < (q : Int) + 1 := by omega
            have hki2 : (q : Int) + 1 ≤ (n : Int) := by omega
            have hki3 : (q : Int) + 1 < (n : Int) + 1 := by omega
            have hq0 : (0 : Int) ≤ (q : Int) := by omega
            have hq1 : (q : Int) < (n : Int) + 1 := by omega
            have hqn : (q : Int) < (n : Int) := by omega
            have hk0' : (0 : Int) ≤ (q : Int) + 1 := by omega
            have hkt : ((q : Int) + 1).toNat = q + 1 := by omega
            have wq : IntKind.i64.wrap (q : Int) = (q : Int) := by rw [IntKind.wrap_i64]; omega
            have wq1 : IntKind.i64.wrap ((q : Int) + 1 - 1) = (q : Int) := by rw [IntKind.wrap_i64]; omega
            have wq2 : IntKind.i64.wrap ((q : Int) + 1 + 1) = (q : Int) + 2 := by rw [IntKind.wrap_i64]; omega
            have wq3 : IntKind.i64.wrap ((q : Int) + 2) = (q : Int) + 2 := by rw [IntKind.wrap_i64]; omega
            have nq := HP1.out.cell (fun b => .bool b) (fun _ => rfl) q _ (part_get _ s (q + 1) q (by rw [HN.out]; omega))
            have rq := HP3.out.cell (fun b => .bool b) (fun _ => rfl) q _ (row_get PP s q (by rw [HN.out]; omega))
            have HQ1 := Lib.hid (show (decide (q < q + 1) && mt (PP ++ [gpOf x.it]) (s.take q)) = mt (PP ++ [gpOf x.it]) (s.take q) by simp)
            rw [HQ1.out] at nq
            clear HQ1 hki hki1 k0 w1k
            by_cases hrun : K = 42
            · have hv := snoc_run PP (gpOf x.it) (hK42.1 hrun) s (q + 1) (by rw [HN.out]; exact hkn)
              rw [ha, decide_eq_true (by omega), Nat.add_sub_cancel] at hv
              obtain ⟨b, hb⟩ : ∃ b, mt (PP ++ [gpOf x.it]) (s.take q) = b := ⟨_, rfl⟩
              rw [hb] at hv nq
              have HV := Lib.hid hv
              clear ha hK42 hv hb
              cases a <;> cases b <;>
              · go_wp2
                go_roundw
                case rel => exact ⟨q + 1 + 1, by simp; try omega, by omega, REL.out _ (by rw [HV.out]; rfl) _ (Below.refl _ _)⟩
                case measure => first | (simp [intOf]; done) | (simp [intOf]; omega)
            · have hr0 : (gpOf x.it).run = false := by
                rw [Bool.eq_false_iff]; exact fun e => hrun (hK42.2 e)
              have hv := snoc_one PP (gpOf x.it) hr0 s (q + 1) (by rw [HN.out]; exact hkn)
              rw [decide_eq_true (by omega), Nat.add_sub_cancel] at hv
              obtain ⟨b, hb⟩ : ∃ b, mt PP (s.take q) = b := ⟨_, rfl⟩
              rw [hb] at hv rq
              have HV := Lib.hid hv
              clear ha hK42 hv hb hr0
              cases b
              · go_upto_region 12 with fail
                go_region
                all_goals
                  go_wp2_with fail
                  go_roundw
                  case rel => exact ⟨q + 1 + 1, by simp; try omega, by omega, REL.out _ (by rw [HV.out]; rfl) _ (Below.refl _ _).drew⟩
                  case measure => first | (simp [intOf]; done) | (simp [intOf]; omega)
              · have HTA : Hid (∀ ww, Below wr.heap.size wr ww → Calls Try.prog 32 #[.agg #[.int .u8 K, .int .u8 (x.it.one.toNat : Int), .slice x.A x.n x.c, .bool x.it.neg], .int .u8 (bn s q)] ww fun e w' => e = .returned (.bool (takesG x.it (s.getD q 0))) ∧ Below ww.heap.size ww w') := Lib.hid fun ww hb => by
                  have := takes_any x (s.getD q 0) ww HX1.out ((HX2.out.below HP4.out).below hb) HX3.out
                  rw [← HK.out]
                  exact this
                have HV2 : Hid (mt (PP ++ [gpOf x.it]) (s.take (q + 1)) = takesG x.it (s.getD q 0)) := Lib.hid (by rw [HV.out]; rfl)
                obtain ⟨v, hv⟩ : ∃ v, takesG x.it (s.getD q 0) = v := ⟨_, rfl⟩
                rw [hv] at HTA HV2
                have x1 := HP2.out.cell 1 (.int .u8 (x.it.one.toNat : Int)) rfl
                have x2 := HP2.out.cell 2 (.slice x.A x.n x.c) rfl
                have x3 := HP2.out.cell 3 (.bool x.it.neg) rfl
                have lgn := HP1.out.lt
                clear hv
                go_upto_region 12 with fail
                have lX := HP2.out.lt
                have lg := HP3.out.lt
                have z0 := ((Below.refl wr.heap.size wr).drew.cell (p := ⟨X, 0, none⟩) lX).trans x0
                have z1 := ((Below.refl wr.heap.size wr).drew.cell (p := ⟨X, 1, none⟩) lX).trans x1
                have z2 := ((Below.refl wr.heap.size wr).drew.cell (p := ⟨X, 2, none⟩) lX).trans x2
                have z3 := ((Below.refl wr.heap.size wr).drew.cell (p := ⟨X, 3, none⟩) lX).trans x3
                have z4 := ((Below.refl wr.heap.size wr).drew.cell (p := ⟨g, q, none⟩) lg).trans rq
                go_region_held3 (fun W => W.cell? ⟨X, 0, none⟩ = some (.int .u8 K) ∧ W.cell? ⟨X, 1, none⟩ = some (.int .u8 (x.it.one.toNat : Int)) ∧ W.cell? ⟨X, 2, none⟩ = some (.slice x.A x.n x.c) ∧ W.cell? ⟨X, 3, none⟩ = some (.bool x.it.neg) ∧ W.cell? ⟨g, q, none⟩ = some (.bool true)) (first | (with_reducible exact ⟨m0, m1, m2, m3, m4⟩) | (with_reducible exact ⟨z0, z1, z2, z3, z4⟩) | (with_reducible exact ⟨x0, x1, x2, x3, rq⟩) | (exact ⟨cell_set1 hne1 m0, cell_set1 hne1 m1, cell_set1 hne1 m2, cell_set1 hne1 m3, cell_set1 hne2 m4⟩) | go_keep) (first
                  | (go_at_call 32; (with_reducible refine (HTA.out _ (by first | exact (Below.refl _ _).drew | exact Below.refl _ _)).mono ?_); rintro e w9 ⟨rfl, hb9⟩; have hb9' : Below wr.heap.size wr w9 := (by first | exact bthen (Below.refl _ _).drew hb9 | exact hb9); have nk9 := (hb9'.cell (p := ⟨gn, q + 1, none⟩) lgn).trans nk; have fk9 := (HP1.out.below hb9').soft (q + 1); have m0 := (hb9'.cell (p := ⟨X, 0, none⟩) lX).trans x0; have m1 := (hb9'.cell (p := ⟨X, 1, none⟩) lX).trans x1; have m2 := (hb9'.cell (p := ⟨X, 2, none⟩) lX).trans x2; have m3 := (hb9'.cell (p := ⟨X, 3, none⟩) lX).trans x3; have m4 := (hb9'.cell (p := ⟨g, q, none⟩) lg).trans rq; have HB9 := Lib.hid hb9'; clear hb9 hb9'))
                all_goals
                  go_wp2_with fail
                  go_roundw
                  case rel => exact ⟨q + 1 + 1, by simp; try omega, by omega, REL.out _ HV2.out _ HB9.out⟩
                  case measure => first | (simp [intOf]; done) | (simp [intOf]; omega)
        · have hki : ¬ (k : Int) ≤ (n : Int) := by omega
          obtain rfl : k = n + 1 := by omega
          have e : partG (PP ++ [gpOf x.it]) s (n + 1) = rowG (PP ++ [gpOf x.it]) s := by rw [← HN.out]; exact part_end _ s
          rw [e, ← HTK.out] at hp1
          have HP1 := Lib.hid hp1
          have HP4 := Lib.hid hp4
          have w1i : IntKind.i64.wrap ((i : Int) + 1) = (i : Int) + 1 := by rw [IntKind.wrap_i64]; omega
          have hki4 : ¬ (n : Int) + 1 ≤ (n : Int) := by omega
          clear hp1 hp2 hp3 hp4 e
          go_wp2
          go_roundw
          case rel => exact ⟨i + 1, gn, by simp, by omega, rfl, HP1.out, bthen HBW.out HP4.out⟩
          case measure => first | (simp [intOf]; done) | (simp [intOf]; omega)
    · have hli : ¬ (i : Int) < (m : Int) := by omega
      have e : ((l.map Iv.it).map gpOf).take i = (l.map Iv.it).map gpOf := List.take_of_length_le (by rw [List.length_map, List.length_map, HM.out]; omega)
      rw [e] at HW
      have rk := HW.out.cell (fun b => .bool b) (fun _ => rfl) n _ (row_get _ s n (by rw [HN.out]; exact Nat.le_refl _))
      rw [List.take_of_length_le (by rw [HN.out]; exact Nat.le_refl _)] at rk
      have hn0 : (0 : Int) ≤ (n : Int) := by omega
      have hn1 : (n : Int) < (n : Int) + 1 := by omega
      clear e
      go_wp2
      go_ret
      exact ⟨rfl, HBW.out⟩
end Go.Proofs.Ytmcgjkhbljdddaa
