/-
  The document's answers to May and Sacks: contracts.
-/
import Derived.Test.YtehckiihipnimaaSSacks
import Derived.BigQuiet
import Derived.Deep.QuietTactic
import Derived.Deep.DeepCutAuto
import Derived.Deep.RegionLaw
import Derived.IntWalk
namespace Go.Proofs.Ytehckiihipnimaa
open Go.RowKit
set_option linter.unusedVariables false
set_option linter.unusedSimpArgs false

theorem drop_prev (d : Int) (l : List Rg) (k : Nat) (x : Rg) (h : l[k]? = some x) (hk : 0 < k) : ∃ y, l[k - 1]? = some y := by
  have := (List.getElem?_eq_some_iff.1 h).1
  exact ⟨l[k - 1], List.getElem?_eq_getElem (by omega)⟩
/-- the To of the range ahead of the k-th one -/
def prevTo (d : Int) (l : List Rg) (k : Nat) : Int := match k with
  | 0 => d
  | j + 1 => (l.getD j (0, 0)).2
theorem prevTo_succ (d : Int) (l : List Rg) (k : Nat) (x : Rg) (h : l[k]? = some x) : prevTo d l (k + 1) = x.2 := by simp [prevTo, h]

theorem refMay_any (d : Int) (A : Option Addr) (n c : Nat) (l : List Rg) (w : World) (hb : Rs w A l) (hn : l.length = n) (h47 : n ≤ 140737488355328) :
    Calls Try.prog 79 #[.int .i64 d, .slice A n c] w fun e w' => e = .returned (.bool (mayB d l)) ∧ Below w.heap.size w w' := by
  have HB := Lib.hid hb
  have HN := Lib.hid hn
  clear hb hn
  by_cases h0 : 0 ≤ d ∧ d ≤ 1048576 ∧ n ≤ 16
  · obtain ⟨h0, h1, h2⟩ := h0
    have HM : Hid (mayB d l = okB d l) := Lib.hid (by unfold mayB; have := HN.out; simp only [h0, h1, decide_true, Bool.true_and]; simp; intro; omega)
    go_enter Try.func79, Try.ntmps79
    go_wp2
    go_loopw [21] (fun i wr => ∃ (k : Nat), k ≤ n ∧ i = .int .i64 k ∧ okB d l = okB (prevTo d l k) (l.drop k) ∧ Below w.heap.size w wr) (fun i _ => n - (intOf i).toNat)
    case atStart => exact ⟨0, Nat.zero_le _, rfl, rfl, Below.refl _ _⟩
    case round =>
      obtain ⟨k, hk, rfl, hz, hb1⟩ := hrel
      have HZ := Lib.hid hz
      clear hz
      by_cases hlt : k < n
      · obtain ⟨⟨x1, x2⟩, hx, hd⟩ := drop_at l k (by rw [HN.out]; exact hlt)
        obtain ⟨b, o, rfl, hbs, hc1, hc2⟩ := (HB.out.below hb1).at k _ hx
        have HD := Lib.hid hd
        have HX := Lib.hid hx
        clear hd hx
        simp only at hc1 hc2
        obtain ⟨z, hz⟩ : ∃ z, z = prevTo d l k := ⟨_, rfl⟩
        have HP := Lib.hid hz
        clear hz
        have fin : Hid (z < x1 ∧ x1 < x2 ∧ x2 ≤ 1048576 → okB d l = okB x2 (l.drop (k + 1))) := Lib.hid fun ⟨g1, g2, g3⟩ => by rw [HZ.out, HD.out, ← HP.out]; simp [okB, g1, g2, g3]
        have fin2 : Hid (¬ (z < x1 ∧ x1 < x2 ∧ x2 ≤ 1048576) → mayB d l = false) := Lib.hid fun hno => by rw [HM.out, HZ.out, HD.out, ← HP.out]; simp only [okB, Bool.and_eq_false_iff, decide_eq_false_iff_not]; omega
        rcases Nat.eq_zero_or_pos k with hk0 | hk0
        · subst hk0
          obtain rfl : z = d := HP.out
          simp only [Nat.zero_mul, Nat.add_zero] at hc1 hc2
          by_cases hok : z < x1 ∧ x1 < x2 ∧ x2 ≤ 1048576
          · have F := Lib.hid (fin.out hok)
            clear fin fin2
            obtain ⟨g1, g2, g3⟩ := hok
            go_wp2
            go_roundw
            case rel => exact ⟨1, by omega, by go_num, by rw [F.out]; rw [prevTo_succ z l 0 _ HX.out], hb1.alloc hb1.size _⟩
            case measure => simp [intOf]; omega
          · have F := Lib.hid (fin2.out hok)
            clear fin fin2
            go_wp2
            all_goals
              go_ret
              exact ⟨by rw [F.out]; rfl, hb1.alloc hb1.size _⟩
        · obtain ⟨⟨y1, y2⟩, hy⟩ := drop_prev d l k _ HX.out hk0
          obtain ⟨b', o', hA, _, hc3, hc4⟩ := (HB.out.below hb1).at (k - 1) _ hy
          obtain ⟨rfl, rfl⟩ : b = b' ∧ o = o' := by injection hA with hA; injection hA with h1 h2 h3; exact ⟨h1, h2⟩
          clear hA
          obtain rfl : z = y2 := by rw [HP.out, show k = (k - 1) + 1 by omega, prevTo_succ d l (k - 1) _ hy]
          clear hy
          simp only at hc3 hc4
          by_cases hok : z < x1 ∧ x1 < x2 ∧ x2 ≤ 1048576
          · have F := Lib.hid (fin.out hok)
            clear fin fin2
            obtain ⟨g1, g2, g3⟩ := hok
            go_wp2
            go_roundw
            case rel => exact ⟨k + 1, by omega, by go_num, by rw [F.out]; rw [prevTo_succ d l k _ HX.out], hb1.alloc hb1.size _⟩
            case measure => simp [intOf]; omega
          · have F := Lib.hid (fin2.out hok)
            clear fin fin2
            go_wp2
            all_goals
              go_ret
              exact ⟨by rw [F.out]; rfl, hb1.alloc hb1.size _⟩
      · have hf : Hid (mayB d l = true) := Lib.hid (by rw [HM.out, HZ.out, List.drop_eq_nil_of_le (by rw [HN.out]; omega)]; rfl)
        go_wp2
        go_ret
        exact ⟨by rw [hf.out]; rfl, hb1⟩
  · have hf : Hid (mayB d l = false) := Lib.hid (by unfold mayB; simp only [Bool.and_eq_false_iff, decide_eq_false_iff_not]; have := HN.out; omega)
    go_enter Try.func79, Try.ntmps79
    go_wp2
    all_goals
      go_ret
      exact ⟨by rw [hf.out]; rfl, Below.refl _ _⟩

/-- What is told: at most k of the ranges. -/
def RetRS (W : World) (L : List Rg) (e : Ending) (w' : World) : Prop :=
  ∃ A c, e = .returned (.tuple #[.slice A L.length c, .int .i64 0]) ∧ Rs w' A L ∧ (∀ a, A = some a → W.heap.size ≤ a.block ∧ a.block < w'.heap.size) ∧ Below W.heap.size W w'

theorem sack_le (f g : Rg → Bool) (h : ∀ x, g x = !f x) (l : List Rg) (k : Nat) : (l.filter f ++ ((l.drop k).filter g).reverse).length ≤ l.length := by
  have h1 := filter_two f l
  have h2 := ((List.drop_sublist k l).filter g).length_le
  have h3 : (l.filter g).length = (l.filter (fun x => !f x)).length := by congr 2; funext x; exact h x
  rw [List.length_append, List.length_reverse]
  omega

theorem bq (w : World) (k : Nat) (o : Obj) : Below w.heap.size w ((w.drewN k).alloc o) := by
  have h := below_drewN (Below.refl w.heap.size w) k
  exact h.alloc h.size o
theorem bqq {w1 w w' : World} {k : Nat} {o : Obj} (h : Below w1.heap.size w1 w) (hb : Below w1.heap.size ((w.drewN k).alloc o) w') : Below w1.heap.size w1 w' := (h.trans ((bq w k o).mono h.size)).trans hb

theorem ownR_lt {w : World} {base : Nat} {A : Option Addr} {n c : Nat} {l : List Rg} (h : OwnR w base A n c l) : ∀ a, A = some a → base ≤ a.block ∧ a.block < w.heap.size := fun a ha => by
  rcases h.2.2 with ⟨hv, h0⟩ | ⟨g, cap, cur, hv, hg, hh, hc, hcm, hcs, ht⟩
  · injection hv with hA; rw [hA] at ha; cases ha
  · injection hv with hA _ hcc
    rw [hA] at ha; cases ha
    exact ⟨hg, lt_of_block hh⟩

def Sack1 (w1 : World) (l : List Rg) (last : Int) (n : Nat) (t10 t26 : Value) (wr : World) : Prop :=
  ∃ (k : Nat) (A3 : Option Addr) (n3 c3 : Nat) (Y : List Rg), k ≤ n ∧ t26 = .int .i64 k ∧ t10 = .slice A3 n3 c3 ∧ OwnR wr w1.heap.size A3 n3 c3 Y ∧ n3 ≤ k ∧ l.filter (hitB last) = Y ++ (l.drop k).filter (hitB last) ∧ Below w1.heap.size w1 wr
def Sack2 (w1 : World) (l : List Rg) (last : Int) (n : Nat) (t10 t13 : Value) (wr : World) : Prop :=
  ∃ (k : Nat) (A3 : Option Addr) (n3 c3 : Nat), k ≤ n ∧ t13 = .int .i64 ((k : Int) - 1) ∧ t10 = .slice A3 n3 c3 ∧ OwnR wr w1.heap.size A3 n3 c3 (l.filter (hitB last) ++ ((l.drop k).filter (fun x => !hitB last x)).reverse) ∧ Below w1.heap.size w1 wr

set_option maxRecDepth 100000 in
set_option maxHeartbeats 4000000 in
theorem refSacks_ok (d : Int) (A : Option Addr) (n c : Nat) (l : List Rg) (last : Int) (m : Nat) (w : World) (hb : Rs w A l) (hn : l.length = n) (hm : mayB d l = true) (hk : m ≤ 16) :
    Calls Try.prog 62 #[.int .i64 d, .slice A n c, .int .i64 last, .int .i64 (m : Int)] w (RetRS w ((sackAll last l).take m)) := by
  obtain ⟨g0, g1, g2, g3⟩ : 0 ≤ d ∧ d ≤ 1048576 ∧ l.length ≤ 16 ∧ okB d l = true := by simpa [mayB, Bool.and_eq_true, decide_eq_true_eq] using hm
  rw [hn] at g2
  have hone := hit_one last l d (okB_ch l d g3).1
  have HB := Lib.hid hb; have HN := Lib.hid hn; have HM := Lib.hid hm; have HONE := Lib.hid hone
  clear hb hn hm hone g3
  go_enter Try.func62, Try.ntmps62
  go_wp2_with (go_at_call 79; refine (refMay_any d A n c l _ HB.out HN.out (by omega)).mono ?_; rw [HM.out]; rintro e w1 ⟨rfl, hb1⟩)
  have HB1 := Lib.hid (HB.out.below hb1)
  go_loopw [10, 26] (fun o i wr => Sack1 w1 l last n o i wr) (fun _ i _ => n - (intOf i).toNat)
  case atStart => exact ⟨0, none, 0, 0, [], Nat.zero_le _, rfl, rfl, OwnR.nil _ _, Nat.le_refl _, rfl, Below.refl _ _⟩
  case round =>
    obtain ⟨k, A3, n3, c3, Y, hkn, rfl, rfl, ho3, hn3, hy, hb3⟩ := hrel
    have O3 := Lib.hid ho3; have HY := Lib.hid hy
    clear ho3 hy
    by_cases hlt : k < n
    · obtain ⟨⟨x1, x2⟩, hx, hd⟩ := drop_at l k (by rw [HN.out]; exact hlt)
      obtain ⟨b, o, rfl, hbs, hc1, hc2⟩ := (HB1.out.below hb3).at k _ hx
      have HD := Lib.hid hd
      clear hd hx
      simp only at hc1 hc2
      by_cases hin : x1 ≤ last ∧ last < x2
      · have HF : Hid (l.filter (hitB last) = (Y ++ [(x1, x2)]) ++ (l.drop (k + 1)).filter (hitB last)) := Lib.hid (by
          rw [HY.out, HD.out, List.filter_cons_of_pos (by simp [hitB, hin.1, hin.2]), List.append_assoc]; rfl)
        obtain ⟨i1, i2⟩ := hin
        go_wp2_with (at_builtin; refine wpList_appR rfl _ (.tmp 40) (.tmp 42) rfl w1.heap.size A3 n3 c3 Y rfl (O3.out.below (ba2 _ _ _)) _ 1 1 [(x1, x2)] rfl (rs_new _ _ _ _ rfl _ (by simp)) rfl (n3 + 1) rfl (by omega) (by have := hb3.size; simp; omega) ?_; intro A4 c4 w4 ho4 hb4 hs4; have O4 := Lib.hid ho4; clear ho4 hs4)
        go_roundw
        case rel => exact ⟨k + 1, A4, n3 + 1, c4, Y ++ [(x1, x2)], by omega, by go_num, rfl, O4.out, by omega, HF.out, (((hb3.alloc hb3.size _).alloc (by have := hb3.size; simp; omega) _)).trans hb4⟩
        case measure => simp [intOf]; omega
      · have HF : Hid (l.filter (hitB last) = Y ++ (l.drop (k + 1)).filter (hitB last)) := Lib.hid (by
          rw [HY.out, HD.out, List.filter_cons_of_neg (by simp [hitB]; omega)])
        go_wp2
        all_goals
          go_roundw
          case rel => exact ⟨k + 1, A3, n3, c3, Y, by omega, by go_num, rfl, O3.out.below (ba1 _ _), by omega, HF.out, hb3.alloc hb3.size _⟩
          case measure => simp [intOf]; omega
    · obtain ⟨wS, rfl⟩ : ∃ wS, wS = wr := ⟨_, rfl⟩
      have HYF : Hid (l.filter (hitB last) = Y) := Lib.hid (by rw [HY.out, List.drop_eq_nil_of_le (by rw [HN.out]; omega)]; simp)
      go_wp2
      go_loopw [10, 13] (fun o i wr => Sack2 w1 l last n o i wr) (fun _ i _ => (intOf i + 1).toNat)
      case atStart => exact ⟨n, A3, n3, c3, Nat.le_refl _, rfl, rfl, by rw [List.drop_eq_nil_of_le (by rw [HN.out]; exact Nat.le_refl _), HYF.out]; simpa using O3.out, hb3⟩
      case round =>
        obtain ⟨k2, Ao, n4, c4, hk2, rfl, rfl, ho4, hb4⟩ := hrel
        obtain ⟨out, hout⟩ : ∃ out, out = l.filter (hitB last) ++ ((l.drop k2).filter (fun x => !hitB last x)).reverse := ⟨_, rfl⟩
        rw [← hout] at ho4
        have hn4 : n4 ≤ n := by have h1 := sack_le (hitB last) (fun x => !hitB last x) (fun _ => rfl) l k2; rw [← hout] at h1; have := ho4.1; have := HN.out; omega
        have O4 := Lib.hid ho4
        have L4 : Hid (out.length = n4) := Lib.hid ho4.1
        have HOUT := Lib.hid hout
        clear ho4 hout
        rcases Nat.eq_zero_or_pos k2 with hz | hz
        · subst hz
          have hall : out = sackAll last l := by rw [HOUT.out, sackAll_eq]; rfl
          have hn0 : n4 = n := by rw [← L4.out, hall, sackAll_len, HN.out]
          have HALL := Lib.hid hall
          subst hn0
          clear hall
          rw [show ((0 : Nat) : Int) - 1 = -1 by rfl]
          by_cases hmn : m < n4
          · have hl2 : Hid (((sackAll last l).take m).length = m) := Lib.hid (by rw [List.length_take, ← HALL.out, L4.out]; omega)
            have hcap : n4 ≤ c4 := OwnR.cap' O4.out
            have z5 : (m : Int) ≤ (c4 : Int) := by omega
            go_wp2
            go_ret2
            exact ⟨Ao, c4, by rw [hl2.out]; simp, by rw [← HALL.out]; exact O4.out.rs.take m, (fun a ha => by have := ownR_lt O4.out a ha; have := hb1.size; omega), bthenS hb1 hb4⟩
          · have hl2 : Hid ((sackAll last l).take m = sackAll last l) := Lib.hid (List.take_of_length_le (by rw [← HALL.out, L4.out]; omega))
            have hl3 : Hid ((sackAll last l).length = n4) := Lib.hid (by rw [← HALL.out, L4.out])
            go_wp2
            go_ret2
            exact ⟨Ao, c4, by rw [hl2.out, hl3.out]; simp, by rw [hl2.out, ← HALL.out]; exact O4.out.rs, (fun a ha => by have := ownR_lt O4.out a ha; have := hb1.size; omega), bthenS hb1 hb4⟩
        · obtain ⟨j, rfl⟩ : ∃ j, k2 = j + 1 := ⟨k2 - 1, by omega⟩
          rw [show ((j + 1 : Nat) : Int) - 1 = (j : Int) by omega]
          obtain ⟨⟨x1, x2⟩, hx, hd⟩ := drop_at l j (by rw [HN.out]; omega)
          obtain ⟨b, o, hA, hbs, hc1, hc2⟩ := (HB1.out.below hb4).at j _ hx
          subst hA
          simp only at hc1 hc2
          have j0 : (0 : Int) ≤ (j : Int) := by omega
          have j1 : (j : Int) < (n : Int) := by omega
          have HD := Lib.hid hd
          have HX := Lib.hid hx
          clear hd hx
          have hs4 := hb4.size
          by_cases hin : x1 ≤ last ∧ last < x2
          · have hmem : (x1, x2) ∈ l.filter (hitB last) := List.mem_filter.2 ⟨List.mem_of_getElem? HX.out, by simp [hitB, hin.1, hin.2]⟩
            have hf : l.filter (hitB last) = [(x1, x2)] := by
              rcases HONE.out with h | ⟨y, h⟩
              · rw [h] at hmem; cases hmem
              · rw [h] at hmem ⊢; simp at hmem; rw [hmem]
            have ho : out[0]? = some (x1, x2) := by rw [HOUT.out, hf]; rfl
            have h0 : 0 < n4 := by have := (List.getElem?_eq_some_iff.1 ho).1; have := L4.out; omega
            have HNX : Hid (l.filter (hitB last) ++ ((l.drop j).filter (fun x => !hitB last x)).reverse = out) := Lib.hid (by
              rw [HD.out, List.filter_cons_of_neg (by simp [hitB, hin.1, hin.2]), ← HOUT.out])
            have z0 : ((n4 : Int) == 0) = false := by rw [beq_eq_false_iff_ne]; omega
            have m0 : (0 : Int) < (n4 : Int) := by omega
            obtain ⟨bo, oo, hA, hbo, hd1, hd2⟩ := O4.out.rs.at 0 _ ho
            subst hA
            simp only [Nat.zero_mul, Nat.add_zero] at hd1 hd2
            obtain ⟨i1, i2⟩ := hin
            clear hmem hf ho
            go_upto_region 15 with (fail)
            go_quiet (fail)
            go_wp2_with fail
            go_roundw
            case rel => exact ⟨j, some ⟨bo, oo, none⟩, n4, c4, by omega, by go_num, rfl, by rw [HNX.out]; exact O4.out.below (below_drewN (Below.refl _ _) _), below_drewN hb4 _⟩
            case measure => simp [intOf] <;> omega
          · have HNX : Hid (l.filter (hitB last) ++ ((l.drop j).filter (fun x => !hitB last x)).reverse = out ++ [(x1, x2)]) := Lib.hid (by
              rw [HD.out, List.filter_cons_of_pos (by simp [hitB]; omega), List.reverse_cons, ← List.append_assoc, ← HOUT.out])
            have hn5 : n4 + 1 ≤ n := by
              have h1 := sack_le (hitB last) (fun x => !hitB last x) (fun _ => rfl) l j
              rw [HNX.out, List.length_append, L4.out, HN.out] at h1
              simpa using h1
            rcases Nat.eq_zero_or_pos n4 with h0 | h0
            · have z0 : ((n4 : Int) == 0) = true := by rw [beq_iff_eq]; omega
              have H0 := Lib.hid h0
              clear h0
              go_upto_region 15 with (fail)
              go_quiet (fail)
              go_wp2_with (at_builtin; refine wpList_appR rfl _ (.tmp 84) (.tmp 89) rfl w1.heap.size Ao n4 c4 out rfl (O4.out.below (bq _ _ _)) _ 1 1 [(x1, x2)] rfl (rs_new _ _ _ _ rfl _ (by simp)) rfl (n4 + 1) rfl (by omega) (by simp; omega) ?_; intro A6 c6 w6 ho6 hb6 hs6; have O6 := Lib.hid ho6; have B6 := Lib.hid (bqq hb4 hb6); clear ho6 hb6 hs6)
              go_roundw
              case rel => exact ⟨j, A6, n4 + 1, c6, by omega, by go_num, rfl, by rw [HNX.out]; exact O6.out, B6.out⟩
              case measure => simp [intOf] <;> omega
            · have z0 : ((n4 : Int) == 0) = false := by rw [beq_eq_false_iff_ne]; omega
              have m0 : (0 : Int) < (n4 : Int) := by omega
              obtain ⟨⟨o1, o2⟩, ho⟩ : ∃ y, out[0]? = some y := ⟨out[0]'(by rw [L4.out]; exact h0), List.getElem?_eq_getElem _⟩
              obtain ⟨bo, oo, hA, hbo, hd1, hd2⟩ := O4.out.rs.at 0 _ ho
              subst hA
              simp only [Nat.zero_mul, Nat.add_zero] at hd1 hd2
              clear ho
              by_cases e1 : x1 = o1
              · subst e1
                by_cases e2 : x2 = o2
                · subst e2
                  by_cases i1 : x1 ≤ last
                  · have i2 : x2 ≤ last := by omega
                    have i4 : decide (last < x2) = false := by simp; omega
                    go_upto_region 15 with (fail)
                    go_quiet (fail)
                    go_wp2_with (at_builtin; refine wpList_appR rfl _ (.tmp 84) (.tmp 89) rfl w1.heap.size (some ⟨bo, oo, none⟩) n4 c4 out rfl (O4.out.below (bq _ _ _)) _ 1 1 [(x1, x2)] rfl (rs_new _ _ _ _ rfl _ (by simp)) rfl (n4 + 1) rfl (by omega) (by simp; omega) ?_; intro A6 c6 w6 ho6 hb6 hs6; have O6 := Lib.hid ho6; have B6 := Lib.hid (bqq hb4 hb6); clear ho6 hb6 hs6)
                    go_roundw
                    case rel => exact ⟨j, A6, n4 + 1, c6, by omega, by go_num, rfl, by rw [HNX.out]; exact O6.out, B6.out⟩
                    case measure => simp [intOf] <;> omega
                  · have i3 : last < x1 := by omega
                    have i4 : decide (x1 ≤ last) = false := by simp; omega
                    go_upto_region 15 with (fail)
                    go_quiet (fail)
                    go_wp2_with (at_builtin; refine wpList_appR rfl _ (.tmp 84) (.tmp 89) rfl w1.heap.size (some ⟨bo, oo, none⟩) n4 c4 out rfl (O4.out.below (bq _ _ _)) _ 1 1 [(x1, x2)] rfl (rs_new _ _ _ _ rfl _ (by simp)) rfl (n4 + 1) rfl (by omega) (by simp; omega) ?_; intro A6 c6 w6 ho6 hb6 hs6; have O6 := Lib.hid ho6; have B6 := Lib.hid (bqq hb4 hb6); clear ho6 hb6 hs6)
                    go_roundw
                    case rel => exact ⟨j, A6, n4 + 1, c6, by omega, by go_num, rfl, by rw [HNX.out]; exact O6.out, B6.out⟩
                    case measure => simp [intOf] <;> omega
                · have ze : (x2 == o2) = false := by rw [beq_eq_false_iff_ne]; exact e2
                  have E2 := Lib.hid e2
                  clear e2
                  go_upto_region 15 with (fail)
                  go_quiet (fail)
                  go_wp2_with (at_builtin; refine wpList_appR rfl _ (.tmp 84) (.tmp 89) rfl w1.heap.size (some ⟨bo, oo, none⟩) n4 c4 out rfl (O4.out.below (bq _ _ _)) _ 1 1 [(x1, x2)] rfl (rs_new _ _ _ _ rfl _ (by simp)) rfl (n4 + 1) rfl (by omega) (by simp; omega) ?_; intro A6 c6 w6 ho6 hb6 hs6; have O6 := Lib.hid ho6; have B6 := Lib.hid (bqq hb4 hb6); clear ho6 hb6 hs6)
                  go_roundw
                  case rel => exact ⟨j, A6, n4 + 1, c6, by omega, by go_num, rfl, by rw [HNX.out]; exact O6.out, B6.out⟩
                  case measure => simp [intOf] <;> omega
              · have ze : (x1 == o1) = false := by rw [beq_eq_false_iff_ne]; exact e1
                have E1 := Lib.hid e1
                clear e1
                go_upto_region 15 with (fail)
                go_quiet (fail)
                go_wp2_with (at_builtin; refine wpList_appR rfl _ (.tmp 84) (.tmp 89) rfl w1.heap.size (some ⟨bo, oo, none⟩) n4 c4 out rfl (O4.out.below (bq _ _ _)) _ 1 1 [(x1, x2)] rfl (rs_new _ _ _ _ rfl _ (by simp)) rfl (n4 + 1) rfl (by omega) (by simp; omega) ?_; intro A6 c6 w6 ho6 hb6 hs6; have O6 := Lib.hid ho6; have B6 := Lib.hid (bqq hb4 hb6); clear ho6 hb6 hs6)
                go_roundw
                case rel => exact ⟨j, A6, n4 + 1, c6, by omega, by go_num, rfl, by rw [HNX.out]; exact O6.out, B6.out⟩
                case measure => simp [intOf] <;> omega

end Go.Proofs.Ytehckiihipnimaa
