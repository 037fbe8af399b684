/-
  Contracts of packthreadkeep.RangeOf, Heap and has.
-/
import Derived.Test.YtdfidmdgdajgoaaHoleAdd
import Derived.Test.YtdfidmdgdajgoaaHoleSame
import Derived.Test.YtdfidmdgdajgoaaPicked
import Derived.IntWalk
namespace Go.Proofs.Ytdfidmdgdajgoaa
open Go.RowKit
set_option linter.unusedVariables false

def rgOf (a b : Int) : Rg := (a % 170, a % 170 + b % 30)
theorem rgOf_bd (a b : Int) : 0 ≤ (rgOf a b).1 ∧ (rgOf a b).1 ≤ (rgOf a b).2 ∧ (rgOf a b).2 ≤ 1048576 := by unfold rgOf; simp only; omega
def pairsOf : List Int → List Rg
  | a :: b :: t => rgOf a b :: pairsOf t
  | _ => []
def heapStep (s : Int × List Rg) (r : Rg) : Int × List Rg := if (addL s.1 s.2 r).length ≤ 16 then (addD s.1 s.2 r, addL s.1 s.2 r) else s
def heapOf (l : List Int) (n : Nat) : Int × List Rg := ((pairsOf l).take n).foldl heapStep (0, [])

theorem mayB_of {d : Int} {l : List Rg} (h : 0 ≤ d ∧ d ≤ 1048576 ∧ l.length ≤ 16 ∧ okB d l = true) : mayB d l = true := by
  simpa [mayB, Bool.and_eq_true, decide_eq_true_eq] using h
theorem mayB_to {d : Int} {l : List Rg} (h : mayB d l = true) : 0 ≤ d ∧ d ≤ 1048576 ∧ l.length ≤ 16 ∧ okB d l = true := by
  simpa [mayB, Bool.and_eq_true, decide_eq_true_eq] using h
theorem add_may {d : Int} {l : List Rg} {r : Rg} (h : mayB d l = true) (hr : 0 ≤ r.1 ∧ r.1 ≤ r.2 ∧ r.2 ≤ 1048576) (hl : (addL d l r).length ≤ 16) : mayB (addD d l r) (addL d l r) = true := by
  obtain ⟨h0, h1, _, h3⟩ := mayB_to h
  obtain ⟨g0, g1, g2, _⟩ := add_good d l r h0 h1 h3 hr.1 hr.2.1 hr.2.2
  exact mayB_of ⟨by omega, g1, hl, g2⟩

theorem add_fit (d : Int) (A : Option Addr) (n c : Nat) (l : List Rg) (r1 r2 : Int) (w : World) (hb : Rs w A l) (hn : l.length = n) (hm : mayB d l = true) (hr : 0 ≤ r1 ∧ r1 ≤ r2 ∧ r2 ≤ 1048576)
    (D : Int) (N : Nat) (L : List Rg) (hD : D = addD d l (r1, r2)) (hL : L = addL d l (r1, r2)) (hN : L.length = N) (h16 : N ≤ 16) :
    Calls Try.prog 13 #[.int .i64 d, .slice A n c, .agg #[.int .i64 r1, .int .i64 r2]] w (RetA w D N L) :=
  (add_ok d A n c l (r1, r2) w hb hn (by have := (mayB_to hm).2.2.1; omega) hm hr D N L hD hL hN).mono fun e w' h => h.1 h16
theorem add_full (d : Int) (A : Option Addr) (n c : Nat) (l : List Rg) (r1 r2 : Int) (w : World) (hb : Rs w A l) (hn : l.length = n) (hm : mayB d l = true) (hr : 0 ≤ r1 ∧ r1 ≤ r2 ∧ r2 ≤ 1048576)
    (h16 : 16 < (addL d l (r1, r2)).length) :
    Calls Try.prog 13 #[.int .i64 d, .slice A n c, .agg #[.int .i64 r1, .int .i64 r2]] w fun e w' => e = .returned (.tuple #[.int .i64 0, .slice none 0 0, .int .i64 9]) ∧ Below w.heap.size w w' :=
  (add_ok d A n c l (r1, r2) w hb hn (by have := (mayB_to hm).2.2.1; omega) hm hr _ _ _ rfl rfl rfl).mono fun e w' h => h.2 h16

theorem rangeOf_any (a b r1 r2 : Int) (w : World) (h1 : Hid (r1 = a % 170)) (h2 : Hid (r2 = a % 170 + b % 30)) (ha : -9223372036854775808 ≤ a) (ha' : a ≤ 9223372036854775807) (hb : -9223372036854775808 ≤ b) (hb' : b ≤ 9223372036854775807) :
    Calls Try.prog 23 #[.int .i64 a, .int .i64 b] w fun e w' => e = .returned (.agg #[.int .i64 r1, .int .i64 r2]) ∧ Below w.heap.size w w' := by
  obtain ⟨q, hq⟩ : ∃ q, q = b % 30 := ⟨_, rfl⟩
  have hr0 : 0 ≤ r1 ∧ r1 ≤ 169 := by rw [h1.out]; omega
  obtain ⟨g1, g2⟩ := hr0
  have hq0 : 0 ≤ q ∧ q ≤ 29 := by omega
  obtain ⟨g3, g4⟩ := hq0
  have HQ := Lib.hid hq
  have HR : Hid (r1 + q = r2) := Lib.hid (by rw [h1.out, h2.out, hq])
  clear hq
  go_enter Try.func23, Try.ntmps23
  go_wp2_with (first
    | (go_at_call 20; (with_reducible refine (picked_v a 170 r1 _ h1 ha ha' (by omega) (by omega)).mono ?_); rintro e w' ⟨rfl, rfl⟩)
    | (go_at_call 20; (with_reducible refine (picked_v b 30 q _ HQ hb hb' (by omega) (by omega)).mono ?_); rintro e w' ⟨rfl, rfl⟩))
  rw [HR.out]
  exact bodyPost_ret (v := .agg #[.int .i64 r1, .int .i64 r2]) (by simp [results, Try.results23, go_sem]) rfl ⟨rfl, ba1 _ _⟩

def RetH (W : World) (s : Int × List Rg) (e : Ending) (w' : World) : Prop :=
  ∃ A c, e = .returned (.tuple #[.int .i64 s.1, .slice A s.2.length c, .bool true]) ∧ OwnR w' W.heap.size A s.2.length c s.2 ∧ Below W.heap.size W w'

theorem drop_two (zs : List Int) (k : Nat) (h : 2 * k + 1 < zs.length) : ∃ a b, zs[2 * k]? = some a ∧ zs[2 * k + 1]? = some b ∧ zs.drop (2 * k) = a :: b :: zs.drop (2 * (k + 1)) :=
  ⟨zs[2 * k], zs[2 * k + 1], List.getElem?_eq_getElem (by omega), List.getElem?_eq_getElem (by omega), by
    rw [List.drop_eq_getElem_cons (by omega), List.drop_eq_getElem_cons (i := 2 * k + 1) (by omega)]; rfl⟩
theorem pairsOf_few (l : List Int) (h : l.length ≤ 1) : pairsOf l = [] := by
  match l, h with
  | [], _ => rfl
  | [_], _ => rfl

/-- the state of Heap's loop -/
def Heaping (w : World) (zs : List Int) (m n : Nat) (t7 t8 t9 : Value) (wr : World) : Prop :=
  ∃ (k : Nat) (d : Int) (A3 : Option Addr) (n3 c3 : Nat) (Y : List Rg), k ≤ n ∧ 2 * k ≤ m ∧ t9 = .int .i64 ((2 * k : Nat) : Int) ∧ t7 = .int .i64 d ∧ t8 = .slice A3 n3 c3 ∧ OwnR wr w.heap.size A3 n3 c3 Y ∧
    heapOf zs n = ((pairsOf (zs.drop (2 * k))).take (n - k)).foldl heapStep (d, Y) ∧ mayB d Y = true ∧ Below w.heap.size w wr

set_option maxHeartbeats 1000000 in
theorem heap_any (A : Option Addr) (m c n : Nat) (zs : List Int) (w : World) (hb : Is w A zs) (hn : zs.length = m) (hm : m ≤ 17592186043904) (h24 : n ≤ 24) :
    Calls Try.prog 21 #[.slice A m c, .int .i64 (n : Int)] w (RetH w (heapOf zs n)) := by
  have HB := Lib.hid hb
  have HN := Lib.hid hn
  clear hb hn
  go_enter Try.func21, Try.ntmps21
  go_wp2
  go_loopw [7, 8, 9] (fun a b i wr => Heaping w zs m n a b i wr) (fun _ _ i _ => m + 1 - (intOf i).toNat)
  case atStart => exact ⟨0, 0, none, 0, 0, [], Nat.zero_le _, by omega, rfl, rfl, rfl, OwnR.nil _ _, rfl, rfl, Below.refl _ _⟩
  case round =>
    obtain ⟨k, d, A3, n3, c3, Y, hk, hkm, rfl, rfl, rfl, ho3, hh, hma, hb3⟩ := hrel
    have O3 := Lib.hid ho3
    have HH := Lib.hid hh
    have HM := Lib.hid hma
    have HL3 : Hid (Y.length = n3) := Lib.hid ho3.1
    clear ho3 hh hma
    by_cases hlt : 2 * k + 1 < m
    · by_cases hkn : k < n
      · obtain ⟨a, b, ha, hb, hd⟩ := drop_two zs k (by rw [HN.out]; exact hlt)
        obtain ⟨bl, o, rfl, hbs, hc1, ha1, ha2⟩ := (HB.out.below hb3).at (2 * k) a ha
        obtain ⟨bl', o', hA, _, hc2, hb1, hb2⟩ := (HB.out.below hb3).at (2 * k + 1) b hb
        obtain ⟨rfl, rfl⟩ : bl = bl' ∧ o = o' := by injection hA with hA; injection hA with h1 h2 h3; exact ⟨h1, h2⟩
        clear hA
        obtain ⟨r1, hr1⟩ : ∃ r, r = a % 170 := ⟨_, rfl⟩
        obtain ⟨r2, hr2⟩ : ∃ r, r = a % 170 + b % 30 := ⟨_, rfl⟩
        have hr0 : 0 ≤ r1 ∧ r1 ≤ r2 ∧ r2 ≤ 1048576 := by omega
        obtain ⟨D, hD⟩ : ∃ D, D = addD d Y (r1, r2) := ⟨_, rfl⟩
        obtain ⟨L, hL⟩ : ∃ L, L = addL d Y (r1, r2) := ⟨_, rfl⟩
        obtain ⟨N, hN⟩ : ∃ N, N = L.length := ⟨_, rfl⟩
        have hnx : heapOf zs n = ((pairsOf (zs.drop (2 * (k + 1)))).take (n - (k + 1))).foldl heapStep (if N ≤ 16 then (D, L) else (d, Y)) := by
          rw [HH.out, hd, pairsOf, show n - k = (n - (k + 1)) + 1 by omega, List.take_succ_cons, List.foldl_cons]
          congr 1
          unfold heapStep rgOf
          simp only
          rw [← hr2, ← hr1, ← hD, ← hL, ← hN]
        have HR1 := Lib.hid hr1; have HR2 := Lib.hid hr2; have HD := Lib.hid hD; have HL := Lib.hid hL; have HNN := Lib.hid hN.symm; have HNX := Lib.hid hnx
        have HR0 := Lib.hid hr0
        clear hr1 hr2 hD hL hN hnx hd ha hb hr0
        have n0 : (0 : Int) ≤ 2 * (k : Int) := by omega
        have n00 : 2 * (k : Int) < m := by omega
        have n1 : (0 : Int) ≤ 2 * (k : Int) + 1 := by omega
        have n11 : 2 * (k : Int) + 1 < m := by omega
        have n2 : (2 * (k : Int)).toNat = 2 * k := by omega
        have n3' : (2 * (k : Int) + 1).toNat = 2 * k + 1 := by omega
        have n5 : IntKind.i64.wrap (2 * (k : Int) + 1) = 2 * (k : Int) + 1 := IntWalk.i64_in _ (by omega)
        have n6 : (2 * (k : Int)) < 2 * (n : Int) := by omega
        by_cases h16 : N ≤ 16
        · go_wp2_with fail
          go_region_law (first
            | (go_simp; go_at_call 23; (with_reducible refine (rangeOf_any a b r1 r2 _ HR1 HR2 ha1 ha2 hb1 hb2).mono ?_); rintro e w4 ⟨rfl, hb4⟩; have HB4 : Hid (Below wr.heap.size wr w4) := Lib.hid (((Below.refl wr.heap.size wr).drew).trans hb4); clear hb4)
            | (go_simp; go_at_call 13; (with_reducible refine (add_fit d A3 n3 c3 Y r1 r2 _ (O3.out.rs.below HB4.out) HL3.out HM.out HR0.out D N L HD.out HL.out HNN.out h16).mono ?_); rintro e w5 ⟨A5, c5, rfl, ho5, hb5⟩; have O5 := Lib.hid ho5; have HB5 := Lib.hid hb5; clear ho5 hb5))
          all_goals
            clear n0 n00 n1 n11 n2 n3' n5 n6 hc1 hc2
            go_wp2_with fail
            go_roundw
            case rel =>
              refine ⟨k + 1, D, A5, N, c5, L, by omega, by omega, by go_num, rfl, rfl, O5.out.base (by have := HB4.out.size; have := hb3.size; omega), ?_, ?_, bthen' (bthen hb3 HB4.out) (by have := hb3.size; have := HB4.out.size; omega) HB5.out⟩
              · rw [HNX.out, if_pos h16]
              · rw [HD.out, HL.out]; exact add_may HM.out HR0.out (by rw [← HL.out, HNN.out]; exact h16)
            case measure => simp [intOf]; omega
        · go_wp2_with fail
          go_region_law (first
            | (go_simp; go_at_call 23; (with_reducible refine (rangeOf_any a b r1 r2 _ HR1 HR2 ha1 ha2 hb1 hb2).mono ?_); rintro e w4 ⟨rfl, hb4⟩; have HB4 : Hid (Below wr.heap.size wr w4) := Lib.hid (((Below.refl wr.heap.size wr).drew).trans hb4); clear hb4)
            | (go_simp; go_at_call 13; (with_reducible refine (add_full d A3 n3 c3 Y r1 r2 _ (O3.out.rs.below HB4.out) HL3.out HM.out HR0.out (by rw [← HL.out, HNN.out]; omega)).mono ?_); rintro e w5 ⟨rfl, hb5⟩; have HB5 := Lib.hid hb5; clear hb5))
          all_goals
            clear n0 n00 n1 n11 n2 n3' n5 n6 hc1 hc2
            go_wp2_with fail
            go_roundw
            case rel =>
              refine ⟨k + 1, d, A3, n3, c3, Y, by omega, by omega, by go_num, rfl, rfl, (O3.out.below HB4.out).below HB5.out, ?_, HM.out, bthen (bthen hb3 HB4.out) HB5.out⟩
              · rw [HNX.out, if_neg h16]
            case measure => simp [intOf]; omega
      · have HF : Hid (heapOf zs n = (d, Y)) := Lib.hid (by rw [HH.out, show n - k = 0 by omega]; rfl)
        have n6 : ¬ (2 * (k : Int)) < 2 * (n : Int) := by omega
        go_wp2_with (go_at_call 11; refine (may_any d A3 n3 c3 Y _ O3.out.rs HL3.out (by have := (mayB_to HM.out).2.2.1; have := HL3.out; omega)).mono ?_; rw [HM.out]; rintro e w5 ⟨rfl, hb5⟩)
        obtain rfl := HL3.out
        go_ret3
        exact ⟨A3, c3, by rw [HF.out]; simp, by rw [HF.out]; exact O3.out.below hb5, bthen hb3 hb5⟩
    · have HF : Hid (heapOf zs n = (d, Y)) := Lib.hid (by rw [HH.out, pairsOf_few (zs.drop (2 * k)) (by rw [List.length_drop, HN.out]; omega), List.take_nil]; rfl)
      have n6 : ¬ (2 * (k : Int)) + 1 < (m : Int) := by omega
      go_wp2_with (go_at_call 11; refine (may_any d A3 n3 c3 Y _ O3.out.rs HL3.out (by have := (mayB_to HM.out).2.2.1; have := HL3.out; omega)).mono ?_; rw [HM.out]; rintro e w5 ⟨rfl, hb5⟩)
      obtain rfl := HL3.out
      go_ret3
      exact ⟨A3, c3, by rw [HF.out]; simp, by rw [HF.out]; exact O3.out.below hb5, bthen hb3 hb5⟩

/-- the answer to a question -/
def IsIt (r : Bool) (p : Prop) : Prop := r = true ↔ p

/-- whether a place came, as has answers it -/
theorem has_any (d : Int) (A : Option Addr) (n c : Nat) (l : List Rg) (x : Int) (r : Bool) (w : World) (hr : Hid (IsIt r (Came d l x))) (hb : Rs w A l) (hn : l.length = n) (h47 : n ≤ 16) :
    Calls Try.prog 24 #[.int .i64 d, .slice A n c, .int .i64 x] w fun e w' => e = .returned (.bool r) ∧ w = w' := by
  have HB := Lib.hid hb
  have HN := Lib.hid hn
  clear hb hn
  by_cases hd : x < d
  · have HF : Hid (r = true) := Lib.hid (hr.out.2 (.inl hd))
    go_enter Try.func24, Try.ntmps24
    go_wp2
    go_ret
    exact ⟨by rw [HF.out]; rfl, rfl⟩
  · go_enter Try.func24, Try.ntmps24
    go_wp2
    go_loop [7] (fun i => ∃ k : Nat, k ≤ n ∧ i = .int .i64 k ∧ (inR l x ↔ inR (l.drop k) x)) (fun i => n - (intOf i).toNat)
    case atStart => exact ⟨0, Nat.zero_le _, rfl, by simp⟩
    case round =>
      obtain ⟨k, hk, rfl, hz⟩ := hrel
      have HZ := Lib.hid hz
      clear hz
      by_cases hlt : k < n
      · obtain ⟨⟨x1, x2⟩, hx, hdr⟩ := drop_at l k (by rw [HN.out]; exact hlt)
        obtain ⟨b, o, rfl, hbs, hc1, hc2⟩ := HB.out.at k _ hx
        have HD := Lib.hid hdr
        clear hx hdr
        simp only at hc1 hc2
        by_cases hin : x1 ≤ x ∧ x < x2
        · have HF : Hid (r = true) := Lib.hid (hr.out.2 (.inr (HZ.out.2 (by rw [HD.out]; exact (inR_cons _ _ _).2 (.inl hin)))))
          obtain ⟨g1, g2⟩ := hin
          go_wp2
          go_ret
          exact ⟨by rw [HF.out]; rfl, rfl⟩
        · have HF : Hid (inR l x ↔ inR (l.drop (k + 1)) x) := Lib.hid (by rw [HZ.out, HD.out, inR_cons]; simp only; exact ⟨fun h => h.elim (fun g => absurd g hin) id, .inr⟩)
          go_wp2
          all_goals
            go_round
            case rel => exact ⟨k + 1, by omega, by go_num, HF.out⟩
            case measure => simp [intOf]; omega
      · have HF : Hid (r = false) := Lib.hid (by
          rw [← Bool.not_eq_true, show r = true ↔ Came d l x from hr.out]
          rintro (g | g)
          · omega
          · have := HZ.out.1 g
            rw [List.drop_eq_nil_of_le (by rw [HN.out]; omega)] at this
            exact inR_nil _ this)
        go_wp2
        go_ret
        exact ⟨by rw [HF.out]; rfl, rfl⟩

end Go.Proofs.Ytdfidmdgdajgoaa
