/-
  Contracts of package hole: May, Gaps, join, Add.
-/
import Derived.Test.YtdfidmdgdajgoaaRg
namespace Go.Proofs.Ytdfidmdgdajgoaa
open Go.RowKit
set_option linter.unusedVariables false

theorem bthen {w a b : World} (h : Below w.heap.size w a) (k : Below a.heap.size a b) : Below w.heap.size w b := h.trans (k.mono h.size)
theorem bthen' {w a b : World} {B : Nat} (h : Below w.heap.size w a) (hB : w.heap.size ≤ B) (k : Below B a b) : Below w.heap.size w b := h.trans (k.mono hB)

theorem drop_at {α : Type} (l : List α) (k : Nat) (hk : k < l.length) : ∃ x, l[k]? = some x ∧ l.drop k = x :: l.drop (k + 1) :=
  ⟨l[k], List.getElem?_eq_getElem hk, by rw [List.drop_eq_getElem_cons hk]⟩

theorem may_any (d : Int) (A : Option Addr) (n c : Nat) (l : List Rg) (w : World) (hb : Rs w A l) (hn : l.length = n) (h47 : n ≤ 140737488355328) :
    Calls Try.prog 11 #[.int .i64 d, .slice A n c] w fun e w' => e = .returned (.bool (mayB d l)) ∧ Below w.heap.size w w' := by
  have HB := Lib.hid hb
  have HN := Lib.hid hn
  clear hb hn
  by_cases h0 : 0 ≤ d ∧ d ≤ 1048576 ∧ n ≤ 16
  · obtain ⟨h0, h1, h2⟩ := h0
    have HM : Hid (mayB d l = okB d l) := Lib.hid (by unfold mayB; have := HN.out; simp only [h0, h1, decide_true, Bool.true_and]; simp; intro; omega)
    go_enter Try.func11, Try.ntmps11
    go_wp2
    go_loopw [5, 22] (fun e i wr => ∃ (k : Nat) (z : Int), k ≤ n ∧ i = .int .i64 k ∧ e = .int .i64 z ∧ okB d l = okB z (l.drop k) ∧ Below w.heap.size w wr) (fun _ i _ => n - (intOf i).toNat)
    case atStart => exact ⟨0, d, Nat.zero_le _, rfl, rfl, rfl, Below.refl _ _⟩
    case round =>
      obtain ⟨k, z, hk, rfl, rfl, hz, hb1⟩ := hrel
      have HZ := Lib.hid hz
      clear hz
      by_cases hlt : k < n
      · obtain ⟨⟨x1, x2⟩, hx, hd⟩ := drop_at l k (by rw [HN.out]; exact hlt)
        obtain ⟨b, o, rfl, hbs, hc1, hc2⟩ := (HB.out.below hb1).at k _ hx
        have HD := Lib.hid hd
        clear hd hx
        simp only at hc1 hc2
        by_cases hok : z < x1 ∧ x1 < x2 ∧ x2 ≤ 1048576
        · obtain ⟨g1, g2, g3⟩ := hok
          go_wp2
          go_roundw
          case rel => exact ⟨k + 1, x2, by omega, by go_num, rfl, by rw [HZ.out, HD.out]; simp [okB, g1, g2, g3], hb1.alloc hb1.size _⟩
          case measure => simp [intOf]; omega
        · have hf : Hid (mayB d l = false) := Lib.hid (by rw [HM.out, HZ.out, HD.out]; simp only [okB, Bool.and_eq_false_iff, decide_eq_false_iff_not]; omega)
          go_wp2
          all_goals
            go_ret
            exact ⟨by rw [hf.out]; rfl, hb1.alloc hb1.size _⟩
      · have hf : Hid (mayB d l = true) := Lib.hid (by rw [HM.out, HZ.out, List.drop_eq_nil_of_le (by rw [HN.out]; omega)]; rfl)
        go_wp2
        go_ret
        exact ⟨by rw [hf.out]; rfl, hb1⟩
  · have hf : Hid (mayB d l = false) := Lib.hid (by unfold mayB; simp only [Bool.and_eq_false_iff, decide_eq_false_iff_not]; have := HN.out; omega)
    go_enter Try.func11, Try.ntmps11
    go_wp2
    all_goals
      go_ret
      exact ⟨by rw [hf.out]; rfl, Below.refl _ _⟩

theorem drop_prev (d : Int) (l : List Rg) (k : Nat) (x : Rg) (h : l[k]? = some x) (hk : 0 < k) : ∃ y, l[k - 1]? = some y := by
  have := (List.getElem?_eq_some_iff.1 h).1
  exact ⟨l[k - 1], List.getElem?_eq_getElem (by omega)⟩
/-- the To of the range ahead of the k-th one -/
def prevTo (d : Int) (l : List Rg) (k : Nat) : Int := match k with
  | 0 => d
  | j + 1 => (l.getD j (0, 0)).2
theorem prevTo_succ (d : Int) (l : List Rg) (k : Nat) (x : Rg) (h : l[k]? = some x) : prevTo d l (k + 1) = x.2 := by simp [prevTo, h]

theorem refMay_any (d : Int) (A : Option Addr) (n c : Nat) (l : List Rg) (w : World) (hb : Rs w A l) (hn : l.length = n) (h47 : n ≤ 140737488355328) :
    Calls Try.prog 12 #[.int .i64 d, .slice A n c] w fun e w' => e = .returned (.bool (mayB d l)) ∧ Below w.heap.size w w' := by
  have HB := Lib.hid hb
  have HN := Lib.hid hn
  clear hb hn
  by_cases h0 : 0 ≤ d ∧ d ≤ 1048576 ∧ n ≤ 16
  · obtain ⟨h0, h1, h2⟩ := h0
    have HM : Hid (mayB d l = okB d l) := Lib.hid (by unfold mayB; have := HN.out; simp only [h0, h1, decide_true, Bool.true_and]; simp; intro; omega)
    go_enter Try.func12, Try.ntmps12
    go_wp2
    go_loopw [21] (fun i wr => ∃ (k : Nat), k ≤ n ∧ i = .int .i64 k ∧ okB d l = okB (prevTo d l k) (l.drop k) ∧ Below w.heap.size w wr) (fun i _ => n - (intOf i).toNat)
    case atStart => exact ⟨0, Nat.zero_le _, rfl, rfl, Below.refl _ _⟩
    case round =>
      obtain ⟨k, hk, rfl, hz, hb1⟩ := hrel
      have HZ := Lib.hid hz
      clear hz
      by_cases hlt : k < n
      · obtain ⟨⟨x1, x2⟩, hx, hd⟩ := drop_at l k (by rw [HN.out]; exact hlt)
        obtain ⟨b, o, rfl, hbs, hc1, hc2⟩ := (HB.out.below hb1).at k _ hx
        have HD := Lib.hid hd
        have HX := Lib.hid hx
        clear hd hx
        simp only at hc1 hc2
        obtain ⟨z, hz⟩ : ∃ z, z = prevTo d l k := ⟨_, rfl⟩
        have HP := Lib.hid hz
        clear hz
        have fin : Hid (z < x1 ∧ x1 < x2 ∧ x2 ≤ 1048576 → okB d l = okB x2 (l.drop (k + 1))) := Lib.hid fun ⟨g1, g2, g3⟩ => by rw [HZ.out, HD.out, ← HP.out]; simp [okB, g1, g2, g3]
        have fin2 : Hid (¬ (z < x1 ∧ x1 < x2 ∧ x2 ≤ 1048576) → mayB d l = false) := Lib.hid fun hno => by rw [HM.out, HZ.out, HD.out, ← HP.out]; simp only [okB, Bool.and_eq_false_iff, decide_eq_false_iff_not]; omega
        rcases Nat.eq_zero_or_pos k with hk0 | hk0
        · subst hk0
          obtain rfl : z = d := HP.out
          simp only [Nat.zero_mul, Nat.add_zero] at hc1 hc2
          by_cases hok : z < x1 ∧ x1 < x2 ∧ x2 ≤ 1048576
          · have F := Lib.hid (fin.out hok)
            clear fin fin2
            obtain ⟨g1, g2, g3⟩ := hok
            go_wp2
            go_roundw
            case rel => exact ⟨1, by omega, by go_num, by rw [F.out]; rw [prevTo_succ z l 0 _ HX.out], hb1.alloc hb1.size _⟩
            case measure => simp [intOf]; omega
          · have F := Lib.hid (fin2.out hok)
            clear fin fin2
            go_wp2
            all_goals
              go_ret
              exact ⟨by rw [F.out]; rfl, hb1.alloc hb1.size _⟩
        · obtain ⟨⟨y1, y2⟩, hy⟩ := drop_prev d l k _ HX.out hk0
          obtain ⟨b', o', hA, _, hc3, hc4⟩ := (HB.out.below hb1).at (k - 1) _ hy
          obtain ⟨rfl, rfl⟩ : b = b' ∧ o = o' := by injection hA with hA; injection hA with h1 h2 h3; exact ⟨h1, h2⟩
          clear hA
          obtain rfl : z = y2 := by rw [HP.out, show k = (k - 1) + 1 by omega, prevTo_succ d l (k - 1) _ hy]
          clear hy
          simp only at hc3 hc4
          by_cases hok : z < x1 ∧ x1 < x2 ∧ x2 ≤ 1048576
          · have F := Lib.hid (fin.out hok)
            clear fin fin2
            obtain ⟨g1, g2, g3⟩ := hok
            go_wp2
            go_roundw
            case rel => exact ⟨k + 1, by omega, by go_num, by rw [F.out]; rw [prevTo_succ d l k _ HX.out], hb1.alloc hb1.size _⟩
            case measure => simp [intOf]; omega
          · have F := Lib.hid (fin2.out hok)
            clear fin fin2
            go_wp2
            all_goals
              go_ret
              exact ⟨by rw [F.out]; rfl, hb1.alloc hb1.size _⟩
      · have hf : Hid (mayB d l = true) := Lib.hid (by rw [HM.out, HZ.out, List.drop_eq_nil_of_le (by rw [HN.out]; omega)]; rfl)
        go_wp2
        go_ret
        exact ⟨by rw [hf.out]; rfl, hb1⟩
  · have hf : Hid (mayB d l = false) := Lib.hid (by unfold mayB; simp only [Bool.and_eq_false_iff, decide_eq_false_iff_not]; have := HN.out; omega)
    go_enter Try.func12, Try.ntmps12
    go_wp2
    all_goals
      go_ret
      exact ⟨by rw [hf.out]; rfl, Below.refl _ _⟩

end Go.Proofs.Ytdfidmdgdajgoaa
