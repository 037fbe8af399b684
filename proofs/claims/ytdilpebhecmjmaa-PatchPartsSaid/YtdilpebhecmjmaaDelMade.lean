/-
  The program's made: the bytes that a piece makes of the bytes old.
-/
import Derived.Test.YtdilpebhecmjmaaPc
namespace Go.Proofs.Ytdilpebhecmjmaa
open Go.RowKit
set_option linter.unusedVariables false
set_option linter.unusedSimpArgs false

/-- what made answers -/
def RetMd (w : World) (r : Int × List Int) (e : Ending) (w' : World) : Prop :=
  ∃ A m c, e = .returned (.tuple #[.slice A m c, .int .i64 r.1]) ∧ Ls byS w' A r.2 ∧ r.2.length = m ∧ Below w.heap.size w w'
set_option maxHeartbeats 4000000 in
theorem made_any (A : Option Addr) (n c : Nat) (old : List Int) (x : Pv) (w : World) (ha : Ls byS w A old) (hn : old.length = n) (hc : n ≤ c) (h48 : n ≤ 2048)
    (hx : Ls byS w x.A x.p.data) (hxn : x.p.data.length = x.n) (hx47 : x.n ≤ 140737488355328) (hf : i64in x.p.from_) (hl : i64in x.p.len) :
    Calls Try.prog 23 #[.slice A n c, .agg #[.bool x.p.copy, .int .i64 x.p.from_, .int .i64 x.p.len, .slice x.A x.n x.c]] w (RetMd w (madeT old x.p)) := by
  obtain ⟨⟨cp, fr, ln, da⟩, XA, xn, xc⟩ := x
  simp only at hx hxn hx47 hf hl ⊢
  obtain ⟨f1, f2⟩ := hf
  obtain ⟨l1, l2⟩ := hl
  have HA := Lib.hid ha
  have HN := Lib.hid hn
  have HX := Lib.hid hx
  have HXN := Lib.hid hxn
  obtain ⟨r, hr⟩ : ∃ r, r = madeT old ⟨cp, fr, ln, da⟩ := ⟨_, rfl⟩
  rw [← hr]
  have HR := Lib.hid hr
  have hda : da = [] ↔ xn = 0 := by rw [← hxn]; simp
  clear ha hn hx hxn hr
  rcases cp with _ | _
  · by_cases h0 : fr = 0
    · by_cases h1 : ln = 0
      · subst h0; subst h1
        have HE : Hid (r = (0, da)) := Lib.hid (by rw [HR.out]; simp [madeT])
        have hw : ¬ ((n : Int) < 0) := by omega
        clear hda
        go_enter Try.func23, Try.ntmps23
        go_wp2
        go_ret2
        exact ⟨XA, xn, xc, by rw [HE.out]; rfl, by rw [HE.out]; exact HX.out.below (ba1 _ _), by rw [HE.out]; exact HXN.out, ba1 _ _⟩
      · subst h0
        have HE : Hid (r = (4, [])) := Lib.hid (by rw [HR.out]; simp [madeT, h1])
        clear hda
        go_enter Try.func23, Try.ntmps23
        go_wp2
        go_ret2
        exact ⟨none, 0, 0, by rw [HE.out]; rfl, by rw [HE.out]; exact Ls.nil _ _, by rw [HE.out]; rfl, ba1 _ _⟩
    · have HE : Hid (r = (4, [])) := Lib.hid (by rw [HR.out]; simp [madeT, h0])
      clear hda
      go_enter Try.func23, Try.ntmps23
      go_wp2
      go_ret2
      exact ⟨none, 0, 0, by rw [HE.out]; rfl, by rw [HE.out]; exact Ls.nil _ _, by rw [HE.out]; rfl, ba1 _ _⟩
  · by_cases hx0 : xn = 0
    · obtain rfl : da = [] := hda.2 hx0
      subst hx0
      have hT : fr ≠ 0 ∨ (fr = 0 ∧ ln ≠ 0) ∨ (fr = 0 ∧ ln = 0) := by
        by_cases h0 : fr = 0
        · by_cases h1 : ln = 0
          · exact .inr (.inr ⟨h0, h1⟩)
          · exact .inr (.inl ⟨h0, h1⟩)
        · exact .inl h0
      by_cases g1 : fr < 0
      · have HE : Hid (r = (2, [])) := Lib.hid (by rw [HR.out]; simp [madeT, g1])
        have ht : ¬ fr = 0 := by omega
        clear hda hT
        go_enter Try.func23, Try.ntmps23
        go_wp2
        go_ret2
        exact ⟨none, 0, 0, by rw [HE.out]; rfl, by rw [HE.out]; exact Ls.nil _ _, by rw [HE.out]; rfl, ba1 _ _⟩
      by_cases g2 : ln < 0
      · have HE : Hid (r = (2, [])) := Lib.hid (by rw [HR.out]; simp [madeT, g2])
        have ht1 : ¬ ln = 0 := by omega
        clear hda
        rcases hT with ht | ⟨rfl, ht⟩ | ⟨rfl, rfl⟩
        · go_enter Try.func23, Try.ntmps23
          go_wp2
          go_ret2
          exact ⟨none, 0, 0, by rw [HE.out]; rfl, by rw [HE.out]; exact Ls.nil _ _, by rw [HE.out]; rfl, ba1 _ _⟩
        · go_enter Try.func23, Try.ntmps23
          go_wp2
          go_ret2
          exact ⟨none, 0, 0, by rw [HE.out]; rfl, by rw [HE.out]; exact Ls.nil _ _, by rw [HE.out]; rfl, ba1 _ _⟩
        · omega
      obtain ⟨f, rfl⟩ : ∃ f : Nat, fr = (f : Int) := ⟨fr.toNat, by omega⟩
      obtain ⟨m, rfl⟩ : ∃ m : Nat, ln = (m : Int) := ⟨ln.toNat, by omega⟩
      have hw1 : IntKind.i64.wrap ((n : Int) - (f : Int)) = (n : Int) - (f : Int) := by rw [IntKind.wrap_i64]; omega
      by_cases g3 : (n : Int) - (f : Int) < (m : Int)
      · have HE : Hid (r = (2, [])) := Lib.hid (by rw [HR.out, madeT, if_neg (by simp), if_pos (by rw [HN.out]; exact .inr (.inr g3))])
        clear hda
        rcases hT with ht | ⟨h0, ht⟩ | ⟨h0, h1⟩
        · go_enter Try.func23, Try.ntmps23
          go_wp2
          go_ret2
          exact ⟨none, 0, 0, by rw [HE.out]; rfl, by rw [HE.out]; exact Ls.nil _ _, by rw [HE.out]; rfl, ba1 _ _⟩
        · go_enter Try.func23, Try.ntmps23
          go_wp2
          go_ret2
          exact ⟨none, 0, 0, by rw [HE.out]; rfl, by rw [HE.out]; exact Ls.nil _ _, by rw [HE.out]; rfl, ba1 _ _⟩
        · omega
      · have HE : Hid (r = (0, (old.drop f).take m)) := Lib.hid (by rw [HR.out, madeT, if_neg (by simp), if_neg (by rw [HN.out]; simp only; omega)]; simp)
        have hw2 : IntKind.i64.wrap ((f : Int) + (m : Int)) = ((f + m : Nat) : Int) := by rw [IntKind.wrap_i64]; omega
        have hm1 : m ≤ n := by omega
        clear hda hT
        by_cases h0 : f = 0
        · subst h0
          have hw3 : IntKind.i64.wrap ((0 : Int) + (m : Int)) = (m : Int) := by rw [IntKind.wrap_i64]; omega
          have v0 : (0 : Int) ≤ (m : Int) := by omega
          have v3 : (m : Int) ≤ (c : Int) := by omega
          have HL : Hid (∀ w', Below w.heap.size w w' → Ls byS w' A ((old.drop 0).take m)) := Lib.hid fun w' hb => (HA.out.below hb).take m
          have HM : Hid (((old.drop 0).take m).length = m) := Lib.hid (by rw [List.length_take, List.length_drop, HN.out]; omega)
          clear hw1 hw2
          by_cases h1 : m = 0
          · subst h1
            clear hw3
            go_enter Try.func23, Try.ntmps23
            go_wp2
            go_ret2
            exact ⟨_, _, _, by rw [HE.out]; rfl, by rw [HE.out]; exact HL.out _ (ba1 _ _), by rw [HE.out]; exact HM.out, ba1 _ _⟩
          · go_enter Try.func23, Try.ntmps23
            go_wp2
            go_ret2
            exact ⟨_, _, _, by rw [HE.out]; rfl, by rw [HE.out]; exact HL.out _ (ba1 _ _), by rw [HE.out]; exact HM.out, ba1 _ _⟩
        · obtain ⟨fm, hfm⟩ : ∃ k, k = f + m := ⟨_, rfl⟩
          rw [← hfm] at hw2
          have v1 : (0 : Int) ≤ (f : Int) := by omega
          have v2 : (f : Int) ≤ (fm : Int) := by omega
          have v3 : (fm : Int) ≤ (c : Int) := by omega
          have v0 : (0 : Int) ≤ (fm : Int) := by omega
          have HM : Hid (((old.drop f).take m).length = m) := Lib.hid (by rw [List.length_take, List.length_drop, HN.out]; omega)
          have hl0 := fun w' (hb : Below w.heap.size w w') => ls_cut (HA.out.below hb) f m c (by rw [HN.out]; exact hc)
          by_cases hcf : c = f
          · have HL : Hid (∀ w', Below w.heap.size w w' → Ls byS w' A ((old.drop f).take m)) := Lib.hid fun w' hb => by have := hl0 w' hb; rw [if_pos hcf] at this; exact this
            clear hl0
            go_enter Try.func23, Try.ntmps23
            go_wp2
            go_ret2
            exact ⟨_, _, _, by rw [HE.out]; rfl, by rw [HE.out]; exact HL.out _ (ba1 _ _), by rw [HE.out]; exact HM.out, ba1 _ _⟩
          · have HL : Hid (∀ w', Below w.heap.size w w' → Ls byS w' (A.map fun x => x.add f) ((old.drop f).take m)) := Lib.hid fun w' hb => by have := hl0 w' hb; rw [if_neg hcf, Nat.mul_one] at this; exact this
            clear hl0
            go_enter Try.func23, Try.ntmps23
            go_wp2
            go_ret2
            exact ⟨_, _, _, by rw [HE.out]; rfl, by rw [HE.out]; exact HL.out _ (ba1 _ _), by rw [HE.out]; exact HM.out, ba1 _ _⟩
    · have HE : Hid (r = (4, [])) := Lib.hid (by rw [HR.out]; simp [madeT, hda, hx0])
      have hxp : (0 : Int) < (xn : Int) := by omega
      clear hda
      by_cases h0 : fr = 0
      · by_cases h1 : ln = 0
        · go_enter Try.func23, Try.ntmps23
          go_wp2
          go_ret2
          exact ⟨none, 0, 0, by rw [HE.out]; rfl, by rw [HE.out]; exact Ls.nil _ _, by rw [HE.out]; rfl, ba1 _ _⟩
        · go_enter Try.func23, Try.ntmps23
          go_wp2
          go_ret2
          exact ⟨none, 0, 0, by rw [HE.out]; rfl, by rw [HE.out]; exact Ls.nil _ _, by rw [HE.out]; rfl, ba1 _ _⟩
      · go_enter Try.func23, Try.ntmps23
        go_wp2
        go_ret2
        exact ⟨none, 0, 0, by rw [HE.out]; rfl, by rw [HE.out]; exact Ls.nil _ _, by rw [HE.out]; rfl, ba1 _ _⟩

end Go.Proofs.Ytdilpebhecmjmaa
