/-
  slices.Backward at ranges: the iterator over a slice from behind.
-/
import Derived.Test.YtehckiihipnimaaKit
import Derived.Test.YtehckiihipnimaaRg
import Derived.RangeFuncBox
import Derived.RangeFuncNested
import Derived.RangeFuncBound
import Derived.RangeFuncCalls
import Derived.RangeFuncLeaves
import Derived.Shelf.Abstract
import Derived.Shelf.RegionOpen
import Derived.OwnWalkIn
import Derived.TacticsInMore
import Derived.LoopNIn
import Derived.LoopIn
namespace Go.Proofs.Ytehckiihipnimaa
open Go.RowKit Go.Shelf
set_option linter.unusedVariables false
set_option linter.unusedSimpArgs false
attribute [local go_sem] Oper.semAt_some

/-- what a round that goes on keeps -/
structure Keeping (Kp : World → World → Prop) (n₀ Bs : Nat) : Prop where
  refl : ∀ A, Kp A A
  trans : ∀ A B C, Kp A B → Kp B C → Kp A C
  below : ∀ A B, Kp A B → Below n₀ A B
  box : ∀ A B, Kp A B → B.cell? ⟨Bs, 0, none⟩ = A.cell? ⟨Bs, 0, none⟩

/-- what has come when k rounds are over -/
def upto (l : List Rg) (k : Nat) : List (Nat × Rg) := (List.range k).map fun j => (l.length - 1 - j, l[l.length - 1 - j]?.getD (0, 0))
theorem upto_succ (l : List Rg) (k : Nat) : upto l (k + 1) = upto l k ++ [(l.length - 1 - k, l[l.length - 1 - k]?.getD (0, 0))] := by simp [upto, List.range_succ]
theorem upto_length (l : List Rg) (k : Nat) : (upto l k).length = k := by simp [upto]
theorem upto_rev (l : List Rg) : (upto l l.length).map (·.2) = l.reverse := by
  apply List.ext_getElem
  · simp [upto]
  · intro i h1 h2
    have : l.length - 1 - i < l.length := by simp [upto] at h1; omega
    simp [upto, this]

def encB (x : Nat × Rg) : Array Value := #[.int .i64 (x.1 : Int), .agg #[.int .i64 x.2.1, .int .i64 x.2.2]]

set_option maxRecDepth 100000 in
set_option maxHeartbeats 2000000 in
theorem bw1_in (F : Fence) (m : Nat) (hf : F.fn 90) (hro : F.round = none) (hm : 1 ≤ m) (lp Bs n₀ n c : Nat) (A : Option Addr) (l : List Rg) (hl : l.length = n) (hn : n ≤ 1000000) (Kp : World → World → Prop) (hK : Keeping Kp n₀ Bs) (J Jx : List (Nat × Rg) → World → Prop)
    (hY : ∀ pre x W, J pre W → pre.length < n → YieldAt F (m - 1) Try.prog lp (encB x) W fun e W' =>
      (e = .returned (.bool true) ∧ J (pre ++ [x]) W' ∧ Kp W W') ∨ (e = .returned (.bool false) ∧ Jx (pre ++ [x]) W'))
    (W : World) (hBs : W.cell? ⟨Bs, 0, none⟩ = some (.slice A n c)) (hA : ∀ k x, l[k]? = some x → ∃ b o, A = some ⟨b, o, none⟩ ∧ b < n₀ ∧ W.cell? ⟨b, o + k * 2, none⟩ = some (.int .i64 x.1) ∧ W.cell? ⟨b, o + k * 2 + 1, none⟩ = some (.int .i64 x.2)) (h0 : J [] W) :
    CallsIn F m Try.prog 90 #[.func (.yield lp) #[] #[], .pointer (some ⟨Bs, 0, none⟩)] W fun e W' => (∃ v, e = .returned v) ∧
      ((∃ ys, ys = upto l n ∧ J ys W') ∨ (∃ pre, (∃ k, k ≤ n ∧ pre = upto l k) ∧ Jx pre W')) := by
  refine callsIn_of_wp Try.func90 rfl hf ?_ hro
  simp only [Try.ntmps90, List.size_toArray, List.length_cons, List.length_nil, Nat.reduceAdd, Nat.reduceSub, Array.replicate_succ, Array.replicate_zero, List.push_toArray, List.append_toArray, List.nil_append, List.cons_append]
  have HA := Lib.hid hA; have HL := Lib.hid hl; have HY := Lib.hid hY
  clear hA hl hY
  gi_wp2
  gi_loopw [3] (fun i wr => ∃ k : Nat, k ≤ n ∧ i = .int .i64 ((n : Int) - 1 - k) ∧ J (upto l k) wr ∧ Kp W wr) (fun i _ => (intOf i + 1).toNat)
  case atStart => exact ⟨0, Nat.zero_le _, by simp, h0, hK.refl _⟩
  case round =>
    obtain ⟨k, hk, rfl, hJs, hnx⟩ := hrel
    have hbx := (hK.box _ _ hnx).trans hBs
    have hnb := hK.below _ _ hnx
    by_cases hlt : k < n
    · obtain ⟨j, hj⟩ : ∃ j, j = n - 1 - k := ⟨_, rfl⟩
      rw [show (n : Int) - 1 - (k : Int) = (j : Int) by omega]
      obtain ⟨x, hx⟩ : ∃ x, l[j]? = some x := ⟨l[j]'(by have := HL.out; omega), List.getElem?_eq_getElem _⟩
      obtain ⟨b, o, hAe, hb, hc1, hc2⟩ := HA.out j x hx
      subst hAe
      have hd1 := (hnb.cell (p := ⟨b, o + j * 2, none⟩) hb).trans hc1
      have hd2 := (hnb.cell (p := ⟨b, o + j * 2 + 1, none⟩) hb).trans hc2
      have hup : upto l (k + 1) = upto l k ++ [(j, x)] := by rw [upto_succ, HL.out, ← hj, hx]; rfl
      obtain ⟨fn, tmps, assign, body, hy, hR⟩ := HY.out _ (j, x) wr hJs (by rw [upto_length]; exact hlt)
      dsimp only [encB] at hy
      have j0 : (0 : Int) ≤ (j : Int) := by omega
      have j1 : (j : Int) < (n : Int) := by omega
      have HJ := Lib.hid hj; have HX := Lib.hid hx; have HUP := Lib.hid hup
      clear hj hx hup hc1 hc2
      gi_wp2
      refine hR.mono ?_
      rintro e W3 (⟨rfl, hJ3, hk3⟩ | ⟨rfl, hJx3⟩)
      · gi_wp2
        go_roundw
        case rel => exact ⟨k + 1, by omega, congrArg (Value.int .i64) (by have := HJ.out; omega), by rw [HUP.out]; exact hJ3, hK.trans _ _ _ hnx hk3⟩
        case measure => simp [intOf] <;> omega
      · gi_wp2
        refine bodyPost_ret (results_none rfl _ _ _) rfl ?_
        exact ⟨⟨_, rfl⟩, .inr ⟨_, ⟨k + 1, by omega, HUP.out.symm⟩, hJx3⟩⟩
    · obtain rfl : k = n := by omega
      rw [show (k : Int) - 1 - (k : Int) = -1 by omega]
      gi_wp2
      go_end0
      exact ⟨⟨_, rfl⟩, .inl ⟨_, rfl, hJs⟩⟩

theorem bw_in (F : Fence) (m : Nat) (hf : F.fn 77) (hro : F.round = none) (a : Option Addr) (len cap : Nat) (w : World) :
    CallsIn F m Try.prog 77 #[.slice a len cap] w fun e w' => e = .returned (.func (.func 90) #[] #[.pointer (some ⟨w.heap.size, 0, none⟩)]) ∧ w' = w.alloc (.cells #[.slice a len cap] 37) := by
  refine callsIn_of_wp Try.func77 rfl hf ?_ hro
  simp only [Try.ntmps77, List.size_toArray, List.length_cons, List.length_nil, Nat.reduceAdd, Nat.reduceSub, Array.replicate_succ, Array.replicate_zero, List.push_toArray, List.append_toArray, List.nil_append, List.cons_append]
  gi_wp2
  go_ret
  exact ⟨rfl, rfl⟩

theorem bw_stops (F : Fence) (m : Nat) (hf : F.fn 90) (hro : F.round = none) (hm : 1 ≤ m) (Bs n₀ n c : Nat) (A : Option Addr) (l : List Rg) (hl : l.length = n) (hn : n ≤ 1000000) (Kp : World → World → Prop) (hK : Keeping Kp n₀ Bs) (w : World) (hBn : Bs < w.heap.size) (hn₀ : n₀ ≤ w.heap.size)
    (hc : w.cell? ⟨Bs, 0, none⟩ = some (.slice A n c)) (hA : ∀ k x, l[k]? = some x → ∃ b o, A = some ⟨b, o, none⟩ ∧ b < n₀ ∧ w.cell? ⟨b, o + k * 2, none⟩ = some (.int .i64 x.1) ∧ w.cell? ⟨b, o + k * 2 + 1, none⟩ = some (.int .i64 x.2)) :
    SeqStopsK F m Try.prog 90 #[.pointer (some ⟨Bs, 0, none⟩)] encB Kp (fun ys => ys = upto l n) (fun pre => ∃ k, k ≤ n ∧ pre = upto l k) n w := fun lp J Jx W hW _ _ hY h0 => by
  have hW' := hW.mono hn₀
  refine (bw1_in F m hf hro hm lp Bs n₀ n c A l hl hn Kp hK J Jx hY W ((hW.cell (p := ⟨Bs, 0, none⟩) hBn).trans hc) (fun k x hx => by
    obtain ⟨b, o, e, hb, h1, h2⟩ := hA k x hx
    exact ⟨b, o, e, hb, (hW'.cell (p := ⟨b, o + k * 2, none⟩) hb).trans h1, (hW'.cell (p := ⟨b, o + k * 2 + 1, none⟩) hb).trans h2⟩) h0).mono ?_
  rintro e W' ⟨he, ⟨ys, h1, hj⟩ | ⟨pre, h1, hj⟩⟩
  · exact ⟨he, .inl ⟨_, h1, hj⟩⟩
  · exact ⟨he, .inr ⟨_, h1, hj⟩⟩

end Go.Proofs.Ytehckiihipnimaa
