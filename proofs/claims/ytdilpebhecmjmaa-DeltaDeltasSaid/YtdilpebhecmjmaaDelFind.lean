/-
  The program's alike, find.
-/
import Derived.Test.YtdilpebhecmjmaaDelMap
import Derived.Test.YtdilpebhecmjmaaDelMath
import Derived.Test.YtdilpebhecmjmaaPc
namespace Go.Proofs.Ytdilpebhecmjmaa
open Go.RowKit
set_option linter.unusedVariables false
set_option linter.unusedSimpArgs false

set_option maxHeartbeats 4000000 in
theorem alike_any (A : Option Addr) (n c : Nat) (B : Option Addr) (m d : Nat) (a b : List Int) (w : World) (ha : Ls byS w A a) (hb : Ls byS w B b) (hn : a.length = n) (hm : b.length = m) (hn4 : n ≤ 4096) :
    Calls Try.prog 24 #[.slice A n c, .slice B m d] w fun e w' => e = .returned (.int .i64 (alikeT a b : Nat)) ∧ Below w.heap.size w w' := by
  have HA := Lib.hid ha
  have HB := Lib.hid hb
  have HN := Lib.hid hn
  have HM := Lib.hid hm
  obtain ⟨R, hR⟩ : ∃ R, R = alikeT a b := ⟨_, rfl⟩
  have HR := Lib.hid hR
  rw [← hR]
  have HRN : Hid (R ≤ n) := Lib.hid (by rw [hR, ← hn]; exact alikeT_le1 _ _)
  clear ha hb hn hm hR
  go_enter Try.func24, Try.ntmps24
  go_wp2
  go_loopw [5] (fun i wr => ∃ k q : Nat, k ≤ R ∧ i = .int .i64 k ∧ wr = w.drewN q) (fun i _ => R - (intOf i).toNat)
  case atStart => exact ⟨0, 0, Nat.zero_le _, rfl, rfl⟩
  case round =>
    obtain ⟨k, q, hk, rfl, rfl⟩ := hrel
    have hb1 : Below w.heap.size w (w.drewN q) := below_drewN (Below.refl _ _) q
    have HST : Hid _ := Lib.hid (alikeT_step a b k (by rw [← HR.out]; exact hk))
    rw [← HR.out] at HST
    have hRn := HRN.out
    by_cases h1 : k < n
    · have h1i : (k : Int) < (n : Int) := by omega
      by_cases h2 : k < m
      · have h2i : (k : Int) < (m : Int) := by omega
        obtain ⟨x, hx⟩ : ∃ x, a[k]? = some x := ⟨_, List.getElem?_eq_getElem (by rw [HN.out]; exact h1)⟩
        obtain ⟨y, hy⟩ : ∃ y, b[k]? = some y := ⟨_, List.getElem?_eq_getElem (by rw [HM.out]; exact h2)⟩
        obtain ⟨b1, o1, rfl, hl1, g1⟩ := HA.out.one k x hx rfl (.int .u8 x) rfl
        obtain ⟨b2, o2, rfl, hl2, g2⟩ := HB.out.one k y hy rfl (.int .u8 y) rfl
        by_cases hxy : x = y
        · have hlt : k < R := HST.out.1 x y hx hy hxy
          subst hxy
          clear hx hy
          go_wp2
          go_quiet (fail)
          go_wp2
          go_roundw
          case rel => exact ⟨k + 1, _, by omega, by go_num, rfl⟩
          case measure => simp [intOf]; omega
        · have HE : Hid (R = k) := Lib.hid (HST.out.2 (.inr (.inr (by rw [hx, hy]; simpa using hxy))))
          have hxb : (x == y) = false := by simpa using hxy
          clear hx hy
          go_wp2
          go_quiet (fail)
          go_wp2
          go_ret
          exact ⟨by rw [HE.out]; rfl, below_drewN hb1 _⟩
      · have h2i : ¬ (k : Int) < (m : Int) := by omega
        have HE : Hid (R = k) := Lib.hid (HST.out.2 (.inr (.inl (List.getElem?_eq_none (by rw [HM.out]; omega)))))
        go_wp2
        go_quiet (fail)
        go_wp2
        go_ret
        exact ⟨by rw [HE.out]; rfl, below_drewN hb1 _⟩
    · have h1i : ¬ (k : Int) < (n : Int) := by omega
      have HE : Hid (R = k) := Lib.hid (HST.out.2 (.inl (List.getElem?_eq_none (by rw [HN.out]; omega))))
      go_wp2
      go_quiet (fail)
      go_wp2
      go_ret
      exact ⟨by rw [HE.out]; rfl, below_drewN hb1 _⟩

/-- a slice's first elements as an array -/
theorem wpList_toArr {ops : Array Oper} {rest : List Oper} {o : Oper} {a : Act} {Q : Exit → Act → World → Prop} (hg : o.guard = none) (w : World) (x : Operand) (hop : o.op = Op.sliceToArrayPointer 53 x)
    (A : Option Addr) (m c : Nat) (hx : a.eval x = .slice A m c) (hm : ¬ m < 8) (h : wpList Try.prog ops Q rest (a.put o.dst (.pointer A)) w) : wpList Try.prog ops Q (o :: rest) a w := by
  refine wpList_plain hg fun K' hK' => ?_
  unfold Oper.wp
  simp [execOp, hop, hx, Instr.arrayAt, run_underlying Try.underlying53, hm, Result.andThen]
  exact hK' _ _ h

/-- the places of runs, as the map tells them -/
def plM (file : List Int) (k : Nat) (kb : List Int) : List Int := (placesT file kb k).map fun i => ((i : Nat) : Int)
theorem plM_step (file : List Int) (k : Nat) (h : k + 8 ≤ file.length) : plM file (k + 1) = updM (plM file k) ((file.drop k).take 8) (plM file k ((file.drop k).take 8) ++ [(k : Int)]) := by
  funext kb
  unfold updM plM
  rw [placesT_succ]
  by_cases e : kb = (file.drop k).take 8
  · rw [if_pos ⟨h, e.symm⟩, if_pos e, e]; simp
  · rw [if_neg (fun g => e g.2.symm), if_neg e]; simp
theorem plM_end (file : List Int) (k : Nat) (h : file.length < k + 8) : ∀ m, k ≤ m → plM file m = plM file k
  | 0, hm => by rw [show k = 0 by omega]
  | m + 1, hm => by
    rcases Nat.lt_or_ge m k with g | g
    · rw [show k = m + 1 by omega]
    · rw [← plM_end file k h m g]
      funext kb
      unfold plM
      rw [placesT_succ, if_neg (by omega)]; simp
theorem take8 (file : List Int) (k : Nat) (h : k + 8 ≤ file.length) :
    ∃ a0 a1 a2 a3 a4 a5 a6 a7, (file.drop k).take 8 = [a0, a1, a2, a3, a4, a5, a6, a7] ∧ file[k]? = some a0 ∧ file[k + 1]? = some a1 ∧ file[k + 2]? = some a2 ∧ file[k + 3]? = some a3 ∧ file[k + 4]? = some a4 ∧ file[k + 5]? = some a5 ∧ file[k + 6]? = some a6 ∧ file[k + 7]? = some a7 := by
  have hl : ((file.drop k).take 8).length = 8 := by simp; omega
  obtain ⟨l, hle⟩ : ∃ l, l = (file.drop k).take 8 := ⟨_, rfl⟩
  have hg : ∀ j, j < 8 → file[k + j]? = l[j]? := fun j hj => by rw [hle, List.getElem?_take, if_pos hj, List.getElem?_drop]
  rw [← hle] at hl ⊢
  match l, hl with
  | [a0, a1, a2, a3, a4, a5, a6, a7], _ => exact ⟨a0, a1, a2, a3, a4, a5, a6, a7, rfl, hg 0 (by omega), hg 1 (by omega), hg 2 (by omega), hg 3 (by omega), hg 4 (by omega), hg 5 (by omega), hg 6 (by omega), hg 7 (by omega)⟩

end Go.Proofs.Ytdilpebhecmjmaa
