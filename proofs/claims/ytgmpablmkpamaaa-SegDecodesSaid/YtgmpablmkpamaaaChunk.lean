/-
  slices.Chunk at bytes, by fours: the iterator.
-/
import Derived.Test.YtgmpablmkpamaaaSeg7
import Derived.Test.YtgmpablmkpamaaaRound
import Derived.RangeFuncBox
import Derived.RangeFuncNested
import Derived.RangeFuncBound
import Derived.RangeFuncCalls
import Derived.RangeFuncLeaves
import Derived.Shelf.Abstract
import Derived.Shelf.RegionOpen
import Derived.OwnWalkIn
import Derived.TacticsInMore
import Derived.LoopNIn
import Derived.LoopIn
import Derived.Sort.QuietIn
namespace Go.Proofs.Ytgmpablmkpamaaa
open Go.RowKit Go.Shelf
set_option linter.unusedVariables false
set_option linter.unusedSimpArgs false
attribute [local go_sem] Oper.semAt_some

/-- what a round that goes on keeps -/
structure Keeping (Kp : World → World → Prop) (n₀ Bs Bn : Nat) : Prop where
  refl : ∀ A, Kp A A
  trans : ∀ A B C, Kp A B → Kp B C → Kp A C
  below : ∀ A B, Kp A B → Below n₀ A B
  box : ∀ A B, Kp A B → B.cell? ⟨Bs, 0, none⟩ = A.cell? ⟨Bs, 0, none⟩
  box2 : ∀ A B, Kp A B → B.cell? ⟨Bn, 0, none⟩ = A.cell? ⟨Bn, 0, none⟩
  drew : ∀ A k, Kp A (A.drewN k)

def encC (b o : Nat) {cnt : Nat} (k : Fin cnt) : Array Value := #[.slice (some ⟨b, o + 4 * k.1, none⟩) 4 4]
/-- the first k of them -/
def Firsts {cnt : Nat} (k : Nat) (pre : List (Fin cnt)) : Prop := pre.map (·.1) = List.range k
theorem drewN_cell (w : World) (a : Addr) : ∀ n, (w.drewN n).cell? a = w.cell? a
  | 0 => rfl
  | n + 1 => by first | exact drewN_cell w.drew a n | exact drewN_cell w a n
theorem drewN_grown (w : World) (n : Nat) (row : Option Nat) : w.grownBy (w.drewN n) row := ⟨rfl, rfl, rfl, Nat.le_refl _, fun _ _ _ => rfl⟩

set_option maxRecDepth 100000 in
set_option maxHeartbeats 2000000 in
theorem ck1_in (m : Nat) (hm : 1 ≤ m) (lp Bs Bn n₀ n c cnt b o : Nat) (hl : n = 4 * cnt) (hn : n ≤ 1000000) (hc : n ≤ c) (Kp : World → World → Prop) (hK : Keeping Kp n₀ Bs Bn) (J Jx : List (Fin cnt) → World → Prop)
    (hY : ∀ pre x W, J pre W → pre.length < cnt → YieldAt Fence.wide (m - 1) Try.prog lp (encC b o x) W fun e W' =>
      (e = .returned (.bool true) ∧ J (pre ++ [x]) W' ∧ Kp W W') ∨ (e = .returned (.bool false) ∧ Jx (pre ++ [x]) W'))
    (hJ : ∀ pre W k, J pre W → J pre (W.drewN k))
    (W : World) (hBs : W.cell? ⟨Bs, 0, none⟩ = some (.slice (some ⟨b, o, none⟩) n c)) (hBn : W.cell? ⟨Bn, 0, none⟩ = some (.int .i64 4)) (h0 : J [] W) :
    CallsIn Fence.wide m Try.prog 47 #[.func (.yield lp) #[] #[], .pointer (some ⟨Bs, 0, none⟩), .pointer (some ⟨Bn, 0, none⟩)] W fun e W' => (∃ v, e = .returned v) ∧
      ((∃ ys, Firsts cnt ys ∧ J ys W') ∨ (∃ pre, (∃ k, k ≤ cnt ∧ Firsts k pre) ∧ Jx pre W')) := by
  refine callsIn_of_wp Try.func47 rfl trivial ?_ rfl
  simp only [Try.ntmps47, List.size_toArray, List.length_cons, List.length_nil, Nat.reduceAdd, Nat.reduceSub, Array.replicate_succ, Array.replicate_zero, List.push_toArray, List.append_toArray, List.nil_append, List.cons_append]
  have HL := Lib.hid hl; have HY := Lib.hid hY; have HJ := Lib.hid hJ
  clear hl hY hJ
  gi_wp2
  gi_loopw [4] (fun i wr => ∃ k : Nat, k ≤ cnt ∧ i = .int .i64 ((4 * k : Nat) : Int) ∧ (∃ pre, Firsts k pre ∧ J pre wr) ∧ Kp W wr) (fun i _ => n - (intOf i).toNat)
  case atStart => exact ⟨0, Nat.zero_le _, by simp, ⟨[], rfl, h0⟩, hK.refl _⟩
  case round =>
    obtain ⟨k, hk, rfl, ⟨pre, hpre, hJs⟩, hnx⟩ := hrel
    have HPRE := Lib.hid hpre
    clear hpre
    have hbx := (hK.box _ _ hnx).trans hBs
    have hbx2 := (hK.box2 _ _ hnx).trans hBn
    have hl2 := HL.out
    obtain ⟨q, hq⟩ : ∃ q, q = 4 * k := ⟨_, rfl⟩
    rw [← hq]
    by_cases hlt : k < cnt
    · have q1 : (q : Int) < (n : Int) := by omega
      have q2 : q < n := by omega
      have q3 : q + 4 ≤ n := by omega
      have q4 : (4 : Int) ≤ (n : Int) - (q : Int) := by omega
      have q5 : q ≤ c := by omega
      have q6 : ¬ c = q := by omega
      have HQ := Lib.hid hq
      clear hq hl2
      gi_wp2
      gi_quiet (fail)
      have hnd : Kp W (wr.drewN nq) := hK.trans _ _ _ hnx (hK.drew _ _)
      have hbd := (hK.box _ _ hnd).trans hBs
      have hbd2 := (hK.box2 _ _ hnd).trans hBn
      have hJd := HJ.out _ _ nq hJs
      obtain ⟨wd, hwd⟩ : ∃ wd, wd = wr.drewN nq := ⟨_, rfl⟩
      rw [← hwd] at hnd hbd hbd2 hJd ⊢
      obtain ⟨fn, tmps, assign, body, hy, hR⟩ := HY.out pre ⟨k, hlt⟩ wd hJd (by have := congrArg List.length HPRE.out; simp at this; omega)
      dsimp only [encC] at hy
      rw [← HQ.out] at hy
      have q7 : ¬ c = q := q6
      have HND := Lib.hid hnd
      have hup : Hid (Firsts (k + 1) (pre ++ [⟨k, hlt⟩])) := Lib.hid (by unfold Firsts; rw [List.map_append, HPRE.out, List.range_succ]; rfl)
      clear hwd hbx hbx2 hJs hnx hnd hJd
      gi_wp2
      refine hR.mono ?_
      rintro e W3 (⟨rfl, hJ3, hk3⟩ | ⟨rfl, hJx3⟩)
      · have hbn3 := (hK.box2 _ _ hk3).trans hbd2
        gi_wp2
        go_roundw
        case rel => exact ⟨k + 1, by omega, congrArg (Value.int .i64) (by have := HQ.out; omega), ⟨_, hup.out, hJ3⟩, hK.trans _ _ _ HND.out hk3⟩
        case measure => simp [intOf] <;> omega
      · gi_wp2
        refine bodyPost_ret (results_none rfl _ _ _) rfl ?_
        exact ⟨⟨_, rfl⟩, .inr ⟨_, ⟨k + 1, by omega, hup.out⟩, hJx3⟩⟩
    · have q1 : ¬ (q : Int) < (n : Int) := by omega
      have hkc : Hid (k = cnt) := Lib.hid (by omega)
      clear hq hl2
      gi_wp2
      go_end0
      exact ⟨⟨_, rfl⟩, .inl ⟨pre, hkc.out ▸ HPRE.out, hJs⟩⟩

theorem ck_in (m : Nat) (a : Option Addr) (len cap : Nat) (w : World) :
    CallsIn Fence.wide m Try.prog 45 #[.slice a len cap, .int .i64 4] w fun e w' => e = .returned (.func (.func 47) #[] #[.pointer (some ⟨w.heap.size, 0, none⟩), .pointer (some ⟨w.heap.size + 1, 0, none⟩)]) ∧ w' = (w.alloc (.cells #[.slice a len cap] 23)).alloc (.cells #[.int .i64 4] 3) := by
  refine callsIn_of_wp Try.func45 rfl trivial ?_ rfl
  simp only [Try.ntmps45, List.size_toArray, List.length_cons, List.length_nil, Nat.reduceAdd, Nat.reduceSub, Array.replicate_succ, Array.replicate_zero, List.push_toArray, List.append_toArray, List.nil_append, List.cons_append]
  gi_wp2
  go_ret
  exact ⟨rfl, rfl⟩

theorem ck_stops (m : Nat) (hm : 1 ≤ m) (Bs Bn n₀ n c cnt b o : Nat) (hl : n = 4 * cnt) (hn : n ≤ 1000000) (hcc : n ≤ c) (Kp : World → World → Prop) (hK : Keeping Kp n₀ Bs Bn) (w : World) (hBs : Bs < w.heap.size) (hBn : Bn < w.heap.size)
    (hc : w.cell? ⟨Bs, 0, none⟩ = some (.slice (some ⟨b, o, none⟩) n c)) (hc2 : w.cell? ⟨Bn, 0, none⟩ = some (.int .i64 4)) :
    SeqStopsK Fence.wide m Try.prog 47 #[.pointer (some ⟨Bs, 0, none⟩), .pointer (some ⟨Bn, 0, none⟩)] (fun k : Fin cnt => encC b o k) Kp (fun ys => Firsts cnt ys) (fun pre => ∃ k, k ≤ cnt ∧ Firsts k pre) cnt w := fun lp J Jx W hW hJa _ hY h0 => by
  refine (ck1_in m hm lp Bs Bn n₀ n c cnt b o hl hn hcc Kp hK J Jx hY (fun pre W1 k h => hJa pre W1 _ none h (drewN_grown W1 k none) (fun r e => by cases e)) W ((hW.cell (p := ⟨Bs, 0, none⟩) hBs).trans hc) ((hW.cell (p := ⟨Bn, 0, none⟩) hBn).trans hc2) h0).mono ?_
  rintro e W' ⟨he, ⟨ys, h1, hj⟩ | ⟨pre, h1, hj⟩⟩
  · exact ⟨he, .inl ⟨_, h1, hj⟩⟩
  · exact ⟨he, .inr ⟨_, h1, hj⟩⟩

end Go.Proofs.Ytgmpablmkpamaaa
