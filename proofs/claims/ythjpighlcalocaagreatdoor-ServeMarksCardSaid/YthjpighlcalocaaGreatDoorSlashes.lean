/-
  strings.SplitSeq at a slash: the iterator over the parts of a path.
-/
import Derived.Test.YthjpighlcalocaaGreatDoorShelf
import Derived.Test.YthjpighlcalocaaGreatDoorRetN
import Derived.Test.YthjpighlcalocaaGreatDoorRangeStore
import Derived.RangeFuncBox
import Derived.RangeFuncNested
import Derived.RangeFuncBound
import Derived.RangeFuncCalls
import Derived.RangeFuncLeaves
import Derived.Shelf.Abstract
import Derived.Shelf.RegionOpen
import Derived.OwnWalkIn
import Derived.TacticsInMore
import Derived.LoopNIn
import Derived.LoopIn
namespace Go.Proofs.YthjpighlcalocaaGreatDoor
open Go.RowKit Go.Shelf
set_option linter.unusedVariables false
set_option linter.unusedSimpArgs false
attribute [local go_sem] Oper.semAt_some

theorem indexByte_none : ∀ {l : Byt}, Lib.indexByte l 47 < 0 → ∀ b ∈ l, b ≠ 47
  | [], _, b, hb => by cases hb
  | x :: r, h, b, hb => by
    have hge := Lib.indexByte_ge r 47
    have e : Lib.indexByte (x :: r) 47 = if x == 47 then 0 else if Lib.indexByte r 47 == -1 then -1 else Lib.indexByte r 47 + 1 := rfl
    rw [e] at h
    by_cases hx : x = 47
    · rw [if_pos (by simpa using hx)] at h; omega
    · rw [if_neg (by simpa using hx)] at h
      have hr : Lib.indexByte r 47 < 0 := by
        by_cases hz : Lib.indexByte r 47 = -1
        · omega
        · rw [if_neg (by simpa using hz)] at h; omega
      rcases List.mem_cons.1 hb with rfl | g
      · exact hx
      · exact indexByte_none hr b g
theorem indexByte_some : ∀ {l : Byt} {i : Nat}, Lib.indexByte l 47 = (i : Int) → i < l.length ∧ l.drop i = 47 :: l.drop (i + 1) ∧ ∀ b ∈ l.take i, b ≠ 47
  | [], i, h => by exfalso; have : (-1 : Int) = (i : Int) := h; omega
  | x :: r, i, h => by
    have e : Lib.indexByte (x :: r) 47 = if x == 47 then 0 else if Lib.indexByte r 47 == -1 then -1 else Lib.indexByte r 47 + 1 := rfl
    rw [e] at h
    by_cases hx : x = 47
    · rw [if_pos (by simpa using hx)] at h
      obtain rfl : i = 0 := by omega
      subst hx
      exact ⟨by simp, by simp, by simp⟩
    · rw [if_neg (by simpa using hx)] at h
      by_cases hz : Lib.indexByte r 47 = -1
      · rw [if_pos (by simpa using hz)] at h; omega
      · rw [if_neg (by simpa using hz)] at h
        obtain ⟨j, rfl⟩ : ∃ j, i = j + 1 := ⟨i - 1, by have := Lib.indexByte_ge r 47; omega⟩
        obtain ⟨h1, h2, h3⟩ := indexByte_some (l := r) (i := j) (by omega)
        refine ⟨by simp; omega, by simpa using h2, fun b hb => ?_⟩
        rw [List.take_succ_cons] at hb
        rcases List.mem_cons.1 hb with rfl | g
        · exact hx
        · exact h3 b g
theorem parts_index {l : Byt} {i : Nat} (h : Lib.indexByte l 47 = (i : Int)) : parts l = l.take i :: parts (l.drop (i + 1)) := by
  obtain ⟨h1, h2, h3⟩ := indexByte_some h
  conv => lhs; rw [← List.take_append_drop i l, h2]
  exact parts_cut _ _ h3
theorem parts_last {l : Byt} (h : Lib.indexByte l 47 < 0) : parts l = [l] := parts_free l (indexByte_none h)

/-- what a round that goes on keeps: the iterator's own three boxes -/
def Kp3 (B0 B1 B2 : Nat) (A B : World) : Prop := A.heap.size ≤ B.heap.size ∧ B.heap[B0]? = A.heap[B0]? ∧ B.heap[B1]? = A.heap[B1]? ∧ B.heap[B2]? = A.heap[B2]?
theorem Kp3.refl (B0 B1 B2 : Nat) (A : World) : Kp3 B0 B1 B2 A A := ⟨Nat.le_refl _, rfl, rfl, rfl⟩
theorem Kp3.trans {B0 B1 B2 : Nat} {A B C : World} (h : Kp3 B0 B1 B2 A B) (k : Kp3 B0 B1 B2 B C) : Kp3 B0 B1 B2 A C := ⟨Nat.le_trans h.1 k.1, k.2.1.trans h.2.1, k.2.2.1.trans h.2.2.1, k.2.2.2.trans h.2.2.2⟩
def encT (x : Byt) : Array Value := #[.string (tx x)]
def restAt (B : Nat) (w : World) : Nat := match w.cell? ⟨B, 0, none⟩ with | some (.string s) => s.size | _ => 0
theorem restAt_is {B : Nat} {w : World} {s : ByteArray} (h : w.cell? ⟨B, 0, none⟩ = some (.string s)) : restAt B w = s.size := by unfold restAt; rw [h]

set_option maxRecDepth 100000 in
set_option maxHeartbeats 2000000 in
theorem ss1_in (m : Nat) (hm : 1 ≤ m) (lp Bs Bp Bv : Nat) (hsp : Bs ≠ Bp) (hsv : Bs ≠ Bv) (p : Byt) (hp : p.length ≤ 1000000) (J Jx : List Byt → World → Prop)
    (hY : ∀ pre x W, J pre W → pre.length < (parts p).length → YieldAt Fence.wide (m - 1) Tryz.prog lp (encT x) W fun e W' =>
      (e = .returned (.bool true) ∧ J (pre ++ [x]) W' ∧ Kp3 Bs Bp Bv W W') ∨ (e = .returned (.bool false) ∧ Jx (pre ++ [x]) W'))
    (hJ : Stores Bs J)
    (W : World) (hBs : W.heap[Bs]? = some (.cells #[.string (tx p)] 9 (0, 0))) (hBp : W.heap[Bp]? = some (.cells #[.string ⟨#[47]⟩] 9 (0, 0))) (hBv : W.heap[Bv]? = some (.cells #[.int .i64 0] 3 (0, 0))) (h0 : J [] W) :
    CallsIn Fence.wide m Tryz.prog 122 #[.func (.yield lp) #[] #[], .pointer (some ⟨Bp, 0, none⟩), .pointer (some ⟨Bs, 0, none⟩), .pointer (some ⟨Bv, 0, none⟩)] W fun e W' => (∃ v, e = .returned v) ∧
      ((∃ ys, ys = parts p ∧ J ys W') ∨ (∃ pre, (∃ k, pre = (parts p).take k) ∧ Jx pre W')) := by
  refine callsIn_of_wp Tryz.func122 rfl trivial ?_ rfl
  simp only [Tryz.ntmps122, List.size_toArray, List.length_cons, List.length_nil, Nat.reduceAdd, Nat.reduceSub, Array.replicate_succ, Array.replicate_zero, List.push_toArray, List.append_toArray, List.nil_append, List.cons_append]
  have HY := Lib.hid hY; have HJ := Lib.hid hJ
  have cp0 : W.cell? ⟨Bp, 0, none⟩ = some (.string ⟨#[47]⟩) := by simp [World.cell?, hBp]
  clear hY hJ
  gi_wp2
  gi_loopw [] (fun wr => ∃ (pre : List Byt) (rest : Byt), parts p = pre ++ parts rest ∧ rest.length ≤ p.length ∧ J pre wr ∧ wr.heap[Bs]? = some (.cells #[.string (tx rest)] 9 (0, 0)) ∧ wr.heap[Bp]? = some (.cells #[.string ⟨#[47]⟩] 9 (0, 0)) ∧ wr.heap[Bv]? = some (.cells #[.int .i64 0] 3 (0, 0))) (fun wr => restAt Bs wr)
  case atStart => exact ⟨[], p, by simp, Nat.le_refl _, h0, hBs, hBp, hBv⟩
  case round =>
    obtain ⟨pre, rest, hpre, hrl, hJs, gs, gp, gv⟩ := hrel
    have cs : wr.cell? ⟨Bs, 0, none⟩ = some (.string (tx rest)) := by simp [World.cell?, gs]
    have cp : wr.cell? ⟨Bp, 0, none⟩ = some (.string ⟨#[47]⟩) := by simp [World.cell?, gp]
    have cv : wr.cell? ⟨Bv, 0, none⟩ = some (.int .i64 0) := by simp [World.cell?, gv]
    have HPRE := Lib.hid hpre
    have HIX := Lib.hid (Tryz.strings_Index_one (tx rest) 47 wr)
    rw [tx_list] at HIX
    have hge := Lib.indexByte_ge rest 47
    obtain ⟨ix, hix⟩ : ∃ ix, Lib.indexByte rest 47 = ix := ⟨_, rfl⟩
    rw [hix] at HIX hge
    have HE := Lib.hid hix
    have GS := Lib.hid gs; have GP := Lib.hid gp; have GV := Lib.hid gv
    clear hpre hix gs gp gv
    by_cases hneg : ix < 0
    · have hlast : Hid (parts p = pre ++ [rest]) := Lib.hid (by rw [HPRE.out, parts_last (by rw [HE.out]; exact hneg)])
      obtain ⟨fn, tmps, assign, body, hy, hR⟩ := HY.out pre rest wr hJs (by rw [hlast.out]; simp)
      dsimp only [encT] at hy
      have HR := Lib.hid hR
      clear hR hJs
      gi_wp2_with (refine ⟨trivial, ?_⟩; gi_at_call 124; refine (callsIn_wide.2 HIX.out).mono ?_; rintro e w1 ⟨rfl, rfl⟩)
      refine HR.out.mono ?_
      rintro e W3 (⟨rfl, hJ3, -⟩ | ⟨rfl, hJx3⟩)
      · gi_wp2
        go_end0
        exact ⟨⟨_, rfl⟩, .inl ⟨_, hlast.out.symm, hJ3⟩⟩
      · gi_wp2
        go_end0
        exact ⟨⟨_, rfl⟩, .inr ⟨_, ⟨(parts p).length, by rw [List.take_of_length_le (Nat.le_refl _), hlast.out]⟩, hJx3⟩⟩
    · obtain ⟨i, rfl⟩ : ∃ i : Nat, ix = (i : Int) := ⟨ix.toNat, by omega⟩
      have hsome := indexByte_some HE.out
      have hil : i < rest.length := hsome.1
      have hrs := tx_size rest
      have hpi : Hid (parts p = (pre ++ [rest.take i]) ++ parts (rest.drop (i + 1))) := Lib.hid (by rw [HPRE.out, parts_index HE.out]; simp)
      have hx1 : (tx rest).extract 0 i = tx (rest.take i) := by rw [tx_cut]; simp
      have hx2 : (tx rest).extract (i + 1) rest.length = tx (rest.drop (i + 1)) := by rw [tx_cut, List.take_of_length_le (by rw [List.length_drop]; exact Nat.le_refl _)]
      obtain ⟨fn, tmps, assign, body, hy, hR⟩ := HY.out pre (rest.take i) wr hJs (by have := List.length_pos_iff.2 (parts_ne (rest.drop (i + 1))); rw [hpi.out, List.length_append, List.length_append]; simp only [List.length_singleton]; omega)
      dsimp only [encT] at hy
      have HR := Lib.hid hR
      have i0 : (0 : Int) ≤ (i : Int) := by omega
      have i1 : (i : Int) ≤ (rest.length : Int) := by omega
      have i2 : (i : Int) + 1 ≤ (rest.length : Int) := by omega
      have hw1 : IntKind.i64.wrap ((i : Int) + 1) = (i : Int) + 1 := by rw [IntKind.wrap_i64]; omega
      clear hR hJs hneg hsome
      gi_wp2_with (refine ⟨trivial, ?_⟩; gi_at_call 124; refine (callsIn_wide.2 HIX.out).mono ?_; rintro e w1 ⟨rfl, rfl⟩)
      refine HR.out.mono ?_
      rintro e W3 (⟨rfl, hJ3, hk3⟩ | ⟨rfl, hJx3⟩)
      · have B3 : Bx 9 W3 Bs #[.string (tx rest)] := hk3.2.1.trans GS.out
        have P3 : Bx 9 W3 Bp #[.string ⟨#[47]⟩] := hk3.2.2.1.trans GP.out
        have V3 : Bx 3 W3 Bv #[.int .i64 0] := hk3.2.2.2.trans GV.out
        have cs3 := B3.cell 0 _ rfl
        have fs3 := B3.soft 0
        have cp3 := P3.cell 0 _ rfl
        have hN : Hid (Bx 9 (W3.setCell ⟨Bs, 0, none⟩ (.string (tx (rest.drop (i + 1))))) Bs #[.string (tx (rest.drop (i + 1)))]) := Lib.hid (B3.set 0 _)
        have hP : Hid (Bx 9 (W3.setCell ⟨Bs, 0, none⟩ (.string (tx (rest.drop (i + 1))))) Bp #[.string ⟨#[47]⟩]) := Lib.hid ((Below.heap_setCell _ _ _ _ (by simp only; exact fun e => hsp e.symm)).trans P3)
        have hV : Hid (Bx 3 (W3.setCell ⟨Bs, 0, none⟩ (.string (tx (rest.drop (i + 1))))) Bv #[.int .i64 0]) := Lib.hid ((Below.heap_setCell _ _ _ _ (by simp only; exact fun e => hsv e.symm)).trans V3)
        have hJ4 : Hid (J (pre ++ [rest.take i]) (W3.setCell ⟨Bs, 0, none⟩ (.string (tx (rest.drop (i + 1)))))) := Lib.hid (HJ.out _ _ _ hJ3)
        have hm1 : Hid (restAt Bs w1 = rest.length) := Lib.hid ((restAt_is cs).trans (tx_size rest))
        clear B3 P3 V3 hJ3 hk3 cs cp cv
        gi_wp2
        go_roundw
        case rel => exact ⟨_, _, hpi.out, by simp; omega, hJ4.out, hN.out, hP.out, hV.out⟩
        case measure =>
          rw [hm1.out, restAt_is (hN.out.cell 0 _ rfl), tx_size, List.length_drop]; omega
      · gi_wp2
        refine bodyPost_ret (results_none rfl _ _ _) rfl ?_
        exact ⟨⟨_, rfl⟩, .inr ⟨_, ⟨pre.length + 1, by rw [hpi.out, List.take_left' (by simp)]⟩, hJx3⟩⟩

theorem ss_stops (m : Nat) (hm : 1 ≤ m) (Bs Bp Bv : Nat) (hsp : Bs ≠ Bp) (hsv : Bs ≠ Bv) (p : Byt) (hp : p.length ≤ 1000000) (w : World)
    (h1 : Bx 9 w Bs #[.string (tx p)]) (h2 : Bx 9 w Bp #[.string ⟨#[47]⟩]) (h3 : Bx 3 w Bv #[.int .i64 0]) :
    SeqStore Fence.wide m Tryz.prog 122 #[.pointer (some ⟨Bp, 0, none⟩), .pointer (some ⟨Bs, 0, none⟩), .pointer (some ⟨Bv, 0, none⟩)] encT (Kp3 Bs Bp Bv) (fun ys => ys = parts p) (fun pre => ∃ k, pre = (parts p).take k) (parts p).length Bs w := fun lp J Jx W hW hJs hJa hY h0 => by
  refine (ss1_in m hm lp Bs Bp Bv hsp hsv p hp J Jx hY hJs W (h1.below hW) (h2.below hW) (h3.below hW) h0).mono ?_
  rintro e W' ⟨he, ⟨ys, h1, hj⟩ | ⟨pre, h1, hj⟩⟩
  · exact ⟨he, .inl ⟨_, h1, hj⟩⟩
  · exact ⟨he, .inr ⟨_, h1, hj⟩⟩

theorem ss_in (p : Byt) (w : World) :
    Calls Tryz.prog 97 #[.string (tx p), .string ⟨#[47]⟩] w fun e w' => ∃ Bs Bp Bv, Bs ≠ Bp ∧ Bs ≠ Bv ∧ (w.heap.size ≤ Bs ∧ w.heap.size ≤ Bp ∧ w.heap.size ≤ Bv) ∧ e = .returned (.func (.func 122) #[] #[.pointer (some ⟨Bp, 0, none⟩), .pointer (some ⟨Bs, 0, none⟩), .pointer (some ⟨Bv, 0, none⟩)]) ∧
      Bx 9 w' Bs #[.string (tx p)] ∧ Bx 9 w' Bp #[.string ⟨#[47]⟩] ∧ Bx 3 w' Bv #[.int .i64 0] ∧ Below w.heap.size w w' := by
  go_enter Tryz.func97, Tryz.ntmps97
  go_wp2
  go_ret
  refine ⟨w.heap.size, w.heap.size + 1, w.heap.size + 2, by omega, by omega, ⟨Nat.le_refl _, by omega, by omega⟩, rfl, ?_, ?_, ?_, (ba2 _ _ _).alloc (by simp; omega) _⟩
  · exact ((bx_new w _ _).below (ba1 _ _)).below (ba1 _ _)
  · have := (bx_new (w.alloc (.cells #[.string (tx p)] 9)) 9 #[.string ⟨#[47]⟩]).below (ba1 _ (.cells #[.int .i64 0] 3))
    simpa using this
  · have := bx_new ((w.alloc (.cells #[.string (tx p)] 9)).alloc (.cells #[.string ⟨#[47]⟩] 9)) 3 #[.int .i64 0]
    simpa using this

end Go.Proofs.YthjpighlcalocaaGreatDoor
