/-
  The document's SegDecoded, second part: what is read ahead of the Sacks.
-/
import Derived.Test.YtgmpablmkpamaaaDecRef1
import Derived.Laws.NewBlocks
import Derived.Laws.BytesArg
import Derived.Laws.Strings
namespace Go.Proofs.Ytgmpablmkpamaaa
open Go.RowKit Go.Shelf
set_option linter.unusedVariables false
set_option linter.unusedSimpArgs false

/-- the segment's box, with the numbers and the flags -/
def Read2 (w1 : World) (s0 s1 s2 : Int) (g0 g1 g2 g3 : Bool) (t : Value) (wc : World) : Prop :=
  ∃ S, t = .pointer (some ⟨S, 0, none⟩) ∧ w1.heap.size ≤ S ∧ Box9 wc S (.int .i64 s0) (.int .i64 s1) (.int .i64 s2) (.bool g0) (.bool g1) (.bool g2) (.bool g3) (.slice none 0 0) (.slice none 0 0) ∧ Below w1.heap.size w1 wc

/-- the state of the loop over the Sacks -/
def DecI (zs : List Int) (wd1 wc : World) (S q : Nat) (s0 s1 s2 : Int) (g0 g1 g2 g3 : Bool) (i : Value) (wr : World) : Prop :=
  ∃ (k : Nat) (A : Option Addr) (ck : Nat), k ≤ q ∧ i = .int .i64 k ∧ Box9 wr S (.int .i64 s0) (.int .i64 s1) (.int .i64 s2) (.bool g0) (.bool g1) (.bool g2) (.bool g3) (.slice A k ck) (.slice none 0 0) ∧ OwnR wr wc.heap.size A k ck (sacksAt zs 10 k) ∧ Below wd1.heap.size wd1 wr ∧ wc.heap.size ≤ wr.heap.size

theorem strOfNums_inj {xs ys : List Int} (hx : ∀ z ∈ xs, 0 ≤ z ∧ z ≤ 255) (hy : ∀ z ∈ ys, 0 ≤ z ∧ z ≤ 255) (h : (strOfNums xs).data.toList = (strOfNums ys).data.toList) : xs = ys := by
  have h1 : xs.map (fun n => UInt8.ofNat n.toNat) = ys.map (fun n => UInt8.ofNat n.toNat) := h
  have back : ∀ l : List Int, (∀ z ∈ l, 0 ≤ z ∧ z ≤ 255) → (l.map (fun n => UInt8.ofNat n.toNat)).map (fun b => (b.toNat : Int)) = l := by
    intro l hl
    rw [List.map_map]
    conv => rhs; rw [← List.map_id l]
    apply List.map_congr_left
    intro z hz
    have := hl z hz
    simp
    omega
  rw [← back xs hx, ← back ys hy, h1]
theorem bs_cells {w : World} {b o n : Nat} {zs : List Int} (h : Bs w (some ⟨b, o, none⟩) zs) (hn : zs.length = n) : ∀ i, i < n → w.cell? ⟨b, o + i, none⟩ = some (.int .u8 (zs.getD i 0)) := fun i hi => by
  obtain ⟨b', o', x, he, hc, _, _, hx⟩ := h.at i (by omega)
  injection he with he; injection he with e1 e2; subst e1; subst e2
  rw [hc, hx]

theorem cell_drew1 {w : World} {p : Addr} {v : Value} (h : w.cell? p = some v) : w.drew.cell? p = some v := h
theorem cell_alloc1 {w : World} {o : Obj} {p : Addr} {v : Value} (h : w.cell? p = some v) : (w.alloc o).cell? p = some v :=
  (World.cell?_alloc_lt _ _ _ (World.block_lt_of_cell? w p h)).trans h
theorem cell_store9 {w : World} {S : Nat} {p : Addr} (hk : p.block ≠ S) (v0 v1 v2 v3 v4 v5 v6 v7 v8 : Value) :
    (((((((((w.setCell ⟨S, 0, none⟩ v0).setCell ⟨S, 1, none⟩ v1).setCell ⟨S, 2, none⟩ v2).setCell ⟨S, 3, none⟩ v3).setCell ⟨S, 4, none⟩ v4).setCell ⟨S, 5, none⟩ v5).setCell ⟨S, 6, none⟩ v6).setCell ⟨S, 7, none⟩ v7).setCell ⟨S, 8, none⟩ v8).cell? p = w.cell? p :=
  World.cell?_of_block (heap_store hk _ _ _ _ _ _ _ _ _)

end Go.Proofs.Ytgmpablmkpamaaa
