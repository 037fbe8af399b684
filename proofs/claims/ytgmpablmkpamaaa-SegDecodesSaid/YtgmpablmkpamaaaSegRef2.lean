/-
  Contract of packthreadref.SegEncoded's inner function: a number laid behind bytes.
-/
import Derived.Test.YtgmpablmkpamaaaSegRef1
import Derived.Test.YtgmpablmkpamaaaSeg5
import Derived.OneCell
import Derived.RangeFuncBox
namespace Go.Proofs.Ytgmpablmkpamaaa
open Go.RowKit
set_option linter.unusedVariables false
set_option linter.unusedSimpArgs false

/-- the variable at block B holds the bytes zs, a row of its own -/
def ByteAt (w : World) (B base : Nat) (A : Option Addr) (k c : Nat) (zs : List Int) : Prop := w.heap[B]? = some (.cells #[.slice A k c] 23 (0, 0)) ∧ OwnB w base A k c zs
/-- the variable and its row alone have turned -/
structure Put (B : Nat) (v v' : Value) (w w' : World) : Prop where
  below : Below B w w'
  block : ∀ k, k < w.heap.size → k ≠ B → (∀ j, v.ownBlock = some j → k ≠ j) → w'.heap[k]? = w.heap[k]?
  own : ∀ k, v'.ownBlock = some k → v.ownBlock = some k ∨ w.heap.size ≤ k
def RetP (W : World) (B base : Nat) (v : Value) (n : Nat) (P : List Int) (e : Ending) (w' : World) : Prop :=
  ∃ A c, e = .returned (.tuple #[]) ∧ ByteAt w' B base A n c P ∧ Put B v (.slice A n c) W w'

theorem OwnB.setLow {w : World} {base : Nat} {A : Option Addr} {n c : Nat} {zs : List Int} (h : OwnB w base A n c zs) (B : Nat) (hB : B < base) (u : Value) : OwnB (w.setCell ⟨B, 0, none⟩ u) base A n c zs :=
  ⟨h.1, h.2.1, ownsRow_setCell_below h.2.2 (a := ⟨B, 0, none⟩) hB u⟩

theorem put_any (B base : Nat) (x : Int) (A : Option Addr) (n c N : Nat) (P : List Int) (w : World) (hp : ByteAt w B base A n c P) (hB : B < base) (hbase : base ≤ w.heap.size) (hx0 : 0 ≤ x) (hx1 : x ≤ 65535) (hn : n ≤ 1000) (hN : n + 2 = N) :
    Calls Try.prog 27 #[.int .i64 x, .pointer (some ⟨B, 0, none⟩)] w (RetP w B base (.slice A n c) N (P ++ two x)) := by
  have hcell := cell_of_one hp.1
  have hfree := free_of_one hp.1
  have OP := Lib.hid hp.2; have HH := Lib.hid hp.1
  have hBl : B < w.heap.size := by omega
  have q0 : x / 256 % 256 = x / 256 := by omega
  have hX : Hid (∀ z ∈ [x / 256, x % 256], 0 ≤ z ∧ z ≤ 255) := Lib.hid (by intro z hz; simp at hz; omega)
  clear hp
  go_enter Try.func27, Try.ntmps27
  go_wp2_with (at_builtin; refine wpList_appB rfl _ (.tmp 3) (.tmp 10) rfl base A n c P rfl (OP.out.below (ba1 _ _)) _ 2 2 [x / 256, x % 256] rfl (bs_new _ _ _ _ hX.out (by simp) _ (by simp)) rfl N (by omega) (by omega) (by simp; omega) ?_; intro A5 c5 w5 ho5 hb5 hs5; have hH5 := (hb5.block B hB).trans (((ba1 w (.cells #[.int .u8 (x / 256), .int .u8 (x % 256)] 5)).block B hBl).trans HH.out); have hcB := cell_of_one hH5; have hfB := free_of_one hH5; have HH5 := Lib.hid hH5; have O5 := Lib.hid ho5; have HB5 := Lib.hid hb5; have HS5 := Lib.hid hs5; clear ho5 hb5 hs5 hH5)
  go_end0
  refine ⟨A5, c5, rfl, ⟨one_setCell HH5.out, O5.out.setLow B hB _⟩, ⟨?_, ?_, ?_⟩⟩
  · exact (((ba1 w (.cells #[.int .u8 (x / 256), .int .u8 (x % 256)] 5)).mono (Nat.le_of_lt hBl)).trans (HB5.out.mono (Nat.le_of_lt hB))).setCell (Nat.le_refl _) _
  · intro j hj hjB hjo
    rw [Below.heap_setCell _ _ _ _ hjB, HS5.out.block j (by simp; omega) (fun i hi => hjo i hi)]
    exact Below.heap_alloc w _ j hj
  · intro j hj
    rcases HS5.out.own j hj with g | g
    · exact .inl g
    · exact .inr (by simp at g; omega)

end Go.Proofs.Ytgmpablmkpamaaa
