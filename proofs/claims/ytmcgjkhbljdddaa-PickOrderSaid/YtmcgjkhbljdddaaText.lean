/-
  Texts as lists of bytes; lists of texts. Nothing of the program but the numbers of its types.
-/
import Derived.Test.YtmcgjkhbljdddaaRow
import Derived.Test.YtmcgjkhbljdddaaPathMath
import Derived.Laws.Strings2
import Derived.Laws.Concat
import Derived.Laws.Strings3
import Derived.Laws.DeepStrings4
namespace Go.Proofs.Ytmcgjkhbljdddaa
open Go.RowKit
set_option linter.unusedVariables false

/-- a text of these bytes -/
def tx (l : Byt) : ByteArray := ⟨l.toArray⟩
theorem tx_list (l : Byt) : (tx l).data.toList = l := by simp [tx]
theorem tx_toList (l : Byt) : (tx l).toList = l := ByteArray.toList_mk l
theorem tx_size (l : Byt) : (tx l).size = l.length := by simp [tx, ByteArray.size]
theorem tx_of (s : ByteArray) : s = tx s.data.toList := by simp [tx]
theorem tx_app (a b : Byt) : tx a ++ tx b = tx (a ++ b) := ByteArray.mk_append_mk a b
theorem tx_cut (l : Byt) (i j : Nat) : (tx l).extract i j = tx ((l.drop i).take (j - i)) := ByteArray.extract_mk l i j
theorem tx_inj {a b : Byt} (h : tx a = tx b) : a = b := by rw [← tx_list a, ← tx_list b, h]
theorem tx_eql (a b : Byt) : ((tx a).toList == (tx b).toList) = decide (a = b) := by rw [tx_toList, tx_toList, Bool.eq_iff_iff]; simp
theorem tx_get (l : Byt) (i : Nat) (h : i < (tx l).size) : (tx l)[i]'h = l[i]'(by rw [← tx_size]; exact h) := by
  have : (tx l)[i]'h = l.toArray[i]'(by simpa [tx_size] using h) := rfl
  rw [this, List.getElem_toArray]
theorem tx_at (l : Byt) (k : Nat) (h : k < l.length) : (tx l).extract k (k + 1) = tx [l.getD k 0] := by
  rw [tx_cut, Nat.add_sub_cancel_left, List.drop_eq_getElem_cons h, List.getD_eq_getElem?_getD, List.getElem?_eq_getElem h]; rfl
/-- byte k of a text, as a number -/
def bn (l : Byt) (k : Nat) : Int := ((l.getD k 0).toNat : Int)
theorem bn_get (l : Byt) : ∀ (n : Nat) (h : n < (tx l).size), (((tx l)[n]'h).toNat : Int) = bn l n := fun n h => by
  rw [tx_get]; unfold bn
  rw [List.getD_eq_getElem?_getD, List.getElem?_eq_getElem (by rw [← tx_size]; exact h)]; rfl
theorem bn_nonneg (l : Byt) (k : Nat) : 0 ≤ bn l k := by unfold bn; omega
theorem bn_le (l : Byt) (k : Nat) : bn l k ≤ 255 := by unfold bn; have := (l.getD k 0).toNat_lt; omega
theorem bn_eq (l : Byt) (k : Nat) (c : UInt8) : bn l k = (c.toNat : Int) ↔ l.getD k 0 = c := by
  unfold bn
  constructor
  · intro h; exact UInt8.toNat_inj.1 (by omega)
  · intro h; rw [h]

/-- lists of texts -/
def stS : Shape Byt := { cells := fun l => [.string (tx l)], size := 1, len := fun _ => rfl, pos := by decide, one := by intro x u hu; simp at hu; subst hu; rfl }
theorem stInfo : (Try.prog.info? 9).map (fun i => (i.zero, i.size, i.bytes)) = some (some (.string { data := #[] }), stS.size, 16) := by kernel_rfl
theorem Ls.text {w : World} {A : Option Addr} {l : List Byt} (h : Ls stS w A l) (k : Nat) (hk : k < l.length) :
    ∃ b o, A = some ⟨b, o, none⟩ ∧ b < w.heap.size ∧ w.cell? ⟨b, o + k, none⟩ = some (.string (tx (l.getD k []))) := by
  obtain ⟨b, o, rfl, hb, hc⟩ := h.at k (l.getD k []) (by rw [List.getD_eq_getElem?_getD, List.getElem?_eq_getElem hk]; rfl)
  have := hc 0 _ rfl
  exact ⟨b, o, rfl, hb, by simpa [stS] using this⟩
theorem getD_mem {l : List Byt} {k : Nat} (hk : k < l.length) : l.getD k [] ∈ l := by
  rw [List.getD_eq_getElem?_getD, List.getElem?_eq_getElem hk]; exact List.getElem_mem hk

end Go.Proofs.Ytmcgjkhbljdddaa
