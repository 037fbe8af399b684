/-
  Rows of one's own: where they lie; bytes.Clone.
-/
import Derived.Test.YtehckiihipnimaaOnly
import Derived.Test.YtehckiihipnimaaShapes
import Derived.Lib.SliceRun
import Derived.Laws.Cover1
import Derived.IntWalk
import Derived.Deep.RegionHeld3
namespace Go.Proofs.Ytehckiihipnimaa
open Go.RowKit
set_option linter.unusedVariables false
set_option linter.unusedSimpArgs false

theorem OwnL.cap {α : Type} {F : Shape α} {e : TypeId} {w : World} {base : Nat} {A : Option Addr} {n c : Nat} {l : List α} (h : OwnL F e w base A n c l) : n ≤ c := by
  have hp := F.pos
  rcases h.2.2 with ⟨hv, hn⟩ | ⟨g, cap, cur, hv, hg, hh, hx⟩
  · injection hv with hA h1 hcc
    omega
  · injection hv with hA _ hcc
    omega
theorem OwnL.addr {α : Type} {F : Shape α} {e : TypeId} {w : World} {base : Nat} {A : Option Addr} {n c : Nat} {l : List α} (h : OwnL F e w base A n c l) : (A = none ∧ n = 0 ∧ c = 0) ∨ ∃ g, A = some ⟨g, 0, none⟩ ∧ g < w.heap.size := by
  rcases h.2.2 with ⟨hv, hn⟩ | ⟨g, cap, cur, hv, hg, hh, hx⟩
  · injection hv with hA h1 hcc
    exact .inl ⟨hA, by omega, by omega⟩
  · have := (h.lt g (by rw [hv]; rfl)).2
    injection hv with hA _ hcc
    exact .inr ⟨g, hA, this⟩
theorem cell_alloc1 {w : World} {o : Obj} {p : Addr} {v : Value} (h : w.cell? p = some v) : (w.alloc o).cell? p = some v :=
  (World.cell?_alloc_lt _ _ _ (World.block_lt_of_cell? w p h)).trans h
theorem cell_drew1 {w : World} {p : Addr} {v : Value} (h : w.cell? p = some v) : w.drew.cell? p = some v := h
theorem flat_drop {α : Type} {F : Shape α} (h1 : F.size = 1) : ∀ (l : List α) (k : Nat), F.flat (l.drop k) = (F.flat l).drop k
  | l, 0 => rfl
  | [], k + 1 => by simp [Shape.flat]
  | x :: t, k + 1 => by
    obtain ⟨u, hu⟩ : ∃ u, F.cells x = [u] := List.length_eq_one_iff.1 (by rw [F.len, h1])
    show F.flat (t.drop k) = (F.cells x ++ F.flat t).drop (k + 1)
    rw [flat_drop h1 t k, hu]; rfl
theorem Ls.drop1 {α : Type} {F : Shape α} {w : World} {b o : Nat} {l : List α} (h : Ls F w (some ⟨b, o, none⟩) l) (h1 : F.size = 1) (k : Nat) : Ls F w (some ⟨b, o + k, none⟩) (l.drop k) := by
  unfold Ls
  rw [flat_drop h1]
  rcases h with h | ⟨b', o', hA, hlt, hc⟩
  · left; rw [h]; simp
  · injection hA with hA
    injection hA with e1 e2
    subst e1; subst e2
    refine .inr ⟨b, o + k, rfl, hlt, fun j u hu => ?_⟩
    rw [List.getElem?_drop] at hu
    have := hc (k + j) u hu
    rw [← Nat.add_assoc] at this
    exact this

theorem clone_none (w : World) :
    Calls Try.prog 75 #[.slice none 0 0] w fun e w' => e = .returned (.slice none 0 0) ∧ w' = w := by
  have hnil : ∀ w : World, (binOp .eql 27 (.slice none 0 0) (.slice none 0 0)).run Try.prog w = .ok (.bool true) w := fun w => Lib.run_eql_slice_nil w 27 5 none 0 0 0 0 Try.underlying27
  go_enter Try.func75, Try.ntmps75
  go_wp2
  go_ret
  exact ⟨rfl, rfl⟩
theorem clone_some (b o n c : Nat) (zs : List Int) (w : World) (hb : Ls byS w (some ⟨b, o, none⟩) zs) (hn : zs.length = n) (hm : n ≤ 1000000) :
    Calls Try.prog 75 #[.slice (some ⟨b, o, none⟩) n c] w fun e w' => ∃ A c', e = .returned (.slice A n c') ∧ OwnL byS 5 w' w.heap.size A n c' zs ∧ Below w.heap.size w w' := by
  have HB := Lib.hid hb
  have HN := Lib.hid hn
  clear hb hn
  go_enter Try.func75, Try.ntmps75
  have hnil : ∀ w : World, (binOp .eql 27 (.slice (some ⟨b, o, none⟩) n c) (.slice none 0 0)).run Try.prog w = .ok (.bool false) w := fun w => Lib.run_eql_slice_nil w 27 5 (some ⟨b, o, none⟩) n c 0 0 Try.underlying27
  go_wp2_with (at_builtin; refine wpList_appL (F := byS) rfl _ (.tmp 5) (.tmp 6) 27 rfl _ 1 Try.underlying27 byInfo rfl w.heap.size (some ⟨w.heap.size, 0, none⟩) 0 0 [] rfl (ownL_new w w.heap.size (Nat.le_refl _) [] 0 _ rfl rfl (by omega) _ rfl) (some ⟨b, o, none⟩) n c zs rfl (HB.out.below (ba1 _ _)) HN.out n (by omega) (by omega) (by omega) (by simp) ?_; intro A5 c5 w5 ho5 hb5 _; have O5 := Lib.hid ho5; have HB5 := Lib.hid ((ba1 w (.cells #[] 5)).trans hb5); clear ho5 hb5)
  go_ret
  exact ⟨A5, c5, rfl, by simpa using O5.out, HB5.out⟩

end Go.Proofs.Ytehckiihipnimaa
