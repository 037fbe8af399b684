/-
  Rows of one's own: where they lie; bytes.Clone.
-/
import Derived.Test.YthjpighlcalocaaGreatDoorOnly
import Derived.Test.YthjpighlcalocaaGreatDoorBy
import Derived.Lib.SliceRun
import Derived.Laws.Cover1
import Derived.IntWalk
import Derived.Deep.RegionHeld3
namespace Go.Proofs.YthjpighlcalocaaGreatDoor
open Go.RowKit
set_option linter.unusedVariables false
set_option linter.unusedSimpArgs false

theorem clone_none (w : World) :
    Calls Tryz.prog 88 #[.slice none 0 0] w fun e w' => e = .returned (.slice none 0 0) ∧ w' = w := by
  have hnil : ∀ w : World, (binOp .eql 28 (.slice none 0 0) (.slice none 0 0)).run Tryz.prog w = .ok (.bool true) w := fun w => Lib.run_eql_slice_nil w 28 5 none 0 0 0 0 Tryz.underlying28
  go_enter Tryz.func88, Tryz.ntmps88
  go_wp2
  go_ret
  exact ⟨rfl, rfl⟩
theorem clone_some (b o n c : Nat) (zs : List Int) (w : World) (hb : Ls byS w (some ⟨b, o, none⟩) zs) (hn : zs.length = n) (hm : n ≤ 100000000) :
    Calls Tryz.prog 88 #[.slice (some ⟨b, o, none⟩) n c] w fun e w' => ∃ A c', e = .returned (.slice A n c') ∧ OwnL byS 5 w' w.heap.size A n c' zs ∧ Below w.heap.size w w' := by
  have HB := Lib.hid hb
  have HN := Lib.hid hn
  clear hb hn
  go_enter Tryz.func88, Tryz.ntmps88
  have hnil : ∀ w : World, (binOp .eql 28 (.slice (some ⟨b, o, none⟩) n c) (.slice none 0 0)).run Tryz.prog w = .ok (.bool false) w := fun w => Lib.run_eql_slice_nil w 28 5 (some ⟨b, o, none⟩) n c 0 0 Tryz.underlying28
  go_wp2_with (at_builtin; refine wpList_appL (F := byS) rfl _ (.tmp 5) (.tmp 6) 28 rfl _ 1 Tryz.underlying28 byInfo rfl w.heap.size (some ⟨w.heap.size, 0, none⟩) 0 0 [] rfl (ownL_new w w.heap.size (Nat.le_refl _) [] 0 _ rfl rfl (by omega) _ rfl) (some ⟨b, o, none⟩) n c zs rfl (HB.out.below (ba1 _ _)) HN.out n (by omega) (by omega) (by omega) (by simp) ?_; intro A5 c5 w5 ho5 hb5 _; have O5 := Lib.hid ho5; have HB5 := Lib.hid ((ba1 w (.cells #[] 5)).trans hb5); clear ho5 hb5)
  go_ret
  exact ⟨A5, c5, rfl, by simpa using O5.out, HB5.out⟩

end Go.Proofs.YthjpighlcalocaaGreatDoor
