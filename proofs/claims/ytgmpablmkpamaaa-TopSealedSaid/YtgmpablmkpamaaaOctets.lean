/-
  Contract of packthreadkeep.Octets.
-/
import Derived.Test.YtgmpablmkpamaaaOwn
namespace Go.Proofs.Ytgmpablmkpamaaa
open Go.RowKit
set_option linter.unusedVariables false

def RetB (W : World) (m : Nat) (zs : List Int) (e : Ending) (w' : World) : Prop :=
  ∃ A c, e = .returned (.slice A m c) ∧ OwnB w' W.heap.size A m c zs ∧ Below W.heap.size W w'

theorem octets_any (A : Option Addr) (n c k m : Nat) (zs : List Int) (w : World) (hb : Bs w A zs) (hn : zs.length = n) (hc : n ≤ c) (h47 : c ≤ 140737488355328) (hk : k ≤ 1000000) (hm : m ≤ n) (hm2 : m ≤ k) (hm3 : n ≤ k → m = n) (hm4 : k ≤ n → m = k) :
    Calls Try.prog 34 #[.slice A n c, .int .i64 k] w (RetB w m (zs.take m)) := by
  have HB := Lib.hid hb
  have HN := Lib.hid hn
  clear hb hn
  have HT : Hid ((zs.take m).length = m) := Lib.hid (by rw [List.length_take, HN.out]; omega)
  by_cases h : n ≤ k
  · have M := hm3 h
    clear hm3 hm4
    subst M
    go_enter Try.func34, Try.ntmps34
    go_wp2_with (at_builtin; refine wpList_appB rfl w (.const (.slice none 0 0)) (.tmp 10) rfl w.heap.size none 0 0 [] rfl (OwnB.nil _ _) A m c (zs.take m) rfl (HB.out.take m) HT.out m (by omega) (by omega) (Nat.le_refl _) ?_; intro A1 c1 w1 ho1 hb1 _)
    go_ret
    exact ⟨A1, c1, rfl, ho1, hb1⟩
  · have M := hm4 (by omega)
    clear hm3 hm4
    subst M
    go_enter Try.func34, Try.ntmps34
    go_wp2_with (at_builtin; refine wpList_appB rfl w (.const (.slice none 0 0)) (.tmp 10) rfl w.heap.size none 0 0 [] rfl (OwnB.nil _ _) A m c (zs.take m) rfl (HB.out.take m) HT.out m (by omega) (by omega) (Nat.le_refl _) ?_; intro A1 c1 w1 ho1 hb1 _)
    go_ret
    exact ⟨A1, c1, rfl, ho1, hb1⟩

end Go.Proofs.Ytgmpablmkpamaaa
