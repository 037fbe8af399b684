/-
  packthreadkeep.Octets: some bytes of one's own.
-/
import Derived.Test.YtdilpebhecmjmaaBy
namespace Go.Proofs.Ytdilpebhecmjmaa
open Go.RowKit
set_option linter.unusedVariables false
set_option linter.unusedSimpArgs false

/-- bytes of one's own, as many as told -/
def RetY (w : World) (m : Nat) (zs : List Int) (e : Ending) (w' : World) : Prop :=
  ∃ A c, e = .returned (.slice A m c) ∧ OwnL byS 5 w' w.heap.size A m c zs ∧ Below w.heap.size w w'
theorem octets_any (A : Option Addr) (n c k m : Nat) (zs : List Int) (w : World) (hb : Ls byS w A zs) (hn : zs.length = n) (hc : n ≤ c) (h47 : c ≤ 140737488355328) (hk : k ≤ 1000000) (hm : m = min n k) :
    Calls Try.prog 14 #[.slice A n c, .int .i64 k] w (RetY w m (zs.take m)) := by
  have HB := Lib.hid hb
  have HN := Lib.hid hn
  clear hb hn
  have HT : Hid ((zs.take m).length = m) := Lib.hid (by rw [List.length_take, HN.out]; omega)
  have e0 : (List.nil : List Int) ++ zs.take m = zs.take m := rfl
  by_cases h : n ≤ k
  · obtain rfl : m = n := by omega
    clear hm
    go_enter Try.func14, Try.ntmps14
    go_wp2_with (at_builtin; refine wpList_appL (F := byS) rfl w (.const (.slice none 0 0)) (.tmp 10) 22 rfl _ 1 Try.underlying22 byInfo rfl w.heap.size none 0 0 [] rfl (OwnL.nil _ _) A m c (zs.take m) rfl (HB.out.take m) HT.out m (by omega) (by omega) (by omega) (Nat.le_refl _) ?_; intro A1 c1 w1 ho1 hb1 _; rw [List.nil_append] at ho1)
    go_ret
    exact ⟨A1, c1, rfl, ho1, hb1⟩
  · obtain rfl : m = k := by omega
    clear hm
    go_enter Try.func14, Try.ntmps14
    go_wp2_with (at_builtin; refine wpList_appL (F := byS) rfl w (.const (.slice none 0 0)) (.tmp 10) 22 rfl _ 1 Try.underlying22 byInfo rfl w.heap.size none 0 0 [] rfl (OwnL.nil _ _) A m c (zs.take m) rfl (HB.out.take m) HT.out m (by omega) (by omega) (by omega) (Nat.le_refl _) ?_; intro A1 c1 w1 ho1 hb1 _; rw [List.nil_append] at ho1)
    go_ret
    exact ⟨A1, c1, rfl, ho1, hb1⟩


end Go.Proofs.Ytdilpebhecmjmaa
