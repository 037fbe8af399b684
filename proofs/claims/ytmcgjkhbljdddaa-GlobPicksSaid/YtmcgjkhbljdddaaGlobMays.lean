/-
  The document's GlobMay; the walk of GlobMays.
-/
import Derived.Test.YtmcgjkhbljdddaaGlobRefI
import Derived.Test.YtmcgjkhbljdddaaGlobPick
namespace Go.Proofs.Ytmcgjkhbljdddaa
open Go.RowKit
set_option linter.unusedVariables false
set_option linter.unusedSimpArgs false

theorem items_none {s : Byt} (h : patT s = none) (w : World) : Calls Try.prog 24 #[.string (tx s)] w fun e w' => Below w.heap.size w w' ∧ e = .returned (.tuple #[.slice none 0 0, .bool false]) := by
  have := items_any s w
  rw [h] at this
  exact this
theorem items_some {s : Byt} {its : List Gi} (h : patT s = some its) (w : World) : Calls Try.prog 24 #[.string (tx s)] w fun e w' => Below w.heap.size w w' ∧ ∃ A c l, e = .returned (.tuple #[.slice A its.length c, .bool true]) ∧ OwnL giS 57 w' w.heap.size A its.length c l ∧ l.map Iv.it = its ∧ II w' (fun k => (Value.slice A its.length c).ownBlock = some k) l := by
  have := items_any s w
  rw [h] at this
  exact this
theorem rmay_any (s : Byt) (w : World) :
    Calls Try.prog 12 #[.string (tx s)] w fun e w' => e = .returned (.bool (patT s).isSome) ∧ Below w.heap.size w w' := by
  rcases hp : patT s with _ | its
  · have HC := Lib.hid (items_none hp w)
    clear hp
    go_enter Try.func12, Try.ntmps12
    go_wp2_with (go_at_call 24; refine HC.out.mono ?_; rintro e w1 ⟨hb1, rfl⟩; have HB := Lib.hid hb1; clear hb1)
    go_ret
    exact ⟨rfl, HB.out⟩
  · have HC := Lib.hid (items_some hp w)
    clear hp
    go_enter Try.func12, Try.ntmps12
    go_wp2_with (go_at_call 24; refine HC.out.mono ?_; rintro e w1 ⟨hb1, A1, c1, l1, rfl, -⟩; have HB := Lib.hid hb1; clear hb1)
    go_ret
    exact ⟨rfl, HB.out⟩

theorem walkGlobMays (s : ByteArray) (w : World) :
    Calls Try.prog 3 #[.string s] w fun e w' => e = .returned (.bool true) ∧ Below w.heap.size w w' := by
  obtain ⟨p, rfl⟩ : ∃ p, s = tx p := ⟨_, tx_of s⟩
  have H1 := Lib.hid (may_any p w)
  have H2 := Lib.hid (fun wx => rmay_any p wx)
  obtain ⟨v, hv⟩ : ∃ v, (patT p).isSome = v := ⟨_, rfl⟩
  rw [hv] at H1 H2
  clear hv
  cases v <;>
  · go_enter Try.func3, Try.ntmps3
    go_wp2_with (first
      | (go_at_call 11; refine H1.out.mono ?_; rintro e w1 ⟨rfl, hb1⟩; have HB1 := Lib.hid hb1; clear hb1)
      | (go_at_call 12; refine (H2.out w1).mono ?_; rintro e w2 ⟨rfl, hb2⟩; have HB2 := Lib.hid hb2; clear hb2))
    go_ret
    exact ⟨by first | rfl | simp, bthen HB1.out HB2.out⟩
end Go.Proofs.Ytmcgjkhbljdddaa
