/-
  strings.IndexRune in the text of a slash and a byte 0, of whatever rune beyond ASCII.
-/
import Derived.Test.YthjpighlcalocaaGreatDoorShelf
import Derived.Test.YthjpighlcalocaaGreatDoorText
import Derived.Test.YthjpighlcalocaaGreatDoorKit
import Derived.Test.YthjpighlcalocaaGreatDoorTool
import Derived.Laws.Runes
import Derived.Laws.Strings3
import Derived.Lib.OthersKept
import Derived.Lib.TrimU
import Derived.Deep.LoopGhost
import Derived.WalkMore
namespace Go.Proofs.YthjpighlcalocaaGreatDoor
open Go.RowKit
set_option linter.unusedVariables false
set_option linter.unusedSimpArgs false

theorem encode_size (r : Nat) (h : 128 ≤ r) : 2 ≤ (Utf8.encode (r : Int)).size ∧ (Utf8.encode (r : Int)).size ≤ 4 := by
  unfold Utf8.encode
  obtain ⟨c, hc⟩ : ∃ c, c = (if Utf8.valid (r : Int) = true then ((r : Int)).toNat else Utf8.runeError) := ⟨_, rfl⟩
  have hc2 : ¬ c < 128 := by
    rw [hc]; split
    · simp; omega
    · decide
  simp only [← hc, if_neg hc2]
  split
  · exact ⟨by show 2 ≤ 2; omega, by show 2 ≤ 4; omega⟩
  · split
    · exact ⟨by show 2 ≤ 3; omega, by show 3 ≤ 4; omega⟩
    · exact ⟨by show 2 ≤ 4; omega, by show 4 ≤ 4; omega⟩
theorem encode_two (r : Nat) (h : 128 ≤ r) (h2 : (Utf8.encode (r : Int)).size = 2) : ∃ a b : UInt8, Utf8.encode (r : Int) = ⟨#[a, b]⟩ ∧ 128 ≤ b.toNat := by
  revert h2
  unfold Utf8.encode
  obtain ⟨c, hc⟩ : ∃ c, c = (if Utf8.valid (r : Int) = true then ((r : Int)).toNat else Utf8.runeError) := ⟨_, rfl⟩
  have hc2 : ¬ c < 128 := by
    rw [hc]; split
    · simp; omega
    · decide
  simp only [← hc, if_neg hc2]
  split
  · intro _
    refine ⟨_, _, rfl, ?_⟩
    show 128 ≤ (UInt8.ofNat (128 + c % 64)).toNat
    simp; omega
  · split
    · intro e; exact absurd (show 3 = 2 from e) (by omega)
    · intro e; exact absurd (show 4 = 2 from e) (by omega)

set_option maxRecDepth 100000 in
set_option maxHeartbeats 1000000 in
theorem idxRune_err (w : World) :
    Calls Tryz.prog 132 #[.string ⟨#[47, 0]⟩, .int .i32 65533] w fun e w' => e = .returned (.int .i64 (-1)) ∧ Below w.heap.size w w' := by
  go_enter Tryz.func132, Tryz.ntmps132
  go_wp2
  go_loopg [] 2 (fun gf wx => ∃ pos : Nat, wx = w.iter ⟨#[47, 0]⟩ pos ∧ pos + gf = 2)
  case atStart => exact ⟨0, rfl, rfl⟩
  case round =>
    obtain ⟨pos, rfl, hp⟩ := hrel
    have hb : Hid (∀ p, Below w.heap.size w (w.iter ⟨#[47, 0]⟩ p)) := Lib.hid (fun p => (Below.refl _ w).alloc (Nat.le_refl _) _)
    rcases gk with _ | _ | _ | k
    · obtain rfl : pos = 2 := by omega
      have hnx := fun ty => run_next_end (P := Tryz.prog) w ⟨#[47, 0]⟩ 2 ty (by decide)
      go_wp2
      go_ret
      exact ⟨rfl, hb.out _⟩
    · obtain rfl : pos = 1 := by omega
      have hnx := fun ty => run_next_ascii (P := Tryz.prog) w ⟨#[47, 0]⟩ 1 ty (by decide) (by decide)
      go_wp2
      go_roundg 0
      case measure => omega
      case rel => exact ⟨2, rfl, rfl⟩
    · obtain rfl : pos = 0 := by omega
      have hnx := fun ty => run_next_ascii (P := Tryz.prog) w ⟨#[47, 0]⟩ 0 ty (by decide) (by decide)
      go_wp2
      go_roundg 1
      case measure => omega
      case rel => exact ⟨1, rfl, rfl⟩
    · omega

theorem validRune_some (r : Nat) (w : World) : ∃ b, Calls Tryz.prog 142 #[.int .i32 (r : Int)] w fun e w' => e = .returned (.bool b) ∧ w' = w := by
  have h0 : (0 : Int) ≤ (r : Int) := by omega
  by_cases h1 : (r : Int) < 55296
  · refine ⟨true, ?_⟩
    go_enter Tryz.func142, Tryz.ntmps142
    go_wp2
    go_ret
    exact ⟨rfl, rfl⟩
  · by_cases h2 : (57343 : Int) < (r : Int)
    · by_cases h3 : (r : Int) ≤ 1114111
      · refine ⟨true, ?_⟩
        go_enter Tryz.func142, Tryz.ntmps142
        go_wp2
        go_ret
        exact ⟨rfl, rfl⟩
      · refine ⟨false, ?_⟩
        go_enter Tryz.func142, Tryz.ntmps142
        go_wp2
        go_ret
        exact ⟨rfl, rfl⟩
    · refine ⟨false, ?_⟩
      go_enter Tryz.func142, Tryz.ntmps142
      go_wp2
      go_ret
      exact ⟨rfl, rfl⟩

set_option maxRecDepth 100000 in
set_option maxHeartbeats 1000000 in
theorem idxRune_other (r : Nat) (h : 128 ≤ r) (hr : r ≤ 2147483647) (he : r ≠ 65533) (w : World) :
    Calls Tryz.prog 132 #[.string ⟨#[47, 0]⟩, .int .i32 (r : Int)] w fun e w' => e = .returned (.int .i64 (-1)) ∧ Below w.heap.size w w' := by
  have h1 : ¬ (r : Int) < 128 := by omega
  have h3 : ((r : Int) == 65533) = false := by simp; omega
  obtain ⟨v, hv⟩ := validRune_some r w
  have HV := Lib.hid hv
  obtain ⟨hs1, hs2⟩ := encode_size r h
  obtain ⟨E, hE⟩ : ∃ E, Utf8.encode (r : Int) = E := ⟨_, rfl⟩
  have h2 := encode_two r h
  rw [hE] at hs1 hs2 h2
  have H2 := Lib.hid h2
  clear hv h2
  have hcv : ∀ w, (convert 21 9 (.int .i32 (r : Int))).run Tryz.prog w = .ok (.string E) w := fun w => by
    rw [run_convert_int_string w _ _ _ _ (by rw [Tryz.underlying21]; rfl) Tryz.underlying9, hE]
  clear hE
  cases v
  · go_enter Tryz.func132, Tryz.ntmps132
    go_wp2_with (go_at_call 142; refine HV.out.mono ?_; rintro e w1 ⟨rfl, rfl⟩)
    go_ret
    exact ⟨rfl, Below.refl _ _⟩
  · by_cases hsz : E.size = 2
    · obtain ⟨a, b, rfl, hb⟩ := H2.out hsz
      have hi : ((0 : Int) == (b.toNat : Int)) = false := by simp; omega
      have hne : ((((⟨#[47, 0]⟩ : ByteArray)[1]'(by show 1 < 2; omega)).toNat : Int) != (((⟨#[a, b]⟩ : ByteArray)[1]'(by show 1 < 2; omega)).toNat : Int)) = true := by
        show ((0 : Int) != (b.toNat : Int)) = true
        simp; omega
      have hz : Lib.indexByte [] ((b.toNat : Int)).toNat.toUInt8 = -1 := rfl
      have HIB : Hid (∀ (wx : World) (n : Nat), Calls Tryz.prog 141 #[.string ((⟨#[47, 0]⟩ : ByteArray).extract 2 2), .int .u8 (b.toNat : Int)] (wx.drewN n) fun e w' => e = .returned (.int .i64 (-1)) ∧ w' = wx.drewN n) := Lib.hid (fun wx n => by
        have := Tryz.strings_IndexByte ((⟨#[47, 0]⟩ : ByteArray).extract 2 2) (b.toNat : Int) (wx.drewN n)
        rw [show ((⟨#[47, 0]⟩ : ByteArray).extract 2 2).data.toList = [] by decide, hz] at this
        exact this)
      clear hz hs1 hs2 hsz
      go_enter Tryz.func132, Tryz.ntmps132
      go_wp2_with (go_at_call 142; refine HV.out.mono ?_; rintro e w1 ⟨rfl, rfl⟩)
      go_step3
      go_wp2_with fail
      refine wp_loop_rounds 1 ?_
      rw [rounds_succ]
      go_wp2_with fail
      go_step3
      go_wp2_with fail
      go_quiet (fail)
      obtain ⟨w2, hw2⟩ : ∃ w2, w2 = World.drewN w1 nq := ⟨_, rfl⟩
      have HB2 : Hid (Below w1.heap.size w1 w2) := Lib.hid (by rw [hw2]; exact below_drewN (Below.refl _ _) nq)
      rw [← hw2]
      clear hw2
      go_wp2_with fail
      go_quiet ((go_at_call 141; exact Calls.quiet_of_same (HIB.out _ _)))
      go_wp2_with fail
      all_goals first
        | (rw [Exit.noGoto_ret]; simp only [Exit.inBlock, Exit.then]; rw [Exit.noGoto_ret]; go_ret; exact ⟨rfl, below_drewN HB2.out _⟩)
    · have h5 : ¬ (E.size : Int) - 1 < 2 := by omega
      have h6 : ¬ (E.size : Int) = 2 := by omega
      go_enter Tryz.func132, Tryz.ntmps132
      go_wp2_with (go_at_call 142; refine HV.out.mono ?_; rintro e w1 ⟨rfl, rfl⟩)
      go_step3
      go_wp2_with fail
      refine wp_loop_rounds 1 ?_
      rw [rounds_succ]
      go_wp2_with fail
      rw [Exit.noGoto_ret]
      go_ret
      exact ⟨rfl, Below.refl _ _⟩

end Go.Proofs.YthjpighlcalocaaGreatDoor
