/-
  strings.IndexAny and ContainsAny of a slash and a byte 0, in whatever text of at most 16 bytes.
-/
import Derived.Test.YthjpighlcalocaaGreatDoorIdxRune
import Derived.Test.YthjpighlcalocaaGreatDoorDecHigh
namespace Go.Proofs.YthjpighlcalocaaGreatDoor
open Go.RowKit
set_option linter.unusedVariables false
set_option linter.unusedSimpArgs false

theorem indexAny_cons (b : UInt8) (r : Byt) : Lib.indexAny (b :: r) [47, 0] = if ([47, 0] : Byt).contains b then 0 else if Lib.indexAny r [47, 0] == -1 then -1 else Lib.indexAny r [47, 0] + 1 := rfl
theorem indexAny_is : ∀ l : Byt, 0 ≤ Lib.indexAny l [47, 0] ↔ anyB l = true
  | [] => by decide
  | b :: r => by
    have ih := indexAny_is r
    have hge := Lib.indexAny_ge [47, 0] r
    rw [indexAny_cons]
    unfold anyB at ih ⊢
    rw [List.any_cons]
    by_cases h : ([47, 0] : Byt).contains b = true
    · rw [if_pos h]
      have : (b == 0 || b == 47) = true := by simp at h; simp; exact h.symm
      rw [this]; simp
    · rw [if_neg h]
      have : (b == 0 || b == 47) = false := by simp at h; simp; exact ⟨h.2, h.1⟩
      rw [this, Bool.false_or, ← ih]
      by_cases hz : Lib.indexAny r [47, 0] = -1
      · rw [hz]; decide
      · rw [if_neg (by simpa using hz)]
        omega
theorem noAny_high {l : Byt} {pos K : Nat} (h : Lib.NoAny l [47, 0] pos) (hk : ∀ k, k < K → pos + k < l.length ∧ 128 ≤ ((tx l).get! (pos + k)).toNat) : Lib.NoAny l [47, 0] (pos + K) := by
  intro j b hj hb
  by_cases hlt : j < pos
  · exact h j b hlt hb
  · obtain ⟨k, rfl⟩ : ∃ k, j = pos + k := ⟨j - pos, by omega⟩
    obtain ⟨h1, h2⟩ := hk k (by omega)
    rw [tx_getb l _ h1, List.getD_eq_getElem?_getD, hb] at h2
    simp only [Option.getD_some] at h2
    simp
    refine ⟨fun e => ?_, fun e => ?_⟩ <;> subst e <;> simp at h2

theorem idxRune_any (r : Nat) (hr : r ≤ 2147483647) (h0 : r ≠ 0) (h47 : r ≠ 47) (w : World) :
    Calls Tryz.prog 132 #[.string ⟨#[47, 0]⟩, .int .i32 (r : Int)] w fun e w' => e = .returned (.int .i64 (-1)) ∧ Below w.heap.size w w' := by
  by_cases h : 128 ≤ r
  · by_cases he : r = 65533
    · subst he; exact idxRune_err w
    · exact idxRune_other r h hr he w
  · refine (Tryz.strings_IndexRune_ascii ⟨#[47, 0]⟩ (r : Int) w (by omega) (by omega)).mono ?_
    rintro e w' ⟨rfl, rfl⟩
    refine ⟨?_, Below.refl _ _⟩
    rw [show ((r : Int)).toNat.toUInt8 = UInt8.ofNat r from rfl]
    have a1 : ¬ ((47 : UInt8) = UInt8.ofNat r) := by
      intro e
      have := congrArg UInt8.toNat e
      simp at this; omega
    have a2 : ¬ ((0 : UInt8) = UInt8.ofNat r) := by
      intro e
      have := congrArg UInt8.toNat e
      simp at this; omega
    simp [Lib.indexByte, a1, a2]
theorem idxRune_hit (r : Nat) (h : r = 0 ∨ r = 47) (w : World) :
    Calls Tryz.prog 132 #[.string ⟨#[47, 0]⟩, .int .i32 (r : Int)] w fun e w' => ∃ k : Nat, e = .returned (.int .i64 (k : Int)) ∧ w' = w := by
  rcases h with rfl | rfl
  · refine (Tryz.strings_IndexRune_ascii ⟨#[47, 0]⟩ ((0 : Nat) : Int) w (by omega) (by omega)).mono ?_
    rintro e w' ⟨rfl, rfl⟩
    exact ⟨1, rfl, rfl⟩
  · refine (Tryz.strings_IndexRune_ascii ⟨#[47, 0]⟩ ((47 : Nat) : Int) w (by omega) (by omega)).mono ?_
    rintro e w' ⟨rfl, rfl⟩
    exact ⟨0, rfl, rfl⟩

set_option maxRecDepth 100000 in
set_option maxHeartbeats 2000000 in
theorem idxAny_short (l : Byt) (hl : l.length ≤ 8) (w : World) :
    Calls Tryz.prog 125 #[.string (tx l), .string ⟨#[47, 0]⟩] w fun e w' => e = .returned (.int .i64 (Lib.indexAny l [47, 0])) ∧ Below w.heap.size w w' := by
  have hsz := tx_size l
  have h8z : decide ((8 : Int) < ((tx l).size : Int)) = false := decide_eq_false (by omega)
  have HSZ := Lib.hid hsz
  clear hsz
  go_enter Tryz.func125, Tryz.ntmps125
  go_wp2_with (go_at_call 133; refine (Tryz.strings_shouldUseASCIISet _ _).mono ?_; rintro e w' ⟨rfl, hw⟩; rw [hw, h8z])
  go_loopg [9, 10] l.length (fun g _ _ wx => ∃ pos : Nat, wx.heap[w.heap.size]? = some (.stringIter (tx l) pos) ∧ Below w.heap.size w wx ∧ Lib.NoAny l [47, 0] pos ∧ l.length ≤ pos + g)
  case atStart => exact ⟨0, World.iter_heap w (tx l) 0, (Below.refl _ w).alloc (Nat.le_refl _) _, Lib.NoAny.zero _ _, by omega⟩
  case round =>
    obtain ⟨pos, hit, hbw, hno, hfu⟩ := hrel
    have HN := Lib.hid hno
    clear hno
    by_cases hps : pos < l.length
    · have hsz := HSZ.out
      have hps2 : pos < (tx l).size := by omega
      obtain ⟨g', rfl⟩ : ∃ g', gk = g' + 1 := ⟨gk - 1, by omega⟩
      have hnx : ∀ ty, (Instr.next (.pointer (some ⟨w.heap.size, 0, none⟩)) true ty).run Tryz.prog wr = _ := fun ty => Lib.run_next_any_at wr w.heap.size (tx l) pos ty hit hps2
      have hwd := Lib.width_pos (tx l) pos
      obtain ⟨R, hR⟩ : ∃ R, (Utf8.decode (tx l) pos).1 = R := ⟨_, rfl⟩
      obtain ⟨K, hK⟩ : ∃ K, (Utf8.decode (tx l) pos).2 = K := ⟨_, rfl⟩
      rw [hR, hK] at hnx
      rw [hK] at hwd
      have hit2 := Lib.iterAt_heap wr w.heap.size (tx l) pos (pos + K) hit
      have hbw2 := Lib.below_iterAt hbw (k := w.heap.size) (Nat.le_refl _) (tx l) (pos + K)
      obtain ⟨W, hWd⟩ : ∃ W, wr.iterAt w.heap.size (tx l) (pos + K) = W := ⟨_, rfl⟩
      rw [hWd] at hnx hit2 hbw2
      obtain ⟨x, hx⟩ : ∃ x : UInt8, l.getD pos 0 = x := ⟨_, rfl⟩
      have hxl : l[pos]? = some x := by rw [← hx, List.getD_eq_getElem?_getD, List.getElem?_eq_getElem hps]; rfl
      have hgb : (tx l).get! pos = x := by rw [tx_getb l pos hps, hx]
      have hlt : w.heap.size < W.heap.size := (Array.getElem?_eq_some_iff.1 hit2).1
      have HIT := Lib.hid hit2
      have HBW := Lib.hid hbw2
      have hps3 := hps2
      clear hit hbw hit2 hbw2 hWd hx
      by_cases hhit : x = 0 ∨ x = 47
      · have hdec : R = x.toNat := by
          rw [← hR]
          unfold Utf8.decode
          simp only [Nat.add_zero, hgb]
          rw [if_pos (by rcases hhit with rfl | rfl <;> decide)]
        have hr0 : R = 0 ∨ R = 47 := by rcases hhit with rfl | rfl <;> simp [hdec]
        have HC := Lib.hid (idxRune_hit R hr0 W)
        have HE : Hid (Lib.indexAny l [47, 0] = (pos : Int)) := Lib.hid (Lib.indexAny_hit HN.out hxl (by rcases hhit with rfl | rfl <;> decide))
        clear hR hK hdec hr0 hhit hgb hxl hsz
        go_wp2_with (go_at_call 132; refine HC.out.mono ?_; rintro e w3 ⟨k, rfl, rfl⟩; have hk0 : (0 : Int) ≤ (k : Int) := by omega)
        go_ret
        exact ⟨by rw [HE.out]; rfl, HBW.out⟩
      · have hdec : R ≠ 0 ∧ R ≠ 47 ∧ R ≤ 2147483647 ∧ Lib.NoAny l [47, 0] (pos + K) := by
          by_cases hh : 128 ≤ x.toNat
          · obtain ⟨d1, d2, d3⟩ := decode_high (tx l) pos hps2 (by rw [hgb]; exact hh)
            rw [hR] at d1 d2
            rw [hK] at d3
            exact ⟨by omega, by omega, by omega, noAny_high HN.out (fun k hk => by have := d3 k hk; rw [hsz] at this; exact this)⟩
          · have e : Utf8.decode (tx l) pos = (x.toNat, 1) := by
              unfold Utf8.decode
              simp only [Nat.add_zero, hgb]
              rw [if_pos (by omega)]
            rw [e] at hR hK
            simp only at hR hK
            subst hR; subst hK
            refine ⟨fun h => hhit (.inl (UInt8.toNat_inj.1 (by simpa using h))), fun h => hhit (.inr (UInt8.toNat_inj.1 (by simpa using h))), by omega, HN.out.succ hxl ?_⟩
            simp
            exact ⟨fun h => hhit (.inr h), fun h => hhit (.inl h)⟩
        obtain ⟨d1, d2, d3, d4⟩ := hdec
        have HC := Lib.hid (idxRune_any R d3 d1 d2 W)
        have HD := Lib.hid d4
        clear hR hK d4 hhit hgb hxl hsz
        go_wp2_with (go_at_call 132; refine HC.out.mono ?_; rintro e w3 ⟨rfl, hb3⟩; have HB3 := Lib.hid hb3; clear hb3)
        go_roundg g'
        case measure => omega
        case rel => exact ⟨pos + K, (HB3.out.block w.heap.size hlt).trans HIT.out, bthen HBW.out HB3.out, HD.out, by omega⟩
    · have hnx : ∀ ty, (Instr.next (.pointer (some ⟨w.heap.size, 0, none⟩)) true ty).run Tryz.prog wr = _ := fun ty => Lib.run_next_end_at wr w.heap.size (tx l) pos ty hit (by have := HSZ.out; omega)
      have HE : Hid (Lib.indexAny l [47, 0] = -1) := Lib.hid (Lib.indexAny_none (fun j b hj hb => HN.out j b (by omega) hb))
      have HBW := Lib.hid hbw
      clear hbw
      go_wp2
      go_ret
      exact ⟨by rw [HE.out]; rfl, HBW.out⟩

theorem contAny_any (l : Byt) (hl : l.length ≤ 16) (w : World) :
    Calls Tryz.prog 113 #[.string (tx l), .string ⟨#[47, 0]⟩] w fun e w' => e = .returned (.bool (anyB l)) ∧ Below w.heap.size w w' := by
  have hc : Calls Tryz.prog 125 #[.string (tx l), .string ⟨#[47, 0]⟩] w fun e w' => e = .returned (.int .i64 (Lib.indexAny l [47, 0])) ∧ Below w.heap.size w w' := by
    by_cases h8 : l.length ≤ 8
    · exact idxAny_short l h8 w
    · have hz : ∀ w, (zeroValue 200).run Tryz.prog w = .ok (.agg (Array.replicate 256 (.bool false))) w := fun w => by kernel_rfl
      refine (Tryz.strings_IndexAny_long hz (tx l) ⟨#[47, 0]⟩ w (by decide) (by rw [tx_size]; omega) (by rw [tx_size]; omega) (by decide) (fun j b hb => ?_)).mono ?_
      · rcases j with _ | _ | j
        · simp at hb; subst hb; decide
        · simp at hb; subst hb; decide
        · simp at hb
      · rintro e w' ⟨rfl, rfl⟩
        rw [tx_list]
        exact ⟨rfl, ba2 _ _ _⟩
  have hi := indexAny_is l
  have HC := Lib.hid hc
  obtain ⟨k, hk⟩ : ∃ k, Lib.indexAny l [47, 0] = k := ⟨_, rfl⟩
  obtain ⟨v, hv⟩ : ∃ v, anyB l = v := ⟨_, rfl⟩
  rw [hk] at hi HC
  rw [hv] at hi ⊢
  clear hc hk hv
  cases v
  · have h0 : ¬ (0 : Int) ≤ k := fun h => by have := hi.1 h; cases this
    clear hi
    go_enter Tryz.func113, Tryz.ntmps113
    go_wp2_with (go_at_call 125; refine HC.out.mono ?_; rintro e w1 ⟨rfl, hb1⟩; have HB := Lib.hid hb1; clear hb1)
    go_ret
    exact ⟨congrArg (fun b => Ending.returned (.bool b)) (decide_eq_false (by omega)), HB.out⟩
  · have h0 : (0 : Int) ≤ k := hi.2 rfl
    clear hi
    go_enter Tryz.func113, Tryz.ntmps113
    go_wp2_with (go_at_call 125; refine HC.out.mono ?_; rintro e w1 ⟨rfl, hb1⟩; have HB := Lib.hid hb1; clear hb1)
    go_ret
    exact ⟨by first | rfl | rw [decide_eq_true h0], HB.out⟩

end Go.Proofs.YthjpighlcalocaaGreatDoor
