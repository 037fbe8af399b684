/-
  The program's isName and check; slices.IndexFunc and ContainsFunc at texts.
-/
import Derived.Test.YthjpighlcalocaaGreatDoorIdxAny
import Derived.Test.YthjpighlcalocaaGreatDoorOff
namespace Go.Proofs.YthjpighlcalocaaGreatDoor
open Go.RowKit
set_option linter.unusedVariables false
set_option linter.unusedSimpArgs false

theorem nameB_cases (l : Byt) (v : Bool) (h : nameB l = v) : (l = [] ∧ v = false) ∨ (l ≠ [] ∧ 16 < l.length ∧ v = false) ∨ (l = [46] ∧ v = false) ∨ (l = [46, 46] ∧ v = false) ∨ (l ≠ [] ∧ l.length ≤ 16 ∧ l ≠ [46] ∧ l ≠ [46, 46] ∧ anyB l = !v) := by
  rw [nameB_any] at h
  by_cases h1 : l = []
  · left; subst h1; exact ⟨rfl, by rw [← h] <;> rfl⟩
  · by_cases h2 : l.length ≤ 16
    · by_cases h3 : l = [46]
      · right; right; left; subst h3; exact ⟨rfl, by rw [← h] <;> rfl⟩
      · by_cases h4 : l = [46, 46]
        · right; right; right; left; subst h4; exact ⟨rfl, by rw [← h] <;> rfl⟩
        · right; right; right; right
          simp [h1, h2, h3, h4] at h
          exact ⟨h1, h2, h3, h4, by rw [← h] <;> simp⟩
    · right; left; simp [h1, h2] at h; exact ⟨h1, by omega, h⟩

set_option maxHeartbeats 1000000 in
theorem isName_any (l : Byt) (w : World) :
    Calls Tryz.prog 98 #[.string (tx l)] w fun e w' => e = .returned (.bool (nameB l)) ∧ Below w.heap.size w w' := by
  have hT := tx_toList l
  have hsz := tx_size l
  obtain ⟨v, hv⟩ : ∃ v, nameB l = v := ⟨_, rfl⟩
  rw [hv]
  rcases nameB_cases l v hv with ⟨rfl, rfl⟩ | ⟨h1, h2, rfl⟩ | ⟨rfl, rfl⟩ | ⟨rfl, rfl⟩ | ⟨h1, h2, h3, h4, h5⟩
  · clear hv
    go_enter Tryz.func98, Tryz.ntmps98
    go_wp2_with fail
    go_ret
    exact ⟨rfl, Below.refl _ _⟩
  · have hE : l.isEmpty = false := by simpa using h1
    have h6 : ¬ (l.length : Int) ≤ 16 := by omega
    clear hv
    go_enter Tryz.func98, Tryz.ntmps98
    go_wp2_with fail
    go_ret
    exact ⟨rfl, Below.refl _ _⟩
  · clear hv
    go_enter Tryz.func98, Tryz.ntmps98
    go_wp2_with fail
    go_ret
    exact ⟨rfl, Below.refl _ _⟩
  · clear hv
    go_enter Tryz.func98, Tryz.ntmps98
    go_wp2_with fail
    go_ret
    exact ⟨rfl, Below.refl _ _⟩
  · have hE : l.isEmpty = false := by simpa using h1
    have h6 : (l.length : Int) ≤ 16 := by omega
    have h7 : (l == [46]) = false := by simpa using h3
    have h8 : (l == [46, 46]) = false := by simpa using h4
    have HC := Lib.hid (contAny_any l h2 w)
    rw [h5] at HC
    clear hv h5 h1 h2
    cases v
    · go_enter Tryz.func98, Tryz.ntmps98
      go_wp2_with (go_at_call 113; refine HC.out.mono ?_; rintro e w1 ⟨rfl, hb1⟩; have HB := Lib.hid hb1; clear hb1)
      go_ret
      exact ⟨rfl, HB.out⟩
    · go_enter Tryz.func98, Tryz.ntmps98
      go_wp2_with (go_at_call 113; refine HC.out.mono ?_; rintro e w1 ⟨rfl, hb1⟩; have HB := Lib.hid hb1; clear hb1)
      go_ret
      exact ⟨rfl, HB.out⟩

theorem odd_any (l : Byt) (w : World) :
    Calls Tryz.prog 126 #[.string (tx l)] w fun e w' => e = .returned (.bool (!nameB l)) ∧ Below w.heap.size w w' := by
  have HC := Lib.hid (isName_any l w)
  obtain ⟨v, hv⟩ : ∃ v, nameB l = v := ⟨_, rfl⟩
  rw [hv] at HC ⊢
  clear hv
  cases v <;>
  · go_enter Tryz.func126, Tryz.ntmps126
    go_wp2_with (go_at_call 98; refine HC.out.mono ?_; rintro e w1 ⟨rfl, hb1⟩; have HB := Lib.hid hb1; clear hb1)
    go_ret
    exact ⟨rfl, HB.out⟩

theorem take_all {l : List Byt} {k : Nat} (h : (l.take k).all nameB = true) (hk : k < l.length) : (l.take (k + 1)).all nameB = nameB (l.getD k []) := by
  rw [List.take_add_one, List.getElem?_eq_getElem hk, List.all_append, h, List.getD_eq_getElem?_getD, List.getElem?_eq_getElem hk]
  simp
theorem all_false {l : List Byt} {k : Nat} (hk : k < l.length) (h : nameB (l.getD k []) = false) : l.all nameB = false := by
  rw [List.all_eq_false]
  exact ⟨l.getD k [], getD_mem hk, by rw [h]; simp⟩

/-- the index of the first one that is odd -/
def OddAt (l : List Byt) (k : Int) : Prop := 0 ≤ k ↔ l.all nameB = false
def AllNames (l : List Byt) : Prop := l.all nameB = true
theorem oddAt_none {l : List Byt} (h : AllNames l) : OddAt l (-1) := ⟨fun h => by omega, fun g => by rw [show l.all nameB = true from h] at g; cases g⟩
theorem oddAt_some {l : List Byt} (h : l.all nameB = false) (k : Nat) : OddAt l (k : Int) := ⟨fun _ => h, fun _ => by omega⟩
theorem idxFunc_any (A : Option Addr) (n c : Nat) (l : List Byt) (w : World) (hb : Ls stS w A l) (hn : l.length = n) (hm : n ≤ 12) :
    Calls Tryz.prog 136 #[.slice A n c, .func (.func 126) #[] #[]] w fun e w' => (∃ k : Int, e = .returned (.int .i64 k) ∧ OddAt l k) ∧ Below w.heap.size w w' := by
  have HA := Lib.hid hb
  have HN := Lib.hid hn
  clear hb hn
  go_enter Tryz.func136, Tryz.ntmps136
  go_wp2
  go_loopw [8] (fun i wr => ∃ k : Nat, i = .int .i64 (k : Int) ∧ k ≤ n ∧ AllNames (l.take k) ∧ Below w.heap.size w wr) (fun i _ => n - (intOf i).toNat)
  case atStart => exact ⟨0, rfl, Nat.zero_le _, rfl, Below.refl _ _⟩
  case round =>
    obtain ⟨k, rfl, hk, hall, hbw⟩ := hrel
    have HALL := Lib.hid hall
    have HBW := Lib.hid hbw
    clear hall hbw
    by_cases hlt : k < n
    · have hlti : (k : Int) < (n : Int) := by omega
      obtain ⟨b, o, rfl, hbl, hc⟩ := (HA.out.below HBW.out).text k (by rw [HN.out]; exact hlt)
      have HS : Hid ((l.take (k + 1)).all nameB = nameB (l.getD k [])) := Lib.hid (take_all HALL.out (by rw [HN.out]; exact hlt))
      have HF : Hid (nameB (l.getD k []) = false → l.all nameB = false) := Lib.hid (fun h => all_false (by rw [HN.out]; exact hlt) h)
      obtain ⟨x, hx⟩ : ∃ x, l.getD k [] = x := ⟨_, rfl⟩
      rw [hx] at hc HS HF
      have HC := Lib.hid (odd_any x wr)
      obtain ⟨v, hv⟩ : ∃ v, nameB x = v := ⟨_, rfl⟩
      rw [hv] at HC HS HF
      clear hx hv
      cases v
      · go_wp2_with (go_at_call 126; refine HC.out.mono ?_; rintro e w1 ⟨rfl, hb1⟩; have HB := Lib.hid hb1; clear hb1)
        go_ret
        exact ⟨⟨_, rfl, oddAt_some (HF.out (by first | rfl | trivial)) k⟩, bthen HBW.out HB.out⟩
      · go_wp2_with (go_at_call 126; refine HC.out.mono ?_; rintro e w1 ⟨rfl, hb1⟩; have HB := Lib.hid hb1; clear hb1)
        go_roundw
        case rel => exact ⟨k + 1, by simp, by omega, HS.out, bthen HBW.out HB.out⟩
        case measure => simp [intOf]; omega
    · have hlti : ¬ (k : Int) < (n : Int) := by omega
      have HE : Hid (AllNames l) := Lib.hid (by have := HALL.out; rw [List.take_of_length_le (by rw [HN.out]; omega)] at this; exact this)
      go_wp2
      go_ret
      exact ⟨⟨-1, rfl, oddAt_none HE.out⟩, HBW.out⟩

theorem contFunc_any (A : Option Addr) (n c : Nat) (l : List Byt) (w : World) (hb : Ls stS w A l) (hn : l.length = n) (hm : n ≤ 12) :
    Calls Tryz.prog 127 #[.slice A n c, .func (.func 126) #[] #[]] w fun e w' => e = .returned (.bool (!l.all nameB)) ∧ Below w.heap.size w w' := by
  have HC := Lib.hid (idxFunc_any A n c l w hb hn hm)
  clear hb hn
  obtain ⟨v, hv⟩ : ∃ v, l.all nameB = v := ⟨_, rfl⟩
  unfold OddAt at HC
  rw [hv] at HC ⊢
  clear hv
  cases v
  · go_enter Tryz.func127, Tryz.ntmps127
    go_wp2_with (go_at_call 136; refine HC.out.mono ?_; rintro e w1 ⟨⟨k, rfl, hk⟩, hb1⟩; have hk0 : (0 : Int) ≤ k := hk.2 rfl; have HB := Lib.hid hb1; clear hb1 hk)
    go_ret
    exact ⟨by first | rfl | exact congrArg (fun b => Ending.returned (.bool b)) (decide_eq_true hk0), HB.out⟩
  · go_enter Tryz.func127, Tryz.ntmps127
    go_wp2_with (go_at_call 136; refine HC.out.mono ?_; rintro e w1 ⟨⟨k, rfl, hk⟩, hb1⟩; have hk0 : ¬ (0 : Int) ≤ k := (fun h => by have := hk.1 h; cases this); have HB := Lib.hid hb1; clear hb1 hk)
    go_ret
    exact ⟨by first | rfl | exact congrArg (fun b => Ending.returned (.bool b)) (decide_eq_false (by omega)), HB.out⟩

theorem check_any (A : Option Addr) (n c : Nat) (l : List Byt) (w : World) (hb : Ls stS w A l) (hn : l.length = n) :
    Calls Tryz.prog 114 #[.slice A n c] w fun e w' => e = .returned (.int .i64 (nfault l)) ∧ Below w.heap.size w w' := by
  by_cases h : 12 < n
  · have h1 : (12 : Int) < (n : Int) := by omega
    rw [show nfault l = 9 by unfold nfault; rw [if_pos (by omega)]]
    clear hb hn
    go_enter Tryz.func114, Tryz.ntmps114
    go_wp2_with fail
    go_ret
    exact ⟨rfl, Below.refl _ _⟩
  · have h1 : ¬ (12 : Int) < (n : Int) := by omega
    have HC := Lib.hid (contFunc_any A n c l w hb hn (by omega))
    rw [show nfault l = if l.all nameB then 0 else 4 by unfold nfault; rw [if_neg (by omega)]]
    obtain ⟨v, hv⟩ : ∃ v, l.all nameB = v := ⟨_, rfl⟩
    rw [hv] at HC ⊢
    clear hv hb hn
    cases v
    · go_enter Tryz.func114, Tryz.ntmps114
      go_wp2_with (go_at_call 127; refine HC.out.mono ?_; rintro e w1 ⟨rfl, hb1⟩; have HB := Lib.hid hb1; clear hb1)
      go_ret
      exact ⟨rfl, HB.out⟩
    · go_enter Tryz.func114, Tryz.ntmps114
      go_wp2_with (go_at_call 127; refine HC.out.mono ?_; rintro e w1 ⟨rfl, hb1⟩; have HB := Lib.hid hb1; clear hb1)
      go_ret
      exact ⟨rfl, HB.out⟩

end Go.Proofs.YthjpighlcalocaaGreatDoor
