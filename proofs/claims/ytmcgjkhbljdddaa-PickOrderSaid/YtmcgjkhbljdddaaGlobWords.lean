/-
  packthreadkeep's Short, PatternOf and matches (layer 17): drawn names and patterns.
-/
import Derived.Test.YtmcgjkhbljdddaaGlobPick
import Derived.Test.YtmcgjkhbljdddaaPicked
import Derived.Test.YtmcgjkhbljdddaaInts
namespace Go.Proofs.Ytmcgjkhbljdddaa
open Go.RowKit
set_option linter.unusedVariables false
set_option linter.unusedSimpArgs false

def wordG (k : Nat) : Byt := ([[97], [98], [42], [63], [91, 97, 98, 93], [91, 94, 97, 93], [99], [91, 97, 45, 99, 93]] : List Byt).getD k []
def itemG (k : Nat) : Gi := ([⟨61, 97, [], false⟩, ⟨61, 98, [], false⟩, ⟨42, 0, [], false⟩, ⟨63, 0, [], false⟩, ⟨91, 0, [(97, 97), (98, 98)], false⟩, ⟨91, 0, [(97, 97)], true⟩, ⟨61, 99, [], false⟩, ⟨91, 0, [(97, 99)], false⟩] : List Gi).getD k ⟨61, 0, [], false⟩
theorem eight {k : Nat} (h : k < 8) : k = 0 ∨ k = 1 ∨ k = 2 ∨ k = 3 ∨ k = 4 ∨ k = 5 ∨ k = 6 ∨ k = 7 := by omega
theorem fs_word {k : Nat} (h : k < 8) (r : Byt) : fsT (wordG k ++ r) = some (itemG k, r) := by
  rcases eight h with rfl | rfl | rfl | rfl | rfl | rfl | rfl | rfl <;> rfl
theorem word_len {k : Nat} (h : k < 8) : 1 ≤ (wordG k).length ∧ (wordG k).length ≤ 5 := by
  rcases eight h with rfl | rfl | rfl | rfl | rfl | rfl | rfl | rfl <;> decide
def wordsG (ks : List Nat) : Byt := (ks.map wordG).flatten
def Few (ks : List Nat) : Prop := ∀ k ∈ ks, k < 8
theorem it_words : ∀ (ks : List Nat), Few ks → itT (wordsG ks) = some (ks.map itemG)
  | [], _ => rfl
  | k :: r, h => by
    have hk := h k (by simp)
    have e : wordsG (k :: r) = wordG k ++ wordsG r := by simp [wordsG]
    rw [e, itT_some (fs_word hk (wordsG r)), it_words r fun x hx => h x (by simp [hx])]
    simp
theorem words_len : ∀ (ks : List Nat), Few ks → (wordsG ks).length ≤ 5 * ks.length
  | [], _ => by simp [wordsG]
  | k :: r, h => by
    have e : wordsG (k :: r) = wordG k ++ wordsG r := by simp [wordsG]
    have h1 := (word_len (h k (by simp))).2
    have h2 := words_len r fun x hx => h x (by simp [hx])
    rw [e, List.length_append, List.length_cons]; omega
theorem words_app (a b : List Nat) : wordsG (a ++ b) = wordsG a ++ wordsG b := by simp [wordsG]
def mtK (ks : List Nat) (s : Byt) : Bool := mt ((ks.map itemG).map gpOf) s
theorem mat_words {ks : List Nat} {s : Byt} (h : Few ks) (hl : ks.length ≤ 8) (hs : s.length ≤ 200) : matT (wordsG ks) s = (mtK ks s, 0) := by
  have hw := words_len ks h
  have hp : patT (wordsG ks) = some (ks.map itemG) := by unfold patT; rw [if_neg (by omega)]; exact it_words ks h
  unfold matT
  rw [hp]
  simp only []
  rw [if_neg (by omega)]
  rfl
/-- what numbers draw -/
def pkG (l : List Int) (n : Nat) : List Nat := (l.take n).map fun a => (a % 8).toNat
theorem pk_few (l : List Int) (n : Nat) : Few (pkG l n) := fun k hk => by
  obtain ⟨a, -, rfl⟩ := List.mem_map.1 hk
  have := Int.emod_lt_of_pos a (show (0 : Int) < 8 by omega)
  have := Int.emod_nonneg a (show (8 : Int) ≠ 0 by omega)
  omega
theorem pk_len (l : List Int) (n : Nat) : (pkG l n).length ≤ n := by unfold pkG; rw [List.length_map, List.length_take]; omega
theorem pk_succ {l : List Int} {k : Nat} (h : k < l.length) : pkG l (k + 1) = pkG l k ++ [(l.getD k 0 % 8).toNat] := by
  unfold pkG
  rw [List.take_add_one, List.getElem?_eq_getElem h, List.map_append, List.getD_eq_getElem?_getD, List.getElem?_eq_getElem h]; rfl
def letG (k : Nat) : UInt8 := ([97, 98, 99, 120] : List UInt8).getD k 0
def shG (l : List Int) (n : Nat) : Byt := (l.take n).map fun a => letG (a % 4).toNat
theorem sh_len (l : List Int) (n : Nat) : (shG l n).length ≤ n := by unfold shG; rw [List.length_map, List.length_take]; omega
theorem sh_succ {l : List Int} {k : Nat} (h : k < l.length) : shG l (k + 1) = shG l k ++ [letG (l.getD k 0 % 4).toNat] := by
  unfold shG
  rw [List.take_add_one, List.getElem?_eq_getElem h, List.map_append, List.getD_eq_getElem?_getD, List.getElem?_eq_getElem h]; rfl

theorem four {k : Nat} (h : k < 4) : k = 0 ∨ k = 1 ∨ k = 2 ∨ k = 3 := by omega
set_option maxHeartbeats 4000000 in
theorem short_any (A : Option Addr) (n c : Nat) (l : List Int) (N : Nat) (w : World) (hb : Is w A l) (hn : l.length = n) (hN : N ≤ 100) :
    Calls Try.prog 19 #[.slice A n c, .int .i64 (N : Int)] w fun e w' => e = .returned (.string (tx (shG l N))) ∧ Below w.heap.size w w' := by
  have HA := Lib.hid hb
  have HN := Lib.hid hn
  clear hb hn
  go_enter Try.func19, Try.ntmps19
  go_wp2
  go_loopw [5, 6] (fun s i wr => ∃ k : Nat, i = .int .i64 (k : Int) ∧ k ≤ n ∧ k ≤ N ∧ s = .string (tx (shG l k)) ∧ Below w.heap.size w wr) (fun _ i _ => N - (intOf i).toNat)
  case atStart => exact ⟨0, rfl, Nat.zero_le _, Nat.zero_le _, rfl, Below.refl _ _⟩
  case round =>
    obtain ⟨k, rfl, hk, hkN, rfl, hbw⟩ := hrel
    have HBW := Lib.hid hbw
    clear hbw
    by_cases hlt : k < n ∧ k < N
    · obtain ⟨g1, g2⟩ := hlt
      have g1i : (k : Int) < (n : Int) := by omega
      have g2i : (k : Int) < (N : Int) := by omega
      obtain ⟨b, o, rfl, hbl, hc, x0, x1⟩ := (HA.out.below HBW.out).at k (l.getD k 0) (by rw [List.getD_eq_getElem?_getD, List.getElem?_eq_getElem (by rw [HN.out]; exact g1)]; rfl)
      have hs := sh_succ (l := l) (k := k) (by rw [HN.out]; exact g1)
      obtain ⟨x, hx⟩ : ∃ x, l.getD k 0 = x := ⟨_, rfl⟩
      rw [hx] at hc x0 x1 hs
      obtain ⟨q, HK, hq⟩ := pick_nat x 4 (by omega)
      rw [← HK.out] at hs
      have hqn : ((q : Int)).toNat = q := by omega
      rw [hqn] at hs
      have HP := Lib.hid (fun wx => picked_n x 4 q wx HK x0 x1 (by omega) (by omega))
      have hjl := sh_len l k
      obtain ⟨J, hJ⟩ : ∃ J, shG l k = J := ⟨_, rfl⟩
      rw [hJ] at hs hjl ⊢
      have z2 := tx_size J
      have hc' : ∀ o, (wr.alloc o).cell? ⟨b, _, none⟩ = _ := fun o' => ((ba1 wr o').cell hbl).trans hc
      rcases four (k := q) (by omega) with rfl | rfl | rfl | rfl
      · have HS : Hid (shG l (k + 1) = J ++ [97]) := Lib.hid hs
        have a1 : tx J ++ (⟨#[97]⟩ : ByteArray) = tx (J ++ [97]) := tx_app J [97]
        have q2 : ¬ 9223372036854775807 < J.length + 1 := by omega
        clear hs hx hJ hqn HK hq
        go_wp2_with (go_at_call 22; refine (HP.out _).mono ?_; rintro e w1 ⟨rfl, rfl⟩)
        go_roundw
        case rel => exact ⟨k + 1, by simp, by omega, by omega, by rw [HS.out], HBW.out.alloc HBW.out.size _⟩
        case measure => simp [intOf]; omega
      · have HS : Hid (shG l (k + 1) = J ++ [98]) := Lib.hid hs
        have a1 : tx J ++ (⟨#[98]⟩ : ByteArray) = tx (J ++ [98]) := tx_app J [98]
        have q2 : ¬ 9223372036854775807 < J.length + 1 := by omega
        clear hs hx hJ hqn HK hq
        go_wp2_with (go_at_call 22; refine (HP.out _).mono ?_; rintro e w1 ⟨rfl, rfl⟩)
        go_roundw
        case rel => exact ⟨k + 1, by simp, by omega, by omega, by rw [HS.out], HBW.out.alloc HBW.out.size _⟩
        case measure => simp [intOf]; omega
      · have HS : Hid (shG l (k + 1) = J ++ [99]) := Lib.hid hs
        have a1 : tx J ++ (⟨#[99]⟩ : ByteArray) = tx (J ++ [99]) := tx_app J [99]
        have q2 : ¬ 9223372036854775807 < J.length + 1 := by omega
        clear hs hx hJ hqn HK hq
        go_wp2_with (go_at_call 22; refine (HP.out _).mono ?_; rintro e w1 ⟨rfl, rfl⟩)
        go_roundw
        case rel => exact ⟨k + 1, by simp, by omega, by omega, by rw [HS.out], HBW.out.alloc HBW.out.size _⟩
        case measure => simp [intOf]; omega
      · have HS : Hid (shG l (k + 1) = J ++ [120]) := Lib.hid hs
        have a1 : tx J ++ (⟨#[120]⟩ : ByteArray) = tx (J ++ [120]) := tx_app J [120]
        have q2 : ¬ 9223372036854775807 < J.length + 1 := by omega
        clear hs hx hJ hqn HK hq
        go_wp2_with (go_at_call 22; refine (HP.out _).mono ?_; rintro e w1 ⟨rfl, rfl⟩)
        go_roundw
        case rel => exact ⟨k + 1, by simp, by omega, by omega, by rw [HS.out], HBW.out.alloc HBW.out.size _⟩
        case measure => simp [intOf]; omega
    · have HE : Hid (shG l k = shG l N) := Lib.hid (by
        by_cases h1 : k < n
        · have : k = N := by omega
          rw [this]
        · unfold shG
          rw [List.take_of_length_le (by rw [HN.out]; omega), List.take_of_length_le (by rw [HN.out]; omega)])
      have hway : ¬ (k : Int) < (n : Int) ∨ ((k : Int) < (n : Int) ∧ ¬ (k : Int) < (N : Int)) := by omega
      rcases hway with g1 | ⟨g1, g2⟩ <;>
      · go_wp2_with fail
        go_ret
        exact ⟨by rw [← HE.out]; rfl, HBW.out⟩

/-- the pattern that numbers draw -/
def patG (l : List Int) (n : Nat) : Byt := wordsG (pkG l n)
theorem pat_len (l : List Int) (n : Nat) : (patG l n).length ≤ 5 * n := by
  have h1 := words_len _ (pk_few l n)
  have h2 := pk_len l n
  unfold patG; omega
theorem pat_succ {l : List Int} {k : Nat} (h : k < l.length) : patG l (k + 1) = patG l k ++ wordG (l.getD k 0 % 8).toNat := by
  unfold patG
  rw [pk_succ h, words_app]; simp [wordsG]
set_option maxHeartbeats 4000000 in
theorem pattern_any (A : Option Addr) (n c : Nat) (l : List Int) (N : Nat) (w : World) (hb : Is w A l) (hn : l.length = n) (hN : N ≤ 100) :
    Calls Try.prog 18 #[.slice A n c, .int .i64 (N : Int)] w fun e w' => e = .returned (.string (tx (patG l N))) ∧ Below w.heap.size w w' := by
  have HA := Lib.hid hb
  have HN := Lib.hid hn
  clear hb hn
  go_enter Try.func18, Try.ntmps18
  go_wp2
  go_loopw [5, 6] (fun s i wr => ∃ k : Nat, i = .int .i64 (k : Int) ∧ k ≤ n ∧ k ≤ N ∧ s = .string (tx (patG l k)) ∧ Below w.heap.size w wr) (fun _ i _ => N - (intOf i).toNat)
  case atStart => exact ⟨0, rfl, Nat.zero_le _, Nat.zero_le _, rfl, Below.refl _ _⟩
  case round =>
    obtain ⟨k, rfl, hk, hkN, rfl, hbw⟩ := hrel
    have HBW := Lib.hid hbw
    clear hbw
    by_cases hlt : k < n ∧ k < N
    · obtain ⟨g1, g2⟩ := hlt
      have g1i : (k : Int) < (n : Int) := by omega
      have g2i : (k : Int) < (N : Int) := by omega
      obtain ⟨b, o, rfl, hbl, hc, x0, x1⟩ := (HA.out.below HBW.out).at k (l.getD k 0) (by rw [List.getD_eq_getElem?_getD, List.getElem?_eq_getElem (by rw [HN.out]; exact g1)]; rfl)
      have hs := pat_succ (l := l) (k := k) (by rw [HN.out]; exact g1)
      obtain ⟨x, hx⟩ : ∃ x, l.getD k 0 = x := ⟨_, rfl⟩
      rw [hx] at hc x0 x1 hs
      obtain ⟨q, HK, hq⟩ := pick_nat x 8 (by omega)
      rw [← HK.out] at hs
      have hqn : ((q : Int)).toNat = q := by omega
      rw [hqn] at hs
      have HP := Lib.hid (fun wx => picked_n x 8 q wx HK x0 x1 (by omega) (by omega))
      have hjl := pat_len l k
      obtain ⟨J, hJ⟩ : ∃ J, patG l k = J := ⟨_, rfl⟩
      rw [hJ] at hs hjl ⊢
      have z2 := tx_size J
      have hc' : ∀ o, (wr.alloc o).cell? ⟨b, _, none⟩ = _ := fun o' => ((ba1 wr o').cell hbl).trans hc
      rcases eight (k := q) (by omega) with rfl | rfl | rfl | rfl | rfl | rfl | rfl | rfl
      · have HS : Hid (patG l (k + 1) = J ++ [97]) := Lib.hid hs
        have a1 : tx J ++ (⟨#[97]⟩ : ByteArray) = tx (J ++ [97]) := tx_app J [97]
        have q2 : ¬ 9223372036854775807 < J.length + 1 := by omega
        clear hs hx hJ hqn HK hq
        go_wp2_with (go_at_call 22; refine (HP.out _).mono ?_; rintro e w1 ⟨rfl, rfl⟩)
        go_roundw
        case rel => exact ⟨k + 1, by simp, by omega, by omega, by rw [HS.out], HBW.out.alloc HBW.out.size _⟩
        case measure => simp [intOf]; omega
      · have HS : Hid (patG l (k + 1) = J ++ [98]) := Lib.hid hs
        have a1 : tx J ++ (⟨#[98]⟩ : ByteArray) = tx (J ++ [98]) := tx_app J [98]
        have q2 : ¬ 9223372036854775807 < J.length + 1 := by omega
        clear hs hx hJ hqn HK hq
        go_wp2_with (go_at_call 22; refine (HP.out _).mono ?_; rintro e w1 ⟨rfl, rfl⟩)
        go_roundw
        case rel => exact ⟨k + 1, by simp, by omega, by omega, by rw [HS.out], HBW.out.alloc HBW.out.size _⟩
        case measure => simp [intOf]; omega
      · have HS : Hid (patG l (k + 1) = J ++ [42]) := Lib.hid hs
        have a1 : tx J ++ (⟨#[42]⟩ : ByteArray) = tx (J ++ [42]) := tx_app J [42]
        have q2 : ¬ 9223372036854775807 < J.length + 1 := by omega
        clear hs hx hJ hqn HK hq
        go_wp2_with (go_at_call 22; refine (HP.out _).mono ?_; rintro e w1 ⟨rfl, rfl⟩)
        go_roundw
        case rel => exact ⟨k + 1, by simp, by omega, by omega, by rw [HS.out], HBW.out.alloc HBW.out.size _⟩
        case measure => simp [intOf]; omega
      · have HS : Hid (patG l (k + 1) = J ++ [63]) := Lib.hid hs
        have a1 : tx J ++ (⟨#[63]⟩ : ByteArray) = tx (J ++ [63]) := tx_app J [63]
        have q2 : ¬ 9223372036854775807 < J.length + 1 := by omega
        clear hs hx hJ hqn HK hq
        go_wp2_with (go_at_call 22; refine (HP.out _).mono ?_; rintro e w1 ⟨rfl, rfl⟩)
        go_roundw
        case rel => exact ⟨k + 1, by simp, by omega, by omega, by rw [HS.out], HBW.out.alloc HBW.out.size _⟩
        case measure => simp [intOf]; omega
      · have HS : Hid (patG l (k + 1) = J ++ [91, 97, 98, 93]) := Lib.hid hs
        have a1 : tx J ++ (⟨#[91, 97, 98, 93]⟩ : ByteArray) = tx (J ++ [91, 97, 98, 93]) := tx_app J [91, 97, 98, 93]
        have q2 : ¬ 9223372036854775807 < J.length + 4 := by omega
        clear hs hx hJ hqn HK hq
        go_wp2_with (go_at_call 22; refine (HP.out _).mono ?_; rintro e w1 ⟨rfl, rfl⟩)
        go_roundw
        case rel => exact ⟨k + 1, by simp, by omega, by omega, by rw [HS.out], HBW.out.alloc HBW.out.size _⟩
        case measure => simp [intOf]; omega
      · have HS : Hid (patG l (k + 1) = J ++ [91, 94, 97, 93]) := Lib.hid hs
        have a1 : tx J ++ (⟨#[91, 94, 97, 93]⟩ : ByteArray) = tx (J ++ [91, 94, 97, 93]) := tx_app J [91, 94, 97, 93]
        have q2 : ¬ 9223372036854775807 < J.length + 4 := by omega
        clear hs hx hJ hqn HK hq
        go_wp2_with (go_at_call 22; refine (HP.out _).mono ?_; rintro e w1 ⟨rfl, rfl⟩)
        go_roundw
        case rel => exact ⟨k + 1, by simp, by omega, by omega, by rw [HS.out], HBW.out.alloc HBW.out.size _⟩
        case measure => simp [intOf]; omega
      · have HS : Hid (patG l (k + 1) = J ++ [99]) := Lib.hid hs
        have a1 : tx J ++ (⟨#[99]⟩ : ByteArray) = tx (J ++ [99]) := tx_app J [99]
        have q2 : ¬ 9223372036854775807 < J.length + 1 := by omega
        clear hs hx hJ hqn HK hq
        go_wp2_with (go_at_call 22; refine (HP.out _).mono ?_; rintro e w1 ⟨rfl, rfl⟩)
        go_roundw
        case rel => exact ⟨k + 1, by simp, by omega, by omega, by rw [HS.out], HBW.out.alloc HBW.out.size _⟩
        case measure => simp [intOf]; omega
      · have HS : Hid (patG l (k + 1) = J ++ [91, 97, 45, 99, 93]) := Lib.hid hs
        have a1 : tx J ++ (⟨#[91, 97, 45, 99, 93]⟩ : ByteArray) = tx (J ++ [91, 97, 45, 99, 93]) := tx_app J [91, 97, 45, 99, 93]
        have q2 : ¬ 9223372036854775807 < J.length + 5 := by omega
        clear hs hx hJ hqn HK hq
        go_wp2_with (go_at_call 22; refine (HP.out _).mono ?_; rintro e w1 ⟨rfl, rfl⟩)
        go_roundw
        case rel => exact ⟨k + 1, by simp, by omega, by omega, by rw [HS.out], HBW.out.alloc HBW.out.size _⟩
        case measure => simp [intOf]; omega
    · have HE : Hid (patG l k = patG l N) := Lib.hid (by
        by_cases h1 : k < n
        · have : k = N := by omega
          rw [this]
        · unfold patG pkG
          rw [List.take_of_length_le (by rw [HN.out]; omega), List.take_of_length_le (by rw [HN.out]; omega)])
      have hway : ¬ (k : Int) < (n : Int) ∨ ((k : Int) < (n : Int) ∧ ¬ (k : Int) < (N : Int)) := by omega
      rcases hway with g1 | ⟨g1, g2⟩ <;>
      · go_wp2_with fail
        go_ret
        exact ⟨by rw [← HE.out]; rfl, HBW.out⟩

theorem matA : matT [97] [97] = (true, 0) := by decide
/-- packthreadkeep.matches of what fits -/
theorem matK_any (p s : Byt) (r : Bool) (w : World) (h : matT p s = (r, 0)) :
    Calls Try.prog 20 #[.string (tx p), .string (tx s)] w fun e w' => e = .returned (.bool r) ∧ Below w.heap.size w w' := by
  have H1 := Lib.hid (match_any p s w)
  have H2 := Lib.hid (fun w => match_any [97] [97] w)
  rw [h] at H1
  rw [matA] at H2
  clear h
  have ha : (⟨#[97]⟩ : ByteArray) = tx [97] := rfl
  cases r <;>
  · go_enter Try.func20, Try.ntmps20
    go_upto_region 2 with (go_at_call 13; refine H1.out.mono ?_; rintro e w1 ⟨rfl, hb1⟩; have HB1 := Lib.hid hb1; clear hb1)
    go_wp2_with (go_at_call 13; refine (H2.out _).mono ?_; rintro e w2 ⟨rfl, hb2⟩; have HB2 := Lib.hid hb2; clear hb2)
    go_ret
    exact ⟨rfl, bthen HB1.out HB2.out⟩
end Go.Proofs.Ytmcgjkhbljdddaa
