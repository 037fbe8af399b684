/-
  The document's PathJoin; the walk of PathJoins.
-/
import Derived.Test.YtdoocbaojmjpaaaJoin
import Derived.Test.YtdoocbaojmjpaaaNamesFault
namespace Go.Proofs.Ytdoocbaojmjpaaa
open Go.RowKit
set_option linter.unusedVariables false
set_option linter.unusedSimpArgs false

theorem joinP_app : ∀ (l m : List Byt), joinP (l ++ m) = joinP l ++ joinP m
  | [], m => rfl
  | x :: r, m => by simp only [List.cons_append, joinP, joinP_app r m, List.append_assoc]
theorem joinP_take {l : List Byt} (h : Clean_ l) (k : Nat) : (joinP (l.take k)).length ≤ 204 := by
  have h1 := joinP_len (l.take k) (fun x hx => h.2 x (List.mem_of_mem_take hx))
  have h2 : (l.take k).length ≤ 12 := by have := h.1; rw [List.length_take]; omega
  omega
theorem joinP_succ {l : List Byt} {k : Nat} (hk : k < l.length) : joinP (l.take (k + 1)) = joinP (l.take k) ++ (47 :: l.getD k []) := by
  rw [List.take_add_one, List.getElem?_eq_getElem hk, joinP_app, List.getD_eq_getElem?_getD, List.getElem?_eq_getElem hk]
  simp [joinP]

theorem pjoin_fault (A : Option Addr) (n c : Nat) (l : List Byt) (w : World) (hb : Ls stS w A l) (hn : l.length = n) (h0 : nfault l ≠ 0) :
    Calls Try.prog 5 #[.slice A n c] w fun e w' => e = .returned (.tuple #[.string ⟨#[]⟩, .int .i64 (nfault l)]) ∧ w' = w := by
  have HC := Lib.hid (fault_any A n c l w hb hn)
  obtain ⟨v, hv⟩ : ∃ v, nfault l = v := ⟨_, rfl⟩
  rw [hv] at HC h0 ⊢
  have h1 : (v == 0) = false := by simpa using h0
  have h2 : (v != 0) = true := by simpa using h0
  clear hv hb hn
  go_enter Try.func5, Try.ntmps5
  go_wp2_with (go_at_call 8; refine HC.out.mono ?_; rintro e w1 ⟨rfl, rfl⟩)
  go_ret2
  exact ⟨rfl, rfl⟩

theorem pjoin_ok (A : Option Addr) (n c : Nat) (l : List Byt) (w : World) (hb : Ls stS w A l) (hn : l.length = n) (hk : Clean_ l) :
    Calls Try.prog 5 #[.slice A n c] w fun e w' => e = .returned (.tuple #[.string (tx (joinN l)), .int .i64 0]) ∧ w' = w := by
  have HC := Lib.hid (fault_any A n c l w hb hn)
  rw [nfault_clean hk] at HC
  have HA := Lib.hid hb
  have HN := Lib.hid hn
  have HK := Lib.hid hk
  have h12 : n ≤ 12 := by have := hk.1; omega
  clear hb hn hk
  go_enter Try.func5, Try.ntmps5
  go_wp2_with (go_at_call 8; refine HC.out.mono ?_; rintro e w1 ⟨rfl, rfl⟩)
  go_loop [15, 5] (fun i s => ∃ k : Nat, i = .int .i64 (k : Int) ∧ k ≤ n ∧ s = .string (tx (joinP (l.take k)))) (fun i _ => n - (intOf i).toNat)
  case atStart => exact ⟨0, rfl, Nat.zero_le _, rfl⟩
  case round =>
    obtain ⟨k, rfl, hkn, rfl⟩ := hrel
    by_cases hlt : k < n
    · have hlti : (k : Int) < (n : Int) := by omega
      obtain ⟨b, o, rfl, hbl, hc⟩ := HA.out.text k (by rw [HN.out]; exact hlt)
      have hsucc := joinP_succ (l := l) (k := k) (by rw [HN.out]; exact hlt)
      have hlen1 := joinP_take HK.out k
      have hlen2 := joinP_take HK.out (k + 1)
      rw [hsucc, List.length_append, List.length_cons] at hlen2
      have HS := Lib.hid hsucc
      obtain ⟨x, hx⟩ : ∃ x, l.getD k [] = x := ⟨_, rfl⟩
      obtain ⟨J, hJ⟩ : ∃ J, joinP (l.take k) = J := ⟨_, rfl⟩
      rw [hx] at hc hlen2 HS
      rw [hJ] at hlen1 hlen2 HS ⊢
      have z1 := tx_size x
      have z2 := tx_size J
      have z3 := tx_size (47 :: x)
      have a1 : (⟨#[47]⟩ : ByteArray) ++ tx x = tx (47 :: x) := tx_app [47] x
      have a2 : tx J ++ tx (47 :: x) = tx (J ++ 47 :: x) := tx_app J (47 :: x)
      have g1 : ¬ 9223372036854775807 < 1 + x.length := by omega
      have g2 : ¬ 9223372036854775807 < J.length + (x.length + 1) := by omega
      simp only [List.length_cons] at z3
      clear hsucc hx hJ
      go_wp2_with fail
      go_round
      case rel => exact ⟨k + 1, by simp, by omega, by rw [HS.out]⟩
      case measure => simp [intOf]; omega
    · have hlti : ¬ (k : Int) < (n : Int) := by omega
      have ht : l.take k = l := List.take_of_length_le (by rw [HN.out]; omega)
      rw [ht]
      by_cases h0 : l = []
      · have hj : tx (joinP l) = ⟨#[]⟩ := by rw [h0]; rfl
        rw [hj]
        have HE : Hid (tx (joinN l) = ⟨#[47]⟩) := Lib.hid (by rw [h0]; rfl)
        clear ht h0 hj
        go_wp2_with fail
        go_ret2
        exact ⟨by rw [HE.out]; rfl, rfl⟩
      · have HE : Hid (joinN l = joinP l) := Lib.hid (by rw [joinN, if_neg h0])
        have hT := tx_toList (joinP l)
        have hne : (joinP l).isEmpty = false := by
          rcases l with _ | ⟨x, r⟩
          · exact absurd rfl h0
          · rfl
        obtain ⟨J, hJ⟩ : ∃ J, joinP l = J := ⟨_, rfl⟩
        rw [hJ] at HE hT hne ⊢
        clear ht h0 hJ
        go_wp2_with fail
        go_ret2
        exact ⟨by rw [HE.out]; rfl, rfl⟩

theorem walkPathJoins (A : Option Addr) (n c : Nat) (l : List Byt) (w : World) (hb : Ls stS w A l) (hn : l.length = n) (hc : n ≤ c) (hr : c ≤ 8796093021952) :
    Calls Try.prog 3 #[.slice A n c] w fun e w' => e = .returned (.bool true) ∧ Below w.heap.size w w' := by
  by_cases h0 : nfault l = 0
  · have hk := nfault_zero h0
    have H1 := Lib.hid (join_ok A n c l w hb hn hc hk)
    have H2 := Lib.hid (fun wx (h : Below w.heap.size w wx) => pjoin_ok A n c l wx (hb.below h) hn hk)
    clear hb hn h0 hk
    go_enter Try.func3, Try.ntmps3
    go_wp2_with (first
      | (go_at_call 4; refine H1.out.mono ?_; rintro e w1 ⟨rfl, hb1⟩; have HB1 := Lib.hid hb1; clear hb1)
      | (go_at_call 5; refine (H2.out w1 HB1.out).mono ?_; rintro e w2 ⟨rfl, rfl⟩))
    go_ret
    exact ⟨by simp, HB1.out⟩
  · have H1 := Lib.hid (join_fault A n c l w hb hn h0)
    have H2 := Lib.hid (fun wx (h : Below w.heap.size w wx) => pjoin_fault A n c l wx (hb.below h) hn h0)
    obtain ⟨v, hv⟩ : ∃ v, nfault l = v := ⟨_, rfl⟩
    rw [hv] at H1 H2
    clear hb hn h0 hv
    go_enter Try.func3, Try.ntmps3
    go_wp2_with (first
      | (go_at_call 4; refine H1.out.mono ?_; rintro e w1 ⟨rfl, hb1⟩; have HB1 := Lib.hid hb1; clear hb1)
      | (go_at_call 5; refine (H2.out w1 HB1.out).mono ?_; rintro e w2 ⟨rfl, rfl⟩))
    go_ret
    exact ⟨by simp, HB1.out⟩

end Go.Proofs.Ytdoocbaojmjpaaa
