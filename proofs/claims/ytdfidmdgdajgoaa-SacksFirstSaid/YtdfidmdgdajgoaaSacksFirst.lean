/-
  The walk of SacksFirst.
-/
import Derived.Test.YtdfidmdgdajgoaaHoleSacksLaw
import Derived.Test.YtdfidmdgdajgoaaHoleGrows
import Derived.Test.YtdfidmdgdajgoaaSackMath2
namespace Go.Proofs.Ytdfidmdgdajgoaa
open Go.RowKit
set_option linter.unusedVariables false
set_option linter.unusedSimpArgs false

theorem two_ne {y1 y2 s1 s2 : Int} (h : ((y1, y2) : Rg) ≠ (s1, s2)) : y1 ≠ s1 ∨ (y1 = s1 ∧ y2 ≠ s2) := by
  by_cases e : y1 = s1
  · exact .inr ⟨e, fun e2 => h (by rw [e, e2])⟩
  · exact .inl e

set_option maxRecDepth 100000 in
set_option maxHeartbeats 20000000 in
theorem walkSacksFirst (A : Option Addr) (m c : Nat) (zs : List Int) (la nu : Int) (w : World) (hb : Is w A zs) (hn : zs.length = m) (hc : m ≤ c) (hr : c ≤ 17592186043904)
    (hl0 : -9223372036854775808 ≤ la) (hl1 : la ≤ 9223372036854775807) (hu0 : -9223372036854775808 ≤ nu) (hu1 : nu ≤ 9223372036854775807) :
    Calls Try.prog 10 #[.slice A m c, .int .i64 la, .int .i64 nu] w fun e w' => e = .returned (.bool true) ∧ Below w.heap.size w w' := by
  have hmay := heap_may zs 20
  obtain ⟨⟨d, o⟩, hs⟩ : ∃ s, s = heapOf zs 20 := ⟨_, rfl⟩
  rw [← hs] at hmay
  simp only at hmay
  obtain ⟨g0, g1, g2, g3⟩ := mayB_to hmay
  have hch := (okB_ch o d g3).1
  obtain ⟨n, hp⟩ : ∃ p, p = o.length := ⟨_, rfl⟩
  rw [← hp] at g2
  obtain ⟨x, hx⟩ : ∃ x, x = la % 220 := ⟨_, rfl⟩
  obtain ⟨k, K, hk⟩ := pick_nat nu 17 (by omega)
  have hk16 : k ≤ 16 := by omega
  obtain ⟨S, hS⟩ : ∃ S, S = (sackAll x o).take k := ⟨_, rfl⟩
  obtain ⟨N, hN⟩ : ∃ N, N = S.length := ⟨_, rfl⟩
  have hNk : N = min k n := by rw [hN, hS, List.length_take, sackAll_len, hp]
  have hat : ∀ i y, S[i]? = some y → (sackAll x o)[i]? = some y := fun i y h => by
    rw [hS, List.getElem?_take] at h
    split at h
    · exact h
    · cases h
  obtain ⟨q, Q⟩ := came_bool (Came d o x)
  have HB := Lib.hid hb; have HN := Lib.hid hn; have HM := Lib.hid hmay; have HS := Lib.hid hs; have HP := Lib.hid hp; have HX := Lib.hid hx; have HSS := Lib.hid hS; have HNN := Lib.hid hN.symm; have HCH := Lib.hid hch; have HAT := Lib.hid hat
  have hN1 : N ≤ k := by omega
  have hN2 : N ≤ n := by omega
  have hN3 : k ≤ N ∨ n ≤ N := by omega
  have HN3 := Lib.hid hN3
  have hmin : (if (k : Int) < (n : Int) then (k : Int) else (n : Int)) = (N : Int) := by split <;> omega
  clear hb hn hmay hs hp hx hS hN hch hat g3 hk hNk hN3 hmin
  have cases1 : (k ≤ n ∧ ((N : Int) != (k : Int)) = false) ∨ (n < k ∧ ((N : Int) != (n : Int)) = false) := by
    have := HN3.out
    by_cases h : k ≤ n
    · exact .inl ⟨h, by simp; omega⟩
    · exact .inr ⟨by omega, by simp; omega⟩
  go_enter Try.func10, Try.ntmps10
  rcases cases1 with ⟨c1, c2⟩ | ⟨c1, c2⟩
  all_goals
    go_wp2_with (first
      | (go_at_call 21; refine (heap_v A m c 20 _ zs d o n _ HS.out HP.out rfl HB.out HN.out (by omega) (by omega)).mono ?_; rintro e w1 ⟨A1, c1', rfl, ho1, hbw1⟩; have O1 := Lib.hid ho1.rs; clear ho1)
      | (go_at_call 20; (with_reducible refine (picked_v la 220 x _ HX hl0 hl1 (by omega) (by omega)).mono ?_); rintro e w' ⟨rfl, rfl⟩)
      | (go_at_call 20; (with_reducible refine (picked_n nu 17 k _ K hu0 hu1 (by omega) (by omega)).mono ?_); rintro e w' ⟨rfl, rfl⟩)
      | (go_at_call 16; refine (sacks_v d A1 n c1' o x k S N _ HSS.out HNN.out O1.out HP.out.symm HM.out hk16).mono ?_; rintro e w4 ⟨As, cs, rfl, hs4, hb4⟩; have S4 := Lib.hid hs4; have O4 := Lib.hid (O1.out.below hb4); clear hs4))
    clear c1 c2
    go_loopw [14] (fun i wr => ∃ k' : Nat, k' ≤ N ∧ i = .int .i64 k' ∧ Below w4.heap.size w4 wr) (fun i _ => N - (intOf i).toNat)
    case atStart => exact ⟨0, Nat.zero_le _, rfl, Below.refl _ _⟩
    case round =>
      obtain ⟨i, hi, rfl, hb5⟩ := hrel
      by_cases hlt : i < N
      · obtain ⟨⟨s1, s2⟩, hx⟩ : ∃ x, S[i]? = some x := ⟨S[i]'(by rw [HNN.out]; exact hlt), List.getElem?_eq_getElem _⟩
        have hall := HAT.out i _ hx
        obtain ⟨p, hp, hpp⟩ : ∃ p, p < n ∧ o[p]? = some (s1, s2) := by
          have hm := (sackAll_mem x o _).1 (List.mem_of_getElem? hall)
          obtain ⟨p, hp, e⟩ := List.mem_iff_getElem.1 hm
          exact ⟨p, by rw [HP.out]; exact hp, by rw [List.getElem?_eq_getElem hp, e]⟩
        have hnh : 0 < i → ¬ (s1 ≤ x ∧ x < s2) := fun h0 ⟨g1, g2⟩ => by
          have := sack_later x o d HCH.out i _ h0 hall
          simp [hitB] at this
          omega
        have HX1 := Lib.hid hx; have HPP := Lib.hid hpp; have HNH := Lib.hid hnh
        clear hx hall hpp hnh
        go_wp2_with fail
        go_loopw [15, 16] (fun f j wr' => ∃ (jn : Nat) (f0 : Int), jn ≤ n ∧ j = .int .i64 jn ∧ f = .int .i64 f0 ∧ (p < jn ∧ f0 = 1 ∨ jn ≤ p ∧ f0 = 0) ∧ Below w4.heap.size w4 wr') (fun _ j _ => n - (intOf j).toNat)
        case atStart => exact ⟨0, 0, Nat.zero_le _, rfl, rfl, .inr ⟨Nat.zero_le _, rfl⟩, hb5⟩
        case round =>
          obtain ⟨j, f0, hj, rfl, rfl, hf, hb6⟩ := hrel
          by_cases hjn : j < n
          · obtain ⟨⟨y1, y2⟩, hy⟩ : ∃ y, o[j]? = some y := ⟨o[j]'(by rw [← HP.out]; exact hjn), List.getElem?_eq_getElem _⟩
            have hcase : (j ≠ p ∧ (y1 == s1) = false) ∨ (j ≠ p ∧ y1 = s1 ∧ (y2 == s2) = false) ∨ (j = p ∧ y1 = s1 ∧ y2 = s2) := by
              by_cases e : j = p
              · subst e
                rw [HPP.out] at hy
                injection hy with hy; injection hy with h1 h2
                exact .inr (.inr ⟨rfl, h1.symm, h2.symm⟩)
              · rcases two_ne (fun e2 : ((y1, y2) : Rg) = (s1, s2) => e (pair_idx (ch_pair o d HCH.out) j p (y1, y2) hy (e2 ▸ HPP.out))) with h | ⟨h, h2⟩
                · exact .inl ⟨e, by simpa using h⟩
                · exact .inr (.inl ⟨e, h, by simpa using h2⟩)
            obtain ⟨b1, o1, hA1, _, hc1, hc2⟩ := (O4.out.below hb6).at j _ hy
            obtain ⟨b2, o2, hA2, _, hc3, hc4⟩ := (S4.out.below hb6).at i _ HX1.out
            subst hA1; subst hA2
            simp only at hc1 hc2 hc3 hc4
            clear hy
            rcases hcase with ⟨hne, h1⟩ | ⟨hne, rfl, h2⟩ | ⟨rfl, rfl, rfl⟩
            · go_wp2_with fail
              go_quiet (fail)
              go_wp2_with fail
              go_roundw
              case rel => exact ⟨j + 1, f0, by omega, by go_num, rfl, by omega, below_drewN hb6 _⟩
              case measure => simp [intOf]; omega
            · go_wp2_with fail
              go_quiet (fail)
              go_wp2_with fail
              go_roundw
              case rel => exact ⟨j + 1, f0, by omega, by go_num, rfl, by omega, below_drewN hb6 _⟩
              case measure => simp [intOf]; omega
            · obtain rfl : f0 = 0 := by omega
              go_wp2_with fail
              go_quiet (fail)
              go_wp2_with fail
              go_roundw
              case rel => exact ⟨j + 1, 1, by omega, by go_num, by go_num, by omega, below_drewN hb6 _⟩
              case measure => simp [intOf]; omega
          · obtain rfl : f0 = 1 := by omega
            obtain rfl : j = n := by omega
            go_wp2_with fail
            go_loopw [17] (fun jv wr' => ∃ (jn : Nat), jn ≤ i ∧ jv = .int .i64 jn ∧ Below w4.heap.size w4 wr') (fun jv _ => i - (intOf jv).toNat)
            case atStart => exact ⟨0, Nat.zero_le _, rfl, hb6⟩
            case round =>
              obtain ⟨j2, hj2, rfl, hb7⟩ := hrel
              by_cases hji : j2 < i
              · obtain ⟨⟨y1, y2⟩, hy⟩ : ∃ y, S[j2]? = some y := ⟨S[j2]'(by rw [HNN.out]; omega), List.getElem?_eq_getElem _⟩
                have hcase : (y1 == s1) = false ∨ (y1 = s1 ∧ (y2 == s2) = false) := by
                  rcases two_ne (fun e2 : ((y1, y2) : Rg) = (s1, s2) => absurd (pair_idx (sack_pair x o d HCH.out) j2 i (y1, y2) (HAT.out _ _ hy) (e2 ▸ HAT.out _ _ HX1.out)) (by omega)) with h | ⟨h, h2⟩
                  · exact .inl (by simpa using h)
                  · exact .inr ⟨h, by simpa using h2⟩
                obtain ⟨b1, o1, hA1, _, hc1, hc2⟩ := (S4.out.below hb7).at j2 _ hy
                obtain ⟨b2, o2, hA2, _, hc3, hc4⟩ := (S4.out.below hb7).at i _ HX1.out
                subst hA1
                injection hA2 with hA2
                injection hA2 with e1 e2
                subst e1; subst e2
                simp only at hc1 hc2 hc3 hc4
                clear hy
                rcases hcase with h1 | ⟨rfl, h2⟩
                · go_wp2_with fail
                  go_quiet (fail)
                  go_wp2_with fail
                  go_roundw
                  case rel => exact ⟨j2 + 1, by omega, by go_num, below_drewN hb7 _⟩
                  case measure => simp [intOf]; omega
                · go_wp2_with fail
                  go_quiet (fail)
                  go_wp2_with fail
                  go_roundw
                  case rel => exact ⟨j2 + 1, by omega, by go_num, below_drewN hb7 _⟩
                  case measure => simp [intOf]; omega
              · obtain rfl : j2 = i := by omega
                obtain ⟨b2, o2, hA2, _, hc3, hc4⟩ := (S4.out.below hb7).at j2 _ HX1.out
                subst hA2
                simp only at hc3 hc4
                have hcase : j2 = 0 ∨ (0 < j2 ∧ x < s1) ∨ (0 < j2 ∧ s1 ≤ x ∧ s2 ≤ x) := by
                  rcases Nat.eq_zero_or_pos j2 with h | h
                  · exact .inl h
                  · have := HNH.out h
                    by_cases g : s1 ≤ x
                    · exact .inr (.inr ⟨h, g, by omega⟩)
                    · exact .inr (.inl ⟨h, by omega⟩)
                rcases hcase with h0 | ⟨h0, h1⟩ | ⟨h0, h1, h2⟩
                · subst h0
                  go_wp2_with fail
                  go_roundw
                  case rel => exact ⟨1, by omega, rfl, hb7⟩
                  case measure => simp [intOf]; omega
                all_goals
                  go_wp2_with fail
                  go_roundw
                  case rel => exact ⟨j2 + 1, by omega, by go_num, hb7⟩
                  case measure => simp [intOf]; omega
      · obtain rfl : i = N := by omega
        have hcase : k ≤ 0 ∨ (0 < k ∧ x < d) ∨ (0 < k ∧ d ≤ x ∧ q = false) ∨ (0 < k ∧ d ≤ x ∧ q = true) := by
          rcases Nat.eq_zero_or_pos k with h | h
          · exact .inl (by omega)
          · by_cases g : x < d
            · exact .inr (.inl ⟨h, g⟩)
            · cases q
              · exact .inr (.inr (.inl ⟨h, by omega, rfl⟩))
              · exact .inr (.inr (.inr ⟨h, by omega, rfl⟩))
        rcases hcase with h0 | ⟨h0, h1⟩ | ⟨h0, h1, rfl⟩ | ⟨h0, h1, rfl⟩
        · go_wp2_with fail
          go_ret
          exact ⟨rfl, bthen (bthen hbw1 hb4) hb5⟩
        · go_wp2_with fail
          go_ret
          exact ⟨rfl, bthen (bthen hbw1 hb4) hb5⟩
        · go_wp2_with (go_at_call 24; (with_reducible refine (has_any d A1 n c1' o x false _ Q (O4.out.below hb5) HP.out.symm g2).mono ?_); rintro e w' ⟨rfl, rfl⟩)
          go_ret
          exact ⟨rfl, bthen (bthen hbw1 hb4) hb5⟩
        · obtain ⟨⟨s1, s2⟩, hx, e1, e2⟩ := sack_first x o d HCH.out (by
            rcases (Q.out.1 rfl) with h | h
            · omega
            · exact h)
          have hx0 : S[0]? = some (s1, s2) := by rw [HSS.out, List.getElem?_take, if_pos h0]; exact hx
          obtain ⟨b2, o2, hA2, _, hc3, hc4⟩ := (S4.out.below hb5).at 0 _ hx0
          have hN0 : 0 < i := by
            have := (List.getElem?_eq_some_iff.1 hx0).1
            rw [HNN.out] at this
            exact this
          subst hA2
          simp only at hc3 hc4 e1 e2
          simp only [Nat.zero_mul, Nat.add_zero] at hc3 hc4
          clear hx hx0
          go_wp2_with (go_at_call 24; (with_reducible refine (has_any d A1 n c1' o x true _ Q (O4.out.below hb5) HP.out.symm g2).mono ?_); rintro e w' ⟨rfl, rfl⟩)
          go_ret
          exact ⟨rfl, bthen (bthen hbw1 hb4) hb5⟩

end Go.Proofs.Ytdfidmdgdajgoaa
