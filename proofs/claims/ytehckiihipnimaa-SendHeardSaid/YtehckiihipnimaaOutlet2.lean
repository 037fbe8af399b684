/-
  The document's islands.
-/
import Derived.Test.YtehckiihipnimaaOutlet1
namespace Go.Proofs.Ytehckiihipnimaa
open Go.RowKit
set_option linter.unusedVariables false
set_option linter.unusedSimpArgs false

theorem isl_low (l : List Bool) : ∀ k, (∀ j, j < k → hd l j = true) → isl l k = 0
  | 0, _ => rfl
  | k + 1, h => by
    unfold isl
    rw [isl_low l k (fun j hj => h j (by omega)), h k (by omega), h (k - 1) (by omega)]
    rfl
theorem isl_le (l : List Bool) : ∀ k, isl l k ≤ k
  | 0 => Nat.le_refl _
  | k + 1 => by unfold isl; have := isl_le l k; split <;> omega
theorem hd_some {l : List Bool} {k : Nat} {x : Bool} (h : l[k]? = some x) : hd l k = x := by unfold hd; rw [List.getD_eq_getElem?_getD, h]; rfl

set_option maxHeartbeats 1000000 in
theorem islands_any (A : Option Addr) (m c : Nat) (l : List Bool) (w : World) (hb : Ls blS w A l) (hm : l.length = m) (hmm : m ≤ 1048577) :
    Calls Try.prog 72 #[.slice A m c] w fun e w' => e = .returned (.int .i64 (islands l : Nat)) ∧ w' = w := by
  have HM := Lib.hid hm
  rcases hb.all (fun b => .bool b) (fun _ => rfl) with rfl | ⟨b, o, rfl, hbs, hcells⟩
  · obtain rfl : m = 0 := by rw [← hm]; rfl
    clear hb hm
    go_enter Try.func72, Try.ntmps72
    go_wp2
    go_loop [3] (fun i => i = .int .i64 0) (fun i => 0)
    case atStart => rfl
    case round =>
      subst hrel
      go_wp2
      go_loop [4, 5] (fun n i => n = .int .i64 0 ∧ i = .int .i64 0) (fun _ i => 0)
      case atStart => exact ⟨rfl, rfl⟩
      case round =>
        obtain ⟨rfl, rfl⟩ := hrel
        go_wp2
        go_ret
        exact ⟨rfl, rfl⟩
  have HC : Hid (∀ k x, l[k]? = some x → w.cell? ⟨b, o + k, none⟩ = some (.bool x)) := Lib.hid hcells
  clear hb hm hcells
  go_enter Try.func72, Try.ntmps72
  go_wp2
  go_loop [3] (fun i => ∃ k : Nat, k ≤ m ∧ i = .int .i64 k ∧ ∀ j, j < k → hd l j = true) (fun i => m - (intOf i).toNat)
  case atStart => exact ⟨0, Nat.zero_le _, rfl, fun j hj => absurd hj (by omega)⟩
  case round =>
    obtain ⟨k, hk, rfl, hall⟩ := hrel
    have HA := Lib.hid hall
    clear hall
    have ex : (k < m ∧ l[k]? = some true) ∨ (k < m ∧ l[k]? = some false) ∨ k = m := by
      by_cases h : k < m
      · obtain ⟨x, hx⟩ : ∃ x, l[k]? = some x := ⟨_, List.getElem?_eq_getElem (by rw [HM.out]; exact h)⟩
        cases x
        · exact .inr (.inl ⟨h, hx⟩)
        · exact .inl ⟨h, hx⟩
      · exact .inr (.inr (by omega))
    have second : Hid ((k < m ∧ hd l k = false) ∨ k = m → isl l k = 0 ∧ (k = 0 → hd l 0 = false ∨ m = 0)) := Lib.hid (fun hx => ⟨isl_low l k HA.out, fun h0 => by subst h0; rcases hx with hx | hx; exact .inl hx.2; exact .inr hx.symm⟩)
    rcases ex with ⟨hlt, hx⟩ | ⟨hlt, hx⟩ | hkm
    · have hc := HC.out k _ hx
      have hki : (k : Int) < (m : Int) := by omega
      have HX := Lib.hid hx
      clear hx
      go_wp2
      exact ⟨⟨k + 1, by omega, by go_num, fun j hj => by rcases Nat.lt_or_ge j k with g | g; exact HA.out j g; rw [show j = k by omega]; exact hd_some HX.out⟩, by simp [intOf]; omega⟩
    · have HZ := Lib.hid (second.out (.inl ⟨hlt, hd_some hx⟩))
      have hc := HC.out k _ hx
      have hki : (k : Int) < (m : Int) := by omega
      clear hx second HA
      go_wp2
      clear hc
      go_loop [4, 5] (fun n i => ∃ j : Nat, k ≤ j ∧ j ≤ m ∧ i = .int .i64 j ∧ n = .int .i64 (isl l j : Nat)) (fun _ i => m - (intOf i).toNat)
      case atStart => exact ⟨k, Nat.le_refl _, hk, rfl, by rw [HZ.out.1]; rfl⟩
      case round =>
        obtain ⟨j, hkj, hj, rfl, rfl⟩ := hrel
        by_cases hjm : j < m
        · obtain ⟨x, hx⟩ : ∃ x, l[j]? = some x := ⟨_, List.getElem?_eq_getElem (by rw [HM.out]; exact hjm)⟩
          have hc := HC.out j _ hx
          have hji : (j : Int) < (m : Int) := by omega
          have hle := isl_le l j
          obtain ⟨q, hq⟩ : ∃ q, q = isl l j := ⟨_, rfl⟩
          rw [← hq] at hle ⊢
          have hxx := hd_some hx
          have hst : isl l (j + 1) = q + (if x && !hd l (j - 1) then 1 else 0) := by rw [hq, ← hxx]; rfl
          rcases x with _ | _
          · have HST : Hid (isl l (j + 1) = q) := Lib.hid (by rw [hst]; rfl)
            clear hx hxx hst hq
            go_wp2
            exact ⟨⟨j + 1, by omega, by omega, by go_num, by rw [HST.out]⟩, by simp [intOf]; omega⟩
          · have hj0 : 0 < j := by
              rcases Nat.eq_zero_or_pos j with h0 | h0
              · subst h0
                rcases HZ.out.2 (by omega) with g | g
                · rw [g] at hxx; cases hxx
                · omega
              · exact h0
            obtain ⟨y, hy⟩ : ∃ y, l[j - 1]? = some y := ⟨_, List.getElem?_eq_getElem (by rw [HM.out]; omega)⟩
            have hc' := HC.out (j - 1) _ hy
            rw [hd_some hy] at hst
            have hi1 : ((j : Int) - 1).toNat = j - 1 := by omega
            have hi2 : (0 : Int) ≤ (j : Int) - 1 := by omega
            have hi3 : (j : Int) - 1 < (m : Int) := by omega
            rcases y with _ | _
            · have HST : Hid (isl l (j + 1) = q + 1) := Lib.hid (by rw [hst]; rfl)
              clear hx hxx hst hq hy
              go_wp2
              exact ⟨⟨j + 1, by omega, by omega, by go_num, by rw [HST.out]; go_num⟩, by simp [intOf]; omega⟩
            · have HST : Hid (isl l (j + 1) = q) := Lib.hid (by rw [hst]; rfl)
              clear hx hxx hst hq hy
              go_wp2
              exact ⟨⟨j + 1, by omega, by omega, by go_num, by rw [HST.out]⟩, by simp [intOf]; omega⟩
        · obtain rfl : j = m := by omega
          go_wp2
          go_ret
          exact ⟨by unfold islands; rw [HM.out]; first | done | rfl, rfl⟩
    · have HZ := Lib.hid (second.out (.inr hkm))
      have hki : ¬ (k : Int) < (m : Int) := by omega
      clear second HA hkm
      go_wp2
      go_loop [4, 5] (fun n i => ∃ j : Nat, k ≤ j ∧ j ≤ m ∧ i = .int .i64 j ∧ n = .int .i64 (isl l j : Nat)) (fun _ i => m - (intOf i).toNat)
      case atStart => exact ⟨k, Nat.le_refl _, hk, rfl, by rw [HZ.out.1]; rfl⟩
      case round =>
        obtain ⟨j, hkj, hj, rfl, rfl⟩ := hrel
        by_cases hjm : j < m
        · obtain ⟨x, hx⟩ : ∃ x, l[j]? = some x := ⟨_, List.getElem?_eq_getElem (by rw [HM.out]; exact hjm)⟩
          have hc := HC.out j _ hx
          have hji : (j : Int) < (m : Int) := by omega
          have hle := isl_le l j
          obtain ⟨q, hq⟩ : ∃ q, q = isl l j := ⟨_, rfl⟩
          rw [← hq] at hle ⊢
          have hxx := hd_some hx
          have hst : isl l (j + 1) = q + (if x && !hd l (j - 1) then 1 else 0) := by rw [hq, ← hxx]; rfl
          rcases x with _ | _
          · have HST : Hid (isl l (j + 1) = q) := Lib.hid (by rw [hst]; rfl)
            clear hx hxx hst hq
            go_wp2
            exact ⟨⟨j + 1, by omega, by omega, by go_num, by rw [HST.out]⟩, by simp [intOf]; omega⟩
          · have hj0 : 0 < j := by
              rcases Nat.eq_zero_or_pos j with h0 | h0
              · subst h0
                rcases HZ.out.2 (by omega) with g | g
                · rw [g] at hxx; cases hxx
                · omega
              · exact h0
            obtain ⟨y, hy⟩ : ∃ y, l[j - 1]? = some y := ⟨_, List.getElem?_eq_getElem (by rw [HM.out]; omega)⟩
            have hc' := HC.out (j - 1) _ hy
            rw [hd_some hy] at hst
            have hi1 : ((j : Int) - 1).toNat = j - 1 := by omega
            have hi2 : (0 : Int) ≤ (j : Int) - 1 := by omega
            have hi3 : (j : Int) - 1 < (m : Int) := by omega
            rcases y with _ | _
            · have HST : Hid (isl l (j + 1) = q + 1) := Lib.hid (by rw [hst]; rfl)
              clear hx hxx hst hq hy
              go_wp2
              exact ⟨⟨j + 1, by omega, by omega, by go_num, by rw [HST.out]; go_num⟩, by simp [intOf]; omega⟩
            · have HST : Hid (isl l (j + 1) = q) := Lib.hid (by rw [hst]; rfl)
              clear hx hxx hst hq hy
              go_wp2
              exact ⟨⟨j + 1, by omega, by omega, by go_num, by rw [HST.out]⟩, by simp [intOf]; omega⟩
        · obtain rfl : j = m := by omega
          go_wp2
          go_ret
          exact ⟨by unfold islands; rw [HM.out]; first | done | rfl, rfl⟩

end Go.Proofs.Ytehckiihipnimaa
