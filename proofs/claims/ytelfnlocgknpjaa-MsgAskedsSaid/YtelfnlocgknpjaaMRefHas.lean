/-
  The document's has and msgNames.
-/
import Derived.Test.YtelfnlocgknpjaaText
import Derived.Test.YtelfnlocgknpjaaKit
import Derived.Test.YtelfnlocgknpjaaTool
namespace Go.Proofs.Ytelfnlocgknpjaa
open Go.RowKit
set_option linter.unusedVariables false
set_option linter.unusedSimpArgs false

def hasI (l : Byt) (b : Int) : Bool := (List.range l.length).any fun k => bn l k == b
theorem hasI_true {l : Byt} {b : Int} {k : Nat} (hk : k < l.length) (h : bn l k = b) : hasI l b = true := by
  unfold hasI
  rw [List.any_eq_true]
  exact ⟨k, List.mem_range.2 hk, by simpa using h⟩
theorem hasI_false {l : Byt} {b : Int} (h : ∀ j, j < l.length → ¬ bn l j = b) : hasI l b = false := by
  unfold hasI
  rw [List.any_eq_false]
  intro j hj
  simpa using h j (List.mem_range.1 hj)
set_option maxHeartbeats 1000000 in
theorem has_any (l : Byt) (b : Int) (w : World) (hl : l.length ≤ 16) :
    Calls Try.prog 47 #[.string (tx l), .int .u8 b] w fun e w' => e = .returned (.bool (hasI l b)) ∧ w' = w := by
  have hsz := tx_size l
  have hg := bn_get l
  obtain ⟨n, hn⟩ : ∃ n, n = l.length := ⟨_, rfl⟩
  rw [← hn] at hsz hl
  have HN := Lib.hid hn
  clear hn
  go_enter Try.func47, Try.ntmps47
  go_wp2_with fail
  go_loop [5] (fun i => ∃ k : Nat, i = .int .i64 (k : Int) ∧ k ≤ n ∧ Hid (∀ j, j < k → ¬ bn l j = b)) (fun i => n - (intOf i).toNat)
  case atStart => exact ⟨0, rfl, Nat.zero_le _, Lib.hid fun j hj => by omega⟩
  case round =>
    obtain ⟨k, rfl, hk, HF⟩ := hrel
    by_cases hlt : k < n
    · have hlti : (k : Int) < (n : Int) := by omega
      have hb0 := bn_nonneg l k
      have hb1 := bn_le l k
      by_cases hz : bn l k = b
      · have HV : Hid (hasI l b = true) := Lib.hid (hasI_true (by rw [← HN.out]; exact hlt) hz)
        have hz1 : (bn l k == b) = true := by simpa using hz
        clear hz
        go_wp2_with fail
        go_ret
        exact ⟨by rw [HV.out]; simp_all, rfl⟩
      · have hz1 : (bn l k == b) = false := by simpa using hz
        have HZ := Lib.hid hz
        clear hz
        go_wp2_with fail
        go_round
        case rel => exact ⟨k + 1, by simp, by omega, Lib.hid fun j hj => by
          by_cases e : j = k
          · rw [e]; exact HZ.out
          · exact HF.out j (by omega)⟩
        case measure => simp [intOf]; omega
    · have hlti : ¬ (k : Int) < (n : Int) := by omega
      have HV : Hid (hasI l b = false) := Lib.hid (hasI_false fun j hj => HF.out j (by rw [← HN.out] at hj; omega))
      go_wp2_with fail
      go_ret
      exact ⟨by rw [HV.out]; rfl, rfl⟩

def nmsK (kd : Nat) : Byt := ([[], [112, 104], [110], [110, 97, 99], [110, 97, 100], [112], [112], [112], [112], [112, 116], [112, 116]] : List Byt).getD kd []
set_option maxHeartbeats 8000000 in
theorem msgNames_any (k : Nat) (hk : 1 ≤ k ∧ k ≤ 10) (w : World) :
    Calls Try.prog 32 #[.int .i64 (k : Int)] w fun e w' => e = .returned (.string (tx (nmsK k))) ∧ Below w.heap.size w w' := by
  have : k = 1 ∨ k = 2 ∨ k = 3 ∨ k = 4 ∨ k = 5 ∨ k = 6 ∨ k = 7 ∨ k = 8 ∨ k = 9 ∨ k = 10 := by omega
  rcases this with rfl | rfl | rfl | rfl | rfl | rfl | rfl | rfl | rfl | rfl
  all_goals
    go_enter Try.func32, Try.ntmps32
    go_wp2_with fail
    go_ret
    exact ⟨rfl, ba1 _ _⟩

end Go.Proofs.Ytelfnlocgknpjaa
