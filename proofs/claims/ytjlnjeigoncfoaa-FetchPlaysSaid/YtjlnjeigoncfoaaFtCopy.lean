/-
  Bytes that are copied into a file.
-/
import Derived.Test.YtjlnjeigoncfoaaFtMem
import Derived.Lib.SliceRun
namespace Go.Proofs.Ytjlnjeigoncfoaa
open Go.RowKit
set_option linter.unusedVariables false
set_option linter.unusedSimpArgs false

theorem byOne : (Try.prog.info? 5).map (·.size) = some 1 := by kernel_rfl
theorem ft_copy {w : World} {T : Nat → Prop} {B : Nat} {s : Fs} (h : FM w T B s) (k : Nat) (X : Option Addr) (m d : Nat) (ys : List Int) (hb : Ls byS w X ys) (hm : ys.length = m) (hk : k + m ≤ 2148) :
    ∃ w', (∀ ty d', (Builtin.copy_ #[28, 28] ty #[.slice (some ⟨B, k, none⟩) (2148 - k) d', .slice X m d]).run Try.prog w = .ok (goInt m) w') ∧ FM w' T B { s with dat := splice s.dat k ys } ∧ Only (fun j => j = B) w w' := by
  rcases Nat.eq_zero_or_pos m with h0 | h0
  · subst h0
    obtain rfl : ys = [] := List.eq_nil_of_length_eq_zero hm
    have e : splice s.dat k [] = s.dat := by unfold splice; simp
    refine ⟨w, fun ty d' => run_copy_none (P := Try.prog) w _ _ ty 5 _ _ _ _ _ _ Try.underlying28 byOne (Nat.zero_min _), ?_, Only.refl _ _⟩
    rw [e]; exact h
  · obtain ⟨A, c, h1, h2, h3, h4, h5⟩ := h
    have hroom : s.dat.length = 2148 := h5
    rcases hb with hb | ⟨b, o, rfl, hlt, hcell⟩
    · exfalso
      have := congrArg List.length hb
      rw [byS.flat_len] at this
      simp [byS] at this
      rw [this] at hm; simp at hm; omega
    · have hfl : (byS.flat ys).length = m := by rw [byS.flat_len]; simp [byS]; exact hm
      have hmin : m = Nat.min m (2148 - k) := (Nat.min_eq_left (by omega)).symm
      have hcl : (ftL s A c).length = 2152 := by unfold ftL; rw [List.length_append, List.length_map, hroom]; rfl
      have hrun := fun ty d' => run_copy_rowsAt (P := Try.prog) w 28 28 ty 5 B k (2148 - k) d' ⟨b, o, none⟩ m d 1 m (ftL s A c).toArray 46 (byS.flat ys) Try.underlying28 byOne h1 hmin (by rw [hfl]; simp) (fun j v hj => by rw [addr_add]; exact hcell j v hj) (by rw [hfl]; simp [hcl]; omega) (byS.flat_one ys)
      refine ⟨_, hrun, ⟨A, c, ?_, ?_, h3, h4, by show (splice s.dat k ys).length = _; rw [splice_len _ _ _ (by rw [hm, hroom]; omega)]; exact h5⟩, ⟨rfl, rfl, rfl, by simp [World.setRow], fun j _ hj => setRow_other _ _ _ _ hj⟩⟩
      · have e : (ftL s A c).toArray.toList.take k ++ byS.flat ys ++ (ftL s A c).toArray.toList.drop (k + (byS.flat ys).length) = ftL { s with dat := splice s.dat k ys } A c := by
          rw [hfl, flat_by]
          show (ftL s A c).take k ++ _ ++ (ftL s A c).drop (k + m) = _
          unfold ftL splice
          simp only
          rw [List.take_append_of_le_length (by rw [List.length_map, hroom]; omega), List.drop_append_of_le_length (by rw [List.length_map, hroom]; omega), hm]
          simp [List.map_take, List.map_drop]
        have := setRow_heap w B (ftL s A c).toArray ((ftL s A c).toArray.toList.take k ++ byS.flat ys ++ (ftL s A c).toArray.toList.drop (k + (byS.flat ys).length)).toArray 46 (0, 0) h1
        unfold Bx
        rw [this, e]
      · exact h2.only (S := fun j => j = B) ⟨rfl, rfl, rfl, by simp [World.setRow], fun j _ hj => setRow_other _ _ _ _ hj⟩ (fun j hj e => by have := (h2.lt j hj).1; omega)

end Go.Proofs.Ytjlnjeigoncfoaa
