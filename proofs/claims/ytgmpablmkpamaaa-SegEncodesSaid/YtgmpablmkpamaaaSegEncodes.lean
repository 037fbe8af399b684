/-
  The law's walk: SegEncodes.
-/
import Derived.Test.YtgmpablmkpamaaaSegRef3
import Derived.Test.YtgmpablmkpamaaaSegSame
namespace Go.Proofs.Ytgmpablmkpamaaa
open Go.RowKit
set_option linter.unusedVariables false
set_option linter.unusedSimpArgs false

theorem walkSegEncodes (s : Sg) (A : Option Addr) (n c : Nat) (D : Option Addr) (m d : Nat) (w : World) (hs : SegIs w s A n D m) :
    Calls Try.prog 3 #[segV s A n c D m d] w fun e w' => e = .returned (.bool true) ∧ Below w.heap.size w w' := by
  have HS := Lib.hid hs
  by_cases hf : fault s = 0
  · have HF := Lib.hid hf
    obtain ⟨p1, p2, p3, n3, m64, _⟩ := fault_zero hf
    rw [hs.2.1] at n3
    rw [hs.2.2.2] at m64
    obtain ⟨N, hN⟩ : ∃ N, N = 10 + 4 * n + m := ⟨_, rfl⟩
    obtain ⟨X, hX⟩ : ∃ X, X = bytesOf s := ⟨_, rfl⟩
    have hN2 : N ≤ 86 := by omega
    have h1 : Hid (∀ w1 : World, Below w.heap.size w w1 → Calls Try.prog 9 #[segV s A n c D m d] w1 (RetE w1 N X)) := Lib.hid (fun w1 hb => by rw [hX]; exact encode_ok s A n c D m d N w1 (HS.out.below hb) HF.out hN.symm)
    have h2 : Hid (∀ w1 : World, Below w.heap.size w w1 → Calls Try.prog 10 #[segV s A n c D m d] w1 (RetE w1 N X)) := Lib.hid (fun w1 hb => by rw [hX]; exact refenc_ok s A n c D m d N w1 (HS.out.below hb) HF.out hN.symm)
    clear hs hf p1 p2 p3 hN hX HS HF
    obtain ⟨seq, ack, win, f0, f1, f2, f3, l, zs⟩ := s
    unfold segV at h1 h2 ⊢
    simp only at h1 h2 ⊢
    go_enter Try.func3, Try.ntmps3
    go_wp2_with (first
      | (go_at_call 9; refine (h1.out _ (ba1 _ _)).mono ?_; rintro e w1 ⟨A1, c1, rfl, ho1, hb1⟩; have O1 := Lib.hid ho1; have k0 := hb1.cell (p := ⟨w.heap.size, 0, none⟩) (by simp <;> omega); have k1 := hb1.cell (p := ⟨w.heap.size, 1, none⟩) (by simp <;> omega); have k2 := hb1.cell (p := ⟨w.heap.size, 2, none⟩) (by simp <;> omega); have k3 := hb1.cell (p := ⟨w.heap.size, 3, none⟩) (by simp <;> omega); have k4 := hb1.cell (p := ⟨w.heap.size, 4, none⟩) (by simp <;> omega); have k5 := hb1.cell (p := ⟨w.heap.size, 5, none⟩) (by simp <;> omega); have k6 := hb1.cell (p := ⟨w.heap.size, 6, none⟩) (by simp <;> omega); have k7 := hb1.cell (p := ⟨w.heap.size, 7, none⟩) (by simp <;> omega); have k8 := hb1.cell (p := ⟨w.heap.size, 8, none⟩) (by simp <;> omega); simp at k0 k1 k2 k3 k4 k5 k6 k7 k8; have HB1 := Lib.hid (bthen (ba1 _ _) hb1); clear ho1 hb1)
      | (go_at_call 10; refine (h2.out _ HB1.out).mono ?_; rintro e w2 ⟨A2, c2, rfl, ho2, hb2⟩; have O2 := Lib.hid ho2; have HB2 := Lib.hid hb2; clear ho2 hb2)
      | (go_at_call 11; refine (bytes_law A1 N c1 A2 c2 X _ (O1.out.bs.below HB2.out) O2.out.bs O1.out.2.1 (by omega)).mono ?_; rintro e w3 ⟨rfl, hb3⟩; have HB3 := Lib.hid hb3; clear hb3))
    go_ret
    exact ⟨rfl, bthen (bthen HB1.out HB2.out) HB3.out⟩
  · obtain ⟨q, hq⟩ : ∃ q, q = fault s := ⟨_, rfl⟩
    have h1 : Hid (∀ w1 : World, Below w.heap.size w w1 → Calls Try.prog 9 #[segV s A n c D m d] w1 fun e w' => e = .returned (.tuple #[.slice none 0 0, .int .i64 q]) ∧ Below w1.heap.size w1 w') := Lib.hid (fun w1 hb => by rw [hq]; exact encode_no s A n c D m d w1 (HS.out.below hb) hf)
    have h2 : Hid (∀ w1 : World, Below w.heap.size w w1 → Calls Try.prog 10 #[segV s A n c D m d] w1 fun e w' => e = .returned (.tuple #[.slice none 0 0, .int .i64 q]) ∧ Below w1.heap.size w1 w') := Lib.hid (fun w1 hb => by rw [hq]; exact refenc_no s A n c D m d w1 (HS.out.below hb) hf)
    clear hs hf hq HS
    obtain ⟨seq, ack, win, f0, f1, f2, f3, l, zs⟩ := s
    unfold segV at h1 h2 ⊢
    simp only at h1 h2 ⊢
    go_enter Try.func3, Try.ntmps3
    go_wp2_with (first
      | (go_at_call 9; refine (h1.out _ (ba1 _ _)).mono ?_; rintro e w1 ⟨rfl, hb1⟩; have k0 := hb1.cell (p := ⟨w.heap.size, 0, none⟩) (by simp <;> omega); have k1 := hb1.cell (p := ⟨w.heap.size, 1, none⟩) (by simp <;> omega); have k2 := hb1.cell (p := ⟨w.heap.size, 2, none⟩) (by simp <;> omega); have k3 := hb1.cell (p := ⟨w.heap.size, 3, none⟩) (by simp <;> omega); have k4 := hb1.cell (p := ⟨w.heap.size, 4, none⟩) (by simp <;> omega); have k5 := hb1.cell (p := ⟨w.heap.size, 5, none⟩) (by simp <;> omega); have k6 := hb1.cell (p := ⟨w.heap.size, 6, none⟩) (by simp <;> omega); have k7 := hb1.cell (p := ⟨w.heap.size, 7, none⟩) (by simp <;> omega); have k8 := hb1.cell (p := ⟨w.heap.size, 8, none⟩) (by simp <;> omega); simp at k0 k1 k2 k3 k4 k5 k6 k7 k8; have HB1 := Lib.hid (bthen (ba1 _ _) hb1); clear hb1)
      | (go_at_call 10; refine (h2.out _ HB1.out).mono ?_; rintro e w2 ⟨rfl, hb2⟩; have HB2 := Lib.hid hb2; clear hb2)
      | (go_at_call 11; refine (bytes_law none 0 0 none 0 [] _ ⟨by simp, .inl rfl⟩ ⟨by simp, .inl rfl⟩ rfl (by omega)).mono ?_; rintro e w3 ⟨rfl, hb3⟩; have HB3 := Lib.hid hb3; clear hb3))
    go_ret
    exact ⟨rfl, bthen (bthen HB1.out HB2.out) HB3.out⟩

end Go.Proofs.Ytgmpablmkpamaaa
