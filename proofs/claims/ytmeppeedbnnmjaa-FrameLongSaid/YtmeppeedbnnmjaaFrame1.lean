/-
  The program's frame.Wrap, frame.length; slices.Grow of nothing, slices.Concat of two.
-/
import Derived.Test.YtmeppeedbnnmjaaFrameMath
import Derived.Test.YtmeppeedbnnmjaaLists
import Derived.Test.YtmeppeedbnnmjaaClone
import Derived.Test.YtmeppeedbnnmjaaZeros
import Derived.Laws.BitsLemmas
namespace Go.Proofs.Ytmeppeedbnnmjaa
open Go.RowKit
set_option linter.unusedVariables false
set_option linter.unusedSimpArgs false

theorem OwnL.somewhere {α : Type} {F : Shape α} {e : TypeId} {w : World} {base : Nat} {A : Option Addr} {n c : Nat} {l : List α} (h : OwnL F e w base A n c l) (hn : 0 < n) : ∃ g, A = some ⟨g, 0, none⟩ ∧ base ≤ g ∧ g < w.heap.size := by
  rcases h.addr with ⟨-, g, -⟩ | ⟨g, rfl, hg⟩
  · omega
  · exact ⟨g, rfl, (h.lt g rfl).1, hg⟩
theorem wraps_i64' (n : Int) (h₀ : 0 ≤ n) (h₁ : n < 2 ^ 63) : IntKind.i64.wrap n = n := by rw [IntKind.wrap_i64]; omega
theorem or8 (x y : Int) (h0 : 0 ≤ x) (h1 : x ≤ 16777215) (h2 : 0 ≤ y) (h3 : y ≤ 255) : bits .or .i64 (x * 256) y = x * 256 + y :=
  bits_join .i64 63 (by decide) wraps_i64' 8 (x * 256) y (by omega) (by omega) (by omega) h2 (by omega) (by omega)

theorem wrap_size (A : Option Addr) (n c : Nat) (w : World) (h : 1024 < n) :
    Calls Try.prog 8 #[.slice A n c] w fun e w' => e = .returned (.tuple #[.slice none 0 0, .int .i64 1]) ∧ w' = w := by
  have h1 : (1024 : Int) < (n : Int) := by omega
  go_enter Try.func8, Try.ntmps8
  go_wp2
  go_ret2
  exact ⟨rfl, rfl⟩
set_option maxHeartbeats 1000000 in
theorem wrap_ok (A : Option Addr) (n c : Nat) (zs : List Int) (w : World) (hb : Ls byS w A zs) (hn : zs.length = n) (hm : n ≤ 1024) :
    Calls Try.prog 8 #[.slice A n c] w fun e w' => ∃ A' c', e = .returned (.tuple #[.slice A' (4 + n) c', .int .i64 0]) ∧ OwnL byS 5 w' w.heap.size A' (4 + n) c' (wrap1 zs) ∧ Below w.heap.size w w' := by
  have HB := Lib.hid hb
  have HN := Lib.hid hn
  clear hb hn
  have h1 : ¬ (1024 : Int) < (n : Int) := by omega
  have HW : Hid ([] ++ [(n : Int) / 16777216, (n : Int) / 65536, (n : Int) / 256, (n : Int) % 256] ++ zs = wrap1 zs) := Lib.hid (by
    rw [wrap1, HN.out, show (n : Int) / 16777216 = 0 by omega, show (n : Int) / 65536 = 0 by omega]; rfl)
  go_enter Try.func8, Try.ntmps8
  go_wp2_with (first
    | (at_make; refine wpList_makeL (F := byS) rfl _ _ _ 22 rfl _ 1 Try.underlying22 byInfo w.heap.size _ _ _ (4 + n) rfl (by go_num) (by go_num) (by omega) (by omega) (by omega) ?_; intro w2 ho2 hb2 hs2; have O2 := Lib.hid ho2; have HB2 := Lib.hid hb2; clear ho2 hb2 hs2)
    | (at_builtin; refine wpList_appL (F := byS) rfl _ (.tmp 13) (.tmp 25) 22 rfl _ 1 Try.underlying22 byInfo rfl w.heap.size (some ⟨w.heap.size, 0, none⟩) 0 (4 + n) [] rfl (O2.out.below (ba1 _ _)) (some ⟨w2.heap.size, 0, none⟩) 4 4 [(n : Int) / 16777216, (n : Int) / 65536, (n : Int) / 256, (n : Int) % 256] rfl (ls_new w2 _ _ _ rfl _ rfl) rfl 4 (by omega) (by omega) (by omega) (by have := HB2.out.size; simp; omega) ?_; intro A3 c3 w3 ho3 hb3 hs3; have O3 := Lib.hid ho3; have HB3 : Hid (Below w.heap.size w w3) := Lib.hid ((bthen HB2.out (ba1 _ _)).trans hb3); clear ho3 hb3 hs3)
    | (at_builtin; refine wpList_appL (F := byS) rfl _ (.tmp 27) (.tmp 28) 22 rfl _ 1 Try.underlying22 byInfo rfl w.heap.size A3 4 c3 _ rfl O3.out A n c zs rfl (HB.out.below HB3.out) HN.out (4 + n) (by omega) (by omega) (by omega) (by have := HB3.out.size; omega) ?_; intro A4 c4 w4 ho4 hb4 hs4; rw [HW.out] at ho4; have O4 := Lib.hid ho4; have HB4 : Hid (Below w.heap.size w w4) := Lib.hid (HB3.out.trans hb4); clear ho4 hb4 hs4))
  go_ret2
  exact ⟨A4, c4, rfl, O4.out, HB4.out⟩

theorem length_any (A : Option Addr) (n c : Nat) (zs : List Int) (w : World) (hb : Ls byS w A zs) (hn : zs.length = n) (h4 : 4 ≤ n) (hc : n ≤ c) (hm : n ≤ 1000000000) (ho : octs zs) :
    Calls Try.prog 20 #[.slice A n c] w fun e w' => e = .returned (.int .i64 (len4 zs)) ∧ w' = w := by
  obtain ⟨b, o, rfl, hlt, -⟩ := hb.at 0 (zs.getD 0 0) (by rw [List.getD_eq_getElem?_getD, List.getElem?_eq_getElem (by omega)]; rfl)
  have cl : ∀ k, k < n → w.cell? ⟨b, o + k, none⟩ = some (.int .u8 (zs.getD k 0)) := fun k hk => by
    obtain ⟨b', o', hA, -, hc⟩ := hb.at k (zs.getD k 0) (by rw [List.getD_eq_getElem?_getD, List.getElem?_eq_getElem (by omega)]; rfl)
    injection hA with hA; injection hA with e1 e2
    subst e1; subst e2
    have := hc 0 (.int .u8 (zs.getD k 0)) rfl
    simpa [byS] using this
  have g0 := cl 0 (by omega)
  have g1 := cl 1 (by omega)
  have g2 := cl 2 (by omega)
  have g3 := cl 3 (by omega)
  obtain ⟨x0, hx0⟩ : ∃ x, x = zs.getD 0 0 := ⟨_, rfl⟩
  obtain ⟨x1, hx1⟩ : ∃ x, x = zs.getD 1 0 := ⟨_, rfl⟩
  obtain ⟨x2, hx2⟩ : ∃ x, x = zs.getD 2 0 := ⟨_, rfl⟩
  obtain ⟨x3, hx3⟩ : ∃ x, x = zs.getD 3 0 := ⟨_, rfl⟩
  have b0 := ho.get 0
  have b1 := ho.get 1
  have b2 := ho.get 2
  have b3 := ho.get 3
  rw [← hx0] at g0 b0
  rw [← hx1] at g1 b1
  rw [← hx2] at g2 b2
  rw [← hx3] at g3 b3
  have HV : Hid (((x0 * 256 + x1) * 256 + x2) * 256 + x3 = len4 zs) := Lib.hid (by rw [hx0, hx1, hx2, hx3]; rfl)
  obtain ⟨b00, b01⟩ := b0
  obtain ⟨b10, b11⟩ := b1
  obtain ⟨b20, b21⟩ := b2
  obtain ⟨b30, b31⟩ := b3
  have o0 : bits .or .i64 0 x0 = x0 := by have := or8 0 x0 (by omega) (by omega) b00 b01; simpa using this
  have o1 := or8 x0 x1 (by omega) (by omega) b10 b11
  have o2 := or8 (x0 * 256 + x1) x2 (by omega) (by omega) b20 b21
  have o3 := or8 ((x0 * 256 + x1) * 256 + x2) x3 (by omega) (by omega) b30 b31
  simp only [Nat.add_zero] at g0
  clear hb cl hx0 hx1 hx2 hx3 hn ho
  go_enter Try.func20, Try.ntmps20
  go_wp2
  go_loop [3, 9] (fun s i => (s = .int .i64 0 ∧ i = .int .i64 0) ∨ (s = .int .i64 x0 ∧ i = .int .i64 1) ∨ (s = .int .i64 (x0 * 256 + x1) ∧ i = .int .i64 2) ∨ (s = .int .i64 ((x0 * 256 + x1) * 256 + x2) ∧ i = .int .i64 3) ∨ (s = .int .i64 (((x0 * 256 + x1) * 256 + x2) * 256 + x3) ∧ i = .int .i64 4)) (fun _ i => 4 - (intOf i).toNat)
  case atStart => exact .inl ⟨rfl, rfl⟩
  case round =>
    rcases hrel with ⟨rfl, rfl⟩ | ⟨rfl, rfl⟩ | ⟨rfl, rfl⟩ | ⟨rfl, rfl⟩ | ⟨rfl, rfl⟩
    · go_wp2
      go_round
      case rel => exact .inr (.inl ⟨by go_num, by go_num⟩)
      case measure => simp [intOf]
    · go_wp2
      go_round
      case rel => exact .inr (.inr (.inl ⟨by go_num, by go_num⟩))
      case measure => simp [intOf]
    · go_wp2
      go_round
      case rel => exact .inr (.inr (.inr (.inl ⟨by go_num, by go_num⟩)))
      case measure => simp [intOf]
    · go_wp2
      go_round
      case rel => exact .inr (.inr (.inr (.inr ⟨by go_num, by go_num⟩)))
      case measure => simp [intOf]
    · go_wp2
      go_ret
      exact ⟨by rw [HV.out]; rfl, rfl⟩

end Go.Proofs.Ytmeppeedbnnmjaa
