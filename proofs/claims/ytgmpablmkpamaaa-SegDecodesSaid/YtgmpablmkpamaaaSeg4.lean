/-
  Contracts of package seg's inner functions: numbers laid behind bytes; the number that two bytes are.
-/
import Derived.Test.YtgmpablmkpamaaaSeg3
import Derived.Deep.RegionLaw
import Derived.Deep.DeepCutAuto
import Derived.RegionTactic
import Derived.BigRegion
namespace Go.Proofs.Ytgmpablmkpamaaa
open Go.RowKit
set_option linter.unusedVariables false
set_option linter.unusedSimpArgs false

def words : List Int → List Int
  | [] => []
  | x :: t => two x ++ words t
theorem words_app : ∀ l m : List Int, words (l ++ m) = words l ++ words m
  | [], m => rfl
  | x :: t, m => by simp [words, words_app t m]
theorem pair_any (b o n c : Nat) (x y : Int) (w : World) (hn : 2 ≤ n) (hx : 0 ≤ x) (hx1 : x ≤ 255) (hy : 0 ≤ y) (hy1 : y ≤ 255)
    (c0 : w.cell? ⟨b, o, none⟩ = some (.int .u8 x)) (c1 : w.cell? ⟨b, o + 1, none⟩ = some (.int .u8 y)) :
    Calls Try.prog 29 #[.slice (some ⟨b, o, none⟩) n c] w fun e w' => e = .returned (.int .i64 (256 * x + y)) ∧ Below w.heap.size w w' := by
  have ho := or8 x y (by omega) (by omega) (by omega) (by omega)
  go_enter Try.func29, Try.ntmps29
  have z1 : IntKind.i64.wrap x = x := wraps_i64 _ (by omega) (by omega)
  have z2 : IntKind.i64.wrap y = y := wraps_i64 _ (by omega) (by omega)
  have z3 : IntKind.i64.wrap (x * 256) = x * 256 := wraps_i64 _ (by omega) (by omega)
  have z4 : IntKind.i64.wrap (x * 256 + y) = x * 256 + y := wraps_i64 _ (by omega) (by omega)
  go_wp2_with fail
  go_quiet (fail)
  go_wp2
  go_ret
  exact ⟨by rw [Int.mul_comm 256 x]; rfl, below_drewN (Below.refl _ _) _⟩

def RetL (base : Nat) (W : World) (n : Nat) (zs : List Int) (e : Ending) (w' : World) : Prop :=
  ∃ A c, e = .returned (.slice A n c) ∧ OwnB w' base A n c zs ∧ Below base W w'

def Laying (base b n : Nat) (w : World) (zs ns : List Int) (t0 t8 : Value) (wr : World) : Prop :=
  ∃ (k m : Nat) (A3 : Option Addr) (c3 : Nat), k ≤ ns.length ∧ m = n + 2 * k ∧ t8 = .int .i64 k ∧ t0 = .slice A3 m c3 ∧ OwnB wr base A3 m c3 (zs ++ words (ns.take k)) ∧ Below base w wr ∧
    (∀ j x, ns[j]? = some x → wr.cell? ⟨b, j, none⟩ = some (.int .i64 x)) ∧ (∀ g, (Value.slice A3 m c3).ownBlock = some g → b ≠ g) ∧ w.heap.size ≤ wr.heap.size

theorem lay_any (base : Nat) (A : Option Addr) (n c : Nat) (zs : List Int) (b k : Nat) (ns : List Int) (w : World) (ho : OwnB w base A n c zs) (hk : ns.length = k) (hns : ∀ x ∈ ns, 0 ≤ x ∧ x ≤ 65535) (hn : n ≤ 1000000) (hk3 : k ≤ 100)
    (hbase : base ≤ w.heap.size) (hb : b < w.heap.size) (hc : ∀ j x, ns[j]? = some x → w.cell? ⟨b, j, none⟩ = some (.int .i64 x)) (hg : ∀ g, (Value.slice A n c).ownBlock = some g → b ≠ g) :
    Calls Try.prog 23 #[.slice A n c, .slice (some ⟨b, 0, none⟩) k k] w (RetL base w (n + 2 * k) (zs ++ words ns)) := by
  have HO := Lib.hid ho; have HK := Lib.hid hk; have HC := Lib.hid hc; have HG := Lib.hid hg; have HNS := Lib.hid hns
  clear ho hk hc hg hns
  go_enter Try.func23, Try.ntmps23
  go_wp2
  go_loopw [0, 9] (fun t0 t8 wr => Laying base b n w zs ns t0 t8 wr) (fun _ i _ => k - (intOf i).toNat)
  case atStart => exact ⟨0, n, A, c, Nat.zero_le _, rfl, rfl, rfl, by simpa [words] using HO.out, Below.refl _ _, HC.out, HG.out, Nat.le_refl _⟩
  case round =>
    obtain ⟨i, m, A3, c3, hik, hm, rfl, rfl, ho3, hb3, hc3, hg3, hsz⟩ := hrel
    rw [HK.out] at hik
    have O3 := Lib.hid ho3
    have hm2 : m ≤ 1000300 := by omega
    have HM := Lib.hid hm
    clear hm
    by_cases hlt : i < k
    · obtain ⟨x, hx⟩ : ∃ x, ns[i]? = some x := ⟨ns[i]'(by rw [HK.out]; exact hlt), List.getElem?_eq_getElem _⟩
      have hci := hc3 i x hx
      obtain ⟨hx0, hx1⟩ := HNS.out x (List.mem_of_getElem? hx)
      have ht : Hid (words (ns.take (i + 1)) = words (ns.take i) ++ [x / 256, x % 256]) := Lib.hid (by rw [List.take_add_one, hx, words_app]; simp [words, two])
      have HC3 := Lib.hid hc3; have HG3 := Lib.hid hg3
      have q0 : x / 256 % 256 = x / 256 := by omega
      clear hx hc3 hg3 ho3
      go_wp2_with (at_builtin; refine wpList_appB rfl _ (.tmp 13) (.tmp 19) rfl base A3 m c3 (zs ++ words (ns.take i)) rfl (O3.out.below (ba1 _ _)) _ 2 2 [x / 256, x % 256] rfl (bs_new _ _ _ _ (by simp; omega) (by simp [q0]) _ (by simp)) rfl (m + 2) rfl (by omega) (by simp; omega) ?_; intro A4 c4 w4 ho4 hb4 hs4; have O4 := Lib.hid ho4; have S4 := Lib.hid hs4; clear ho4 hs4)
      have hz4 := hb4.size
      simp at hz4
      go_roundw
      case rel =>
        refine ⟨i + 1, m + 2, A4, c4, by rw [HK.out]; omega, by have := HM.out; omega, by go_num, rfl, by rw [ht.out, ← List.append_assoc]; exact O4.out, (hb3.alloc (by omega) _).trans hb4, ?_, ?_, by omega⟩
        · intro j y hy
          exact (S4.out.cell ⟨b, j, none⟩ (by simp; omega) (fun g hgg => HG3.out g hgg)).trans ((ba1 wr _).cell (p := ⟨b, j, none⟩) (by simp; omega) |>.trans (HC3.out j y hy))
        · intro g hgg e
          subst e
          rcases S4.out.own b hgg with h | h
          · exact HG3.out b h rfl
          · simp at h; omega
      case measure => simp [intOf]; omega
    · obtain rfl : i = k := by omega
      have HF : Hid (ns.take i = ns) := Lib.hid (List.take_of_length_le (by rw [HK.out]; omega))
      go_wp2
      go_ret
      obtain rfl := HM.out
      exact ⟨A3, c3, rfl, by have := O3.out; rw [HF.out] at this; exact this, hb3⟩

end Go.Proofs.Ytgmpablmkpamaaa
