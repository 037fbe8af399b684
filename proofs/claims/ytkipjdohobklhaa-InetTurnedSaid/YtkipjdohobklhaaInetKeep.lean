/-
  The walks of packthreadkeep's statements of layer 2 over this seat's translation: InetParts, InetSealed.
-/
import Derived.Test.YtkipjdohobklhaaBytes
import Derived.Test.YtkipjdohobklhaaInetMath2
import Derived.WalkKit
import Derived.Handy
import Derived.Lib.Hide
import Derived.Outline
import Derived.OwnWalk
namespace Go.Proofs.Ytkipjdohobklhaa
open Go.RowKit
set_option linter.unusedVariables false

/-! Contracts once more, with the answer under a name of the caller's. -/
theorem fold_v (A : Option Addr) (n c : Nat) (zs : List Int) (r : Int) (w : World) (hr : Hid (r = fo (tot 0 zs))) (hb : Bs w A zs) (hn : zs.length = n) (h47 : n ≤ 140737488355328) :
    Calls Try.prog 12 #[.slice A n c] w fun e w' => e = .returned (.int .i64 r) ∧ w = w' := by
  rw [hr.out]; exact fold_any A n c zs w hb hn h47
theorem join_v (a b : Int) (odd : Bool) (r : Int) (w : World) (hr : Hid (r = joined a b odd)) (h0 : 0 ≤ a) (h1 : a ≤ 65535) (h2 : 0 ≤ b) (h3 : b ≤ 65535) :
    Calls Try.prog 15 #[.int .i64 a, .int .i64 b, .bool odd] w fun e w' => e = .returned (.tuple #[.int .i64 r, .int .i64 0]) ∧ Below w.heap.size w w' := by
  rw [hr.out]; exact join_ok a b odd w h0 h1 h2 h3

/-- how many bytes Octets leaves -/
theorem least (n k : Nat) : ∃ p, p ≤ n ∧ p ≤ k ∧ Hid (n ≤ k → p = n) ∧ Hid (k ≤ n → p = k) := ⟨min n k, by omega, by omega, Lib.hid (by omega), Lib.hid (by omega)⟩

set_option maxHeartbeats 1000000 in
theorem walkInetParts (A : Option Addr) (n c : Nat) (za : List Int) (B : Option Addr) (m d : Nat) (zb : List Int) (w : World)
    (ha : Bs w A za) (hn : za.length = n) (hc : n ≤ c) (hr : c ≤ 140737488351232) (hb : Bs w B zb) (hm : zb.length = m) (hd : m ≤ d) (hs : d ≤ 140737488351232) :
    Calls Try.prog 7 #[.slice A n c, .slice B m d] w fun e w' => e = .returned (.bool true) ∧ Below w.heap.size w w' := by
  obtain ⟨p, hp1, hp2, P3, P4⟩ := least n 600
  obtain ⟨q, hq1, hq2, Q3, Q4⟩ := least m 600
  obtain ⟨x, hx⟩ : ∃ x, x = za.take p := ⟨_, rfl⟩
  obtain ⟨y, hy⟩ : ∃ y, y = zb.take q := ⟨_, rfl⟩
  have hxl : x.length = p := by rw [hx, List.length_take]; omega
  have hyl : y.length = q := by rw [hy, List.length_take]; omega
  have bx : ∀ z ∈ x, 0 ≤ z ∧ z ≤ 255 := fun z hz => ha.1 z (by rw [hx] at hz; exact List.mem_of_mem_take hz)
  have by' : ∀ z ∈ y, 0 ≤ z ∧ z ≤ 255 := fun z hz => hb.1 z (by rw [hy] at hz; exact List.mem_of_mem_take hz)
  obtain ⟨f, hf⟩ : ∃ f, f = fo (tot 0 x) := ⟨_, rfl⟩
  obtain ⟨g, hg⟩ : ∃ g, g = fo (tot 0 y) := ⟨_, rfl⟩
  obtain ⟨j, hj⟩ : ∃ j, j = fo (tot 0 (x ++ y)) := ⟨_, rfl⟩
  have f0 : 0 ≤ f ∧ f ≤ 65535 := by rw [hf]; exact fo_bd _ (tot_bd0 x bx).1
  have g0 : 0 ≤ g ∧ g ≤ 65535 := by rw [hg]; exact fo_bd _ (tot_bd0 y by').1
  obtain ⟨f0, f1⟩ := f0
  obtain ⟨g0, g1⟩ := g0
  have hpar := fo_parts x y bx by'
  rw [← hj, ← hf, ← hg, hxl] at hpar
  have HA := Lib.hid ha; have HB := Lib.hid hb; have HN := Lib.hid hn; have HM := Lib.hid hm
  have HX := Lib.hid hx; have HY := Lib.hid hy; have HXL := Lib.hid hxl; have HYL := Lib.hid hyl
  have HF := Lib.hid hf; have HG := Lib.hid hg; have HJ := Lib.hid hj; have HP := Lib.hid hpar
  have BX := Lib.hid bx; have BY := Lib.hid by'
  clear ha hb hn hm hx hy hxl hyl hf hg hj hpar bx by'
  have both : ∀ odd : Bool, Hid (j = joined f g odd) → Hid (((p : Int) % 2 == 1) = odd) →
      Calls Try.prog 7 #[.slice A n c, .slice B m d] w fun e w' => e = .returned (.bool true) ∧ Below w.heap.size w w' := by
    intro odd J Z
    have z := Z.out
    go_enter Try.func7, Try.ntmps7
    go_wp2_with fail
    refine (octets_any A n c 600 p za _ HA.out HN.out hc (by omega) (by omega) hp1 hp2 P3.out P4.out).mono ?_
    rintro e w1 ⟨A1, c1, rfl, ho1, hb1⟩
    rw [← HX.out] at ho1
    have O1 := Lib.hid ho1
    clear ho1
    go_wp2_with fail
    refine (octets_any B m d 600 q zb _ (HB.out.below hb1) HM.out hd (by omega) (by omega) hq1 hq2 Q3.out Q4.out).mono ?_
    rintro e w2 ⟨A2, c2, rfl, ho2, hb2⟩
    rw [← HY.out] at ho2
    have O2 := Lib.hid ho2
    clear ho2
    go_wp2_with fail
    refine (fold_v A1 p c1 x f _ HF (O1.out.bs.below hb2) HXL.out (by omega)).mono ?_
    rintro e w' ⟨rfl, rfl⟩
    go_wp2_with fail
    refine (fold_v A2 q c2 y g _ HG O2.out.bs HYL.out (by omega)).mono ?_
    rintro e w' ⟨rfl, rfl⟩
    go_wp2_with fail
    refine (join_v f g odd j _ J f0 f1 g0 g1).mono ?_
    rintro e w3 ⟨rfl, hb3⟩
    go_wp2_with fail
    refine (sure_any _).mono ?_
    rintro e w4 ⟨rfl, hb4⟩
    have X4 := Lib.hid (((O1.out.bs.below hb2).below hb3).below hb4)
    have Y4 := Lib.hid ((O2.out.bs.below hb3).below hb4)
    go_wp2_with (first
      | (at_builtin; refine wpList_appB rfl w4 (.const (.slice none 0 0)) (.tmp 32) rfl w4.heap.size none 0 0 [] rfl (OwnB.nil _ _) A1 p c1 x rfl X4.out HXL.out p (by omega) (by omega) (Nat.le_refl _) ?_; intro A5 c5 w5 ho5 hb5; have O5 := Lib.hid ho5; clear ho5)
      | (at_builtin; refine wpList_appB rfl w5 (.tmp 33) (.tmp 34) rfl w4.heap.size A5 p c5 x rfl O5.out A2 q c2 y rfl (Y4.out.below hb5) HYL.out (p + q) rfl (by omega) hb5.size ?_; intro A6 c6 w6 ho6 hb6; have O6 := Lib.hid ho6; clear ho6)
      | (go_at_call 12; refine (fold_v A6 (p + q) c6 (x ++ y) j _ HJ O6.out.bs O6.out.2.1 (by omega)).mono ?_; rintro e w' ⟨rfl, rfl⟩))
    go_ret
    exact ⟨by simp, ((((hb1.trans (hb2.mono hb1.size)).trans (hb3.mono (Nat.le_trans hb1.size hb2.size))).trans (hb4.mono (Nat.le_trans (Nat.le_trans hb1.size hb2.size) hb3.size))).trans (hb5.mono (Nat.le_trans (Nat.le_trans (Nat.le_trans hb1.size hb2.size) hb3.size) hb4.size))).trans (hb6.mono (Nat.le_trans (Nat.le_trans (Nat.le_trans hb1.size hb2.size) hb3.size) hb4.size))⟩
  by_cases hodd : p % 2 = 1
  · exact both true (Lib.hid (by rw [HP.out, if_pos hodd]; simp [joined, sw])) (Lib.hid (by rw [beq_iff_eq]; omega))
  · exact both false (Lib.hid (by rw [HP.out, if_neg hodd]; simp [joined])) (Lib.hid (by rw [beq_eq_false_iff_ne]; omega))

/-- one step more -/
theorem bthen {w a b : World} (h : Below w.heap.size w a) (k : Below a.heap.size a b) : Below w.heap.size w b := h.trans (k.mono h.size)
theorem bthen' {w a b : World} {B : Nat} (h : Below w.heap.size w a) (hB : w.heap.size ≤ B) (k : Below B a b) : Below w.heap.size w b := h.trans (k.mono hB)

theorem sum_v (A : Option Addr) (n c : Nat) (zs : List Int) (r : Int) (w : World) (hr : Hid (r = 65535 - fo (tot 0 zs))) (hb : Bs w A zs) (hn : zs.length = n) (h47 : n ≤ 140737488355328) :
    Calls Try.prog 14 #[.slice A n c] w fun e w' => e = .returned (.int .i64 r) ∧ w = w' := by
  rw [hr.out]; exact sum_any A n c zs w hb hn h47

theorem walkInetSealed (A : Option Addr) (n c : Nat) (za : List Int) (w : World)
    (ha : Bs w A za) (hn : za.length = n) (hc : n ≤ c) (hr : c ≤ 140737488351232) :
    Calls Try.prog 8 #[.slice A n c] w fun e w' => e = .returned (.bool true) ∧ Below w.heap.size w w' := by
  obtain ⟨p, hp1, hp2, P3, P4⟩ := least n 600
  obtain ⟨x, hx⟩ : ∃ x, x = za.take p := ⟨_, rfl⟩
  have hxl : x.length = p := by rw [hx, List.length_take]; omega
  have bx : ∀ z ∈ x, 0 ≤ z ∧ z ≤ 255 := fun z hz => ha.1 z (by rw [hx] at hz; exact List.mem_of_mem_take hz)
  by_cases hodd : p % 2 = 1
  · obtain ⟨s, hs⟩ : ∃ s, s = 65535 - fo (tot 0 (x ++ [0])) := ⟨_, rfl⟩
    have bx0 : ∀ z ∈ x ++ [0], 0 ≤ z ∧ z ≤ 255 := by
      intro z hz; rcases List.mem_append.1 hz with h | h
      · exact bx z h
      · simp at h; omega
    have hfin := fo_sealed (x ++ [0]) bx0 (by rw [List.length_append, hxl]; simp; omega) s hs
    have sb := fo_bd (tot 0 (x ++ [0])) (tot_bd0 _ bx0).1
    rw [← Int.sub_sub_self 65535 (fo (tot 0 (x ++ [0]))), ← hs] at sb
    obtain ⟨s0, s1⟩ : 0 ≤ s ∧ s ≤ 65535 := by omega
    have z : ((p : Int) % 2 == 1) = true := by rw [beq_iff_eq]; omega
    have z2 : decide (s < 65536) = true := by simp; omega
    clear sb
    have HA := Lib.hid ha; have HN := Lib.hid hn
    have HX := Lib.hid hx; have HXL := Lib.hid hxl
    have HF := Lib.hid hfin; have HS := Lib.hid hs
    have BX := Lib.hid bx; have HO := Lib.hid hodd
    have bsb : Hid (∀ z ∈ [s / 256, s % 256], 0 ≤ z ∧ z ≤ 255) := Lib.hid (by intro z hz; simp at hz; omega)
    clear ha hn hx hxl hfin hs bx bx0 hodd
    go_enter Try.func8, Try.ntmps8
    go_wp2_with fail
    refine (octets_any A n c 600 p za _ HA.out HN.out hc (by omega) (by omega) hp1 hp2 P3.out P4.out).mono ?_
    rintro e w1 ⟨A1, c1, rfl, ho1, hb1⟩
    rw [← HX.out] at ho1
    have O1 := Lib.hid ho1
    clear ho1
    go_wp2_with (first
      | (at_builtin; refine wpList_appB rfl _ (.tmp 11) (.tmp 12) rfl w.heap.size A1 p c1 x rfl (O1.out.below ((Below.refl _ _).alloc (Nat.le_refl _) _)) _ 1 1 [0] rfl (bs_new w1 _ _ _ (by simp) rfl _ rfl) rfl (p + 1) rfl (by omega) (by have := hb1.size; simp; omega) ?_; intro A2 c2 w2 ho2 hb2; have O2 := Lib.hid ho2; clear ho2)
      | (go_at_call 14; refine (sum_v _ _ _ (x ++ [0]) s _ HS O2.out.bs O2.out.2.1 (by omega)).mono ?_; rintro e w' ⟨rfl, rfl⟩)
      | (go_at_call 20; refine (sure_any _).mono ?_; rintro e w3 ⟨rfl, hb3⟩)
      | (at_builtin; refine wpList_appB rfl _ (.tmp 26) (.tmp 32) rfl w.heap.size A2 (p + 1) c2 (x ++ [0]) rfl ((O2.out.below hb3).below ((Below.refl _ _).alloc (Nat.le_refl _) _)) _ 2 2 [s / 256, s % 256] rfl (bs_new w3 _ _ _ bsb.out rfl _ rfl) rfl (p + 1 + 2) rfl (by omega) (by have := hb1.size; have := hb2.size; have := hb3.size; simp at *; omega) ?_; intro A4 c4 w4 ho4 hb4; have O4 := Lib.hid ho4; clear ho4)
      | (go_at_call 12; refine (fold_v A4 (p + 1 + 2) c4 (x ++ [0] ++ [s / 256, s % 256]) 65535 _ HF O4.out.bs O4.out.2.1 (by omega)).mono ?_; rintro e w' ⟨rfl, rfl⟩))
    go_ret
    exact ⟨by simp, bthen' (bthen (bthen (bthen' (bthen hb1 ((Below.refl _ _).alloc (Nat.le_refl _) _)) (Nat.le_refl _) hb2) hb3) ((Below.refl _ _).alloc (Nat.le_refl _) _)) (Nat.le_refl _) hb4⟩
  · obtain ⟨s, hs⟩ : ∃ s, s = 65535 - fo (tot 0 x) := ⟨_, rfl⟩
    have hfin := fo_sealed x bx (by rw [hxl]; omega) s hs
    have sb := fo_bd (tot 0 x) (tot_bd0 _ bx).1
    rw [← Int.sub_sub_self 65535 (fo (tot 0 x)), ← hs] at sb
    obtain ⟨s0, s1⟩ : 0 ≤ s ∧ s ≤ 65535 := by omega
    have z : ((p : Int) % 2 == 1) = false := by rw [beq_eq_false_iff_ne]; omega
    have z2 : decide (s < 65536) = true := by simp; omega
    clear sb
    have HA := Lib.hid ha; have HN := Lib.hid hn
    have HX := Lib.hid hx; have HXL := Lib.hid hxl
    have HF := Lib.hid hfin; have HS := Lib.hid hs
    have BX := Lib.hid bx; have HO := Lib.hid hodd
    have bsb : Hid (∀ z ∈ [s / 256, s % 256], 0 ≤ z ∧ z ≤ 255) := Lib.hid (by intro z hz; simp at hz; omega)
    clear ha hn hx hxl hfin hs bx hodd
    go_enter Try.func8, Try.ntmps8
    go_wp2_with fail
    refine (octets_any A n c 600 p za _ HA.out HN.out hc (by omega) (by omega) hp1 hp2 P3.out P4.out).mono ?_
    rintro e w1 ⟨A1, c1, rfl, ho1, hb1⟩
    rw [← HX.out] at ho1
    have O1 := Lib.hid ho1
    clear ho1
    go_wp2_with (first
      | (go_at_call 14; refine (sum_v _ _ _ x s _ HS O1.out.bs O1.out.2.1 (by omega)).mono ?_; rintro e w' ⟨rfl, rfl⟩)
      | (go_at_call 20; refine (sure_any _).mono ?_; rintro e w3 ⟨rfl, hb3⟩)
      | (at_builtin; refine wpList_appB rfl _ (.tmp 26) (.tmp 32) rfl w.heap.size A1 p c1 x rfl ((O1.out.below hb3).below ((Below.refl _ _).alloc (Nat.le_refl _) _)) _ 2 2 [s / 256, s % 256] rfl (bs_new w3 _ _ _ bsb.out rfl _ rfl) rfl (p + 2) rfl (by omega) (by have := hb1.size; have := hb3.size; simp at *; omega) ?_; intro A4 c4 w4 ho4 hb4; have O4 := Lib.hid ho4; clear ho4)
      | (go_at_call 12; refine (fold_v A4 (p + 2) c4 (x ++ [s / 256, s % 256]) 65535 _ HF O4.out.bs O4.out.2.1 (by omega)).mono ?_; rintro e w' ⟨rfl, rfl⟩))
    go_ret
    exact ⟨by simp, bthen' (bthen (bthen hb1 hb3) ((Below.refl _ _).alloc (Nat.le_refl _) _)) (Nat.le_refl _) hb4⟩

end Go.Proofs.Ytkipjdohobklhaa
