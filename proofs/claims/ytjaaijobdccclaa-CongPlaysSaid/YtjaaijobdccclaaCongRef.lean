/-
  The document's answer to Play of package cong.
-/
import Derived.Test.YtjaaijobdccclaaCong3
namespace Go.Proofs.Ytjaaijobdccclaa
open Go.RowKit
set_option linter.unusedVariables false
set_option linter.unusedSimpArgs false

/-- the state of the document's loop -/
def RfI (w : World) (n : Nat) (l : List Sig) (wi sl ag o i : Value) (wr : World) : Prop :=
  ∃ (k : Nat) (A : Option Addr) (c : Nat) (a b d : Int), k ≤ n ∧ i = .int .i64 k ∧ wi = .int .i64 a ∧ sl = .int .i64 b ∧ ag = .int .i64 d ∧ o = .slice A k c ∧ OwnL wdS 28 wr w.heap.size A k c (plays wd0 (l.take k)) ∧ firstCode l = firstCode (l.drop k) ∧ (⟨a, b, d⟩ : Wd) = after wd0 (l.take k) ∧ Below w.heap.size w wr
theorem rf_next {w w5 : World} {n : Nat} {l : List Sig} {k : Nat} {A : Option Addr} {c : Nat} {a b d a' b' d' : Int} {g : Sig} (hk : k < n) (hg : l[k]? = some g) (h0 : sigCode g = 0) (hc : firstCode l = firstCode (l.drop k)) (hst : (⟨a, b, d⟩ : Wd) = after wd0 (l.take k)) (hs : (⟨a', b', d'⟩ : Wd) = sigStep ⟨a, b, d⟩ g)
    (ho : OwnL wdS 28 w5 w.heap.size A (k + 1) c (plays wd0 (l.take k) ++ [⟨a', b', d'⟩])) (hb : Below w.heap.size w w5) :
    RfI w n l (.int .i64 a') (.int .i64 b') (.int .i64 d') (.slice A (k + 1) c) (.int .i64 ((k : Int) + 1)) w5 := by
  refine ⟨k + 1, A, c, a', b', d', by omega, by go_num, rfl, rfl, rfl, rfl, ?_, (firstCode_drop l k _ hg hc).1 h0, ?_, hb⟩
  · rw [plays_take_succ wd0 l k _ hg, ← hst, ← hs]; exact ho
  · rw [after_take wd0 l k _ hg, ← hst, ← hs]

set_option maxHeartbeats 4000000 in
theorem refPlay_any (A : Option Addr) (n c : Nat) (l : List Sig) (w : World) (hb : Ls sgS w A l) (hn : l.length = n) (h300 : n ≤ 300) :
    Calls Try.prog 9 #[.slice A n c] w (RetPl w n l) := by
  have HL := Lib.hid hb
  have HN := Lib.hid hn
  clear hb hn
  go_enter Try.func9, Try.ntmps9
  go_wp2
  go_loopw [4, 5, 6, 7, 17] (fun wi sl ag o i wr => RfI w n l wi sl ag o i wr) (fun _ _ _ _ i _ => n - (intOf i).toNat)
  case atStart => exact ⟨0, none, 0, 1, 64, 0, Nat.zero_le _, rfl, rfl, rfl, rfl, rfl, OwnL.nil _ _, rfl, rfl, Below.refl _ _⟩
  case round =>
    obtain ⟨k, A3, c3, a, b, d, hk, rfl, rfl, rfl, rfl, rfl, ho, hfc, hst, hbw⟩ := hrel
    have HO := Lib.hid ho; have HC := Lib.hid hfc; have HST := Lib.hid hst; have HW := Lib.hid hbw
    clear ho hfc hst hbw
    by_cases hlt : k < n
    · obtain ⟨⟨g1, g2⟩, hg⟩ : ∃ g, l[k]? = some g := ⟨_, List.getElem?_eq_getElem (by rw [HN.out]; exact hlt)⟩
      obtain ⟨ab, ao, rfl, hab0, hcc⟩ := HL.out.at k _ hg
      have hab : ab < wr.heap.size := Nat.lt_of_lt_of_le hab0 HW.out.size
      have hc0 := (HW.out.cell (p := ⟨ab, ao + k * 2, none⟩) hab0).trans (hcc 0 (.int .i64 g1) rfl)
      have hc1 := (HW.out.cell (p := ⟨ab, ao + k * 2 + 1, none⟩) hab0).trans (hcc 1 (.int .i64 g2) rfl)
      have hgd : Good ⟨a, b, d⟩ := by rw [HST.out]; exact after_good _ good0
      have HGD := Lib.hid hgd
      have HG := Lib.hid hg
      have w0 := hgd.w0; have w1 := hgd.w1; have s0 := hgd.s0; have s1 := hgd.s1; have a0 := hgd.a0; have a1 := hgd.a1
      simp only at w0 w1 s0 s1 a0 a1
      clear hcc hgd hg
      have HW1 : Hid (Below w.heap.size w (wr.alloc (.cells #[.int .i64 g1, .int .i64 g2] 35))) := Lib.hid (HW.out.alloc HW.out.size _)
      have HX1 : Hid (Bx 35 (wr.alloc (.cells #[.int .i64 g1, .int .i64 g2] 35)) wr.heap.size (i2 g1 g2)) := Lib.hid (bx_new _ _ _)
      have HO1 : Hid (OwnL wdS 28 (wr.alloc (.cells #[.int .i64 g1, .int .i64 g2] 35)) w.heap.size A3 k c3 (plays wd0 (List.take k l))) := Lib.hid (HO.out.below (ba1 _ _))
      by_cases hcode : sigCode (g1, g2) = 0
      · have HK := Lib.hid hcode
        have hk3 : (g1 = 1 ∧ 1 ≤ g2 ∧ g2 ≤ 64) ∨ g1 = 2 ∨ g1 = 3 := by
          unfold sigCode at hcode; simp only at hcode
          split at hcode
          · omega
          · split at hcode <;> omega
        clear hcode
        rcases hk3 with ⟨rfl, n0, n1⟩ | rfl | rfl
        · obtain ⟨W1, hW1⟩ : ∃ W1, W1 = wr.alloc (.cells #[.int .i64 1, .int .i64 g2] 35) := ⟨_, rfl⟩
          go_wp2
          rw [← hW1]
          rw [← hW1] at HW1 HX1 HO1
          obtain ⟨Bq, hBq⟩ : ∃ Bq, Bq = wr.heap.size := ⟨_, rfl⟩
          rw [← hBq]
          rw [← hBq] at HX1
          obtain ⟨lX, cX0, cX1, fX0, fX1⟩ := HX1.out.cells2
          clear hW1 hBq HO HW hab hc0 hc1
          go_loop [4, 6, 10] (fun wi ag j => ∃ (m : Nat) (a' d' : Int), (m : Int) ≤ g2 ∧ j = .int .i64 m ∧ wi = .int .i64 a' ∧ ag = .int .i64 d' ∧ (⟨a', b, d'⟩ : Wd) = acks m ⟨a, b, d⟩) (fun _ _ j => g2.toNat - (intOf j).toNat)
          case atStart => exact ⟨0, a, d, by omega, rfl, rfl, rfl, rfl⟩
          case round =>
            obtain ⟨m, a2, d2, hm, rfl, rfl, rfl, hac⟩ := hrel
            have HA := Lib.hid hac
            have hgd2 : Good ⟨a2, b, d2⟩ := by rw [hac]; exact (acks_good m HGD.out).1
            clear hac
            by_cases hlt2 : (m : Int) < g2
            · obtain ⟨a3, b3, d3, hz⟩ : ∃ a3 b3 d3, (⟨a3, b3, d3⟩ : Wd) = ack1 ⟨a2, b, d2⟩ := ⟨_, _, _, rfl⟩
              obtain rfl : b3 = b := by have := (ack1_good hgd2).2.2; rw [← hz] at this; exact this
              have HN1 : Hid ((⟨a3, b3, d3⟩ : Wd) = acks (m + 1) ⟨a, b3, d⟩) := Lib.hid (by rw [hz, HA.out]; exact (acks_succ m _).symm)
              have hcs := ack1_cases hgd2 hz
              have w2 := hgd2.w0; have w3 := hgd2.w1; have a4 := hgd2.a0; have a5 := hgd2.a1
              simp only at w2 w3 a4 a5
              clear hz hgd2
              rcases hcs with ⟨k0, rfl, rfl, k1⟩ | ⟨k0, k1, rfl, rfl⟩ | ⟨k0, k1, k2, rfl, rfl⟩ | ⟨k0, k1, rfl, rfl, rfl⟩
              all_goals
                go_wp2
                all_goals first
                  | exact ⟨⟨m + 1, _, _, by omega, by go_num, rfl, rfl, HN1.out⟩, by simp [intOf]; omega⟩
                  | (exfalso; have hno := ‹(!decide _) = false›; simp at hno; omega)
            · obtain rfl : g2 = m := by omega
              have HS : Hid ((⟨a2, b, d2⟩ : Wd) = sigStep ⟨a, b, d⟩ (1, (m : Int))) := Lib.hid (by rw [HA.out]; rfl)
              clear hgd2
              go_wp2_with (at_builtin; refine wpList_appL (F := wdS) rfl _ (.tmp 72) (.tmp 77) 23 rfl _ 24 Try.underlying23 wdInfo rfl w.heap.size A3 k c3 _ rfl (HO1.out.below (ba1 _ _)) _ 1 1 [⟨a2, b, d2⟩] rfl (ls_new _ _ _ _ rfl _ (by simp)) rfl (k + 1) rfl (by omega) (by omega) (by have := HW1.out.size; simp at this ⊢; omega) ?_; intro A5 c5 w5 ho5 hb5 hs5; have HO5 := Lib.hid ho5; have HB5 := Lib.hid ((HW1.out.alloc HW1.out.size _).trans hb5); clear ho5 hb5 hs5)
              exact ⟨rf_next hlt HG.out HK.out HC.out HST.out HS.out HO5.out HB5.out, by simp [intOf]; omega⟩
        · obtain ⟨h, hh⟩ : ∃ h, h = half a := ⟨_, rfl⟩
          have HS : Hid ((⟨h, h, 0⟩ : Wd) = sigStep ⟨a, b, d⟩ (2, g2)) := Lib.hid (by rw [hh]; rfl)
          rcases half_cases hh (by omega) with ⟨k0, rfl⟩ | ⟨k0, rfl⟩
          all_goals
            clear hh
            go_wp2_with (at_builtin; refine wpList_appL (F := wdS) rfl _ (.tmp 72) (.tmp 77) 23 rfl _ 24 Try.underlying23 wdInfo rfl w.heap.size A3 k c3 _ rfl (HO1.out.below (ba1 _ _)) _ 1 1 [⟨_, _, 0⟩] rfl (ls_new _ _ _ _ rfl _ (by simp)) rfl (k + 1) rfl (by omega) (by omega) (by have := HW1.out.size; simp at this ⊢; omega) ?_; intro A5 c5 w5 ho5 hb5 hs5; have HO5 := Lib.hid ho5; have HB5 := Lib.hid ((HW1.out.alloc HW1.out.size _).trans hb5); clear ho5 hb5 hs5)
            exact ⟨rf_next hlt HG.out HK.out HC.out HST.out HS.out HO5.out HB5.out, by simp [intOf]; omega⟩
        · obtain ⟨h, hh⟩ : ∃ h, h = half a := ⟨_, rfl⟩
          have HS : Hid ((⟨1, h, 0⟩ : Wd) = sigStep ⟨a, b, d⟩ (3, g2)) := Lib.hid (by rw [hh]; rfl)
          rcases half_cases hh (by omega) with ⟨k0, rfl⟩ | ⟨k0, rfl⟩
          all_goals
            clear hh
            go_wp2_with (at_builtin; refine wpList_appL (F := wdS) rfl _ (.tmp 72) (.tmp 77) 23 rfl _ 24 Try.underlying23 wdInfo rfl w.heap.size A3 k c3 _ rfl (HO1.out.below (ba1 _ _)) _ 1 1 [⟨1, _, 0⟩] rfl (ls_new _ _ _ _ rfl _ (by simp)) rfl (k + 1) rfl (by omega) (by omega) (by have := HW1.out.size; simp at this ⊢; omega) ?_; intro A5 c5 w5 ho5 hb5 hs5; have HO5 := Lib.hid ho5; have HB5 := Lib.hid ((HW1.out.alloc HW1.out.size _).trans hb5); clear ho5 hb5 hs5)
            exact ⟨rf_next hlt HG.out HK.out HC.out HST.out HS.out HO5.out HB5.out, by simp [intOf]; omega⟩
      · obtain ⟨code, hc⟩ : ∃ code, code = sigCode (g1, g2) := ⟨_, rfl⟩
        have HK := Lib.hid hc
        have hC := Lib.hid ((firstCode_drop l k _ HG.out HC.out).2 hcode)
        have h23 : (g1 = 1 ∧ g2 < 1 ∧ code = 2) ∨ (g1 = 1 ∧ 1 ≤ g2 ∧ 64 < g2 ∧ code = 2) ∨ (g1 < 1 ∧ code = 3) ∨ (1 ≤ g1 ∧ 3 < g1 ∧ code = 3) := by
          unfold sigCode at hc hcode; simp only at hc hcode
          split at hc
          · omega
          · split at hc
            · omega
            · rw [if_neg (by assumption), if_neg (by assumption)] at hcode; exact absurd rfl hcode
        clear hc hcode
        rcases h23 with ⟨rfl, k0, rfl⟩ | ⟨rfl, k0, k1, rfl⟩ | ⟨k0, rfl⟩ | ⟨k0, k1, rfl⟩
        all_goals
          go_wp2
          go_ret2
          exact .inr ⟨by rw [hC.out, ← HK.out]; decide, by rw [hC.out, ← HK.out]; first | done | rfl, HW1.out⟩
    · obtain rfl : n = k := by omega
      have h0 : firstCode l = 0 := by rw [HC.out, List.drop_eq_nil_of_le (by rw [HN.out]; omega)]; rfl
      have HZ := Lib.hid h0
      clear h0
      go_wp2
      go_ret2
      have ho := HO.out
      rw [List.take_of_length_le (by rw [HN.out]; omega)] at ho
      exact .inl ⟨HZ.out, _, _, rfl, ho, HW.out⟩

theorem refPlay_size (A : Option Addr) (n c : Nat) (w : World) (h300 : ¬ n ≤ 300) (h47 : n ≤ 17592186044416) :
    Calls Try.prog 9 #[.slice A n c] w fun e w' => e = .returned (.tuple #[.slice none 0 0, .int .i64 1]) ∧ w = w' := by
  go_enter Try.func9, Try.ntmps9
  go_wp2
  go_ret2
  exact ⟨rfl, rfl⟩

theorem refPlay_ok (A : Option Addr) (n c : Nat) (l : List Sig) (w : World) (hb : Ls sgS w A l) (hn : l.length = n) (h300 : n ≤ 300) (h0 : firstCode l = 0) :
    Calls Try.prog 9 #[.slice A n c] w fun e w' => ∃ A c, e = .returned (.tuple #[.slice A n c, .int .i64 0]) ∧ OwnL wdS 28 w' w.heap.size A n c (plays wd0 l) ∧ Below w.heap.size w w' :=
  (refPlay_any A n c l w hb hn h300).mono fun e w' h => h.elim (fun h => h.2) (fun h => absurd h0 h.1)
theorem refPlay_no (A : Option Addr) (n c : Nat) (l : List Sig) (w : World) (hb : Ls sgS w A l) (hn : l.length = n) (h300 : n ≤ 300) (h0 : firstCode l ≠ 0) :
    Calls Try.prog 9 #[.slice A n c] w fun e w' => e = .returned (.tuple #[.slice none 0 0, .int .i64 (firstCode l)]) ∧ Below w.heap.size w w' :=
  (refPlay_any A n c l w hb hn h300).mono fun e w' h => h.elim (fun h => absurd h.1 h0) (fun h => h.2)

end Go.Proofs.Ytjaaijobdccclaa
