/-
  Contracts of package cong: Play.
-/
import Derived.Test.YtjaaijobdccclaaCong2
import Derived.Test.YtjaaijobdccclaaOff
namespace Go.Proofs.Ytjaaijobdccclaa
open Go.RowKit
set_option linter.unusedVariables false
set_option linter.unusedSimpArgs false

theorem behind_ok (a b c k n A B C : Int) (w : World) (hg : Good ⟨a, b, c⟩) (h0 : sigCode (k, n) = 0) (he : (⟨A, B, C⟩ : Wd) = sigStep ⟨a, b, c⟩ (k, n)) :
    Calls Try.prog 14 #[.agg #[.int .i64 a, .int .i64 b, .int .i64 c], .agg #[.int .i64 k, .int .i64 n]] w fun e w' => e = .returned (.tuple #[.agg #[.int .i64 A, .int .i64 B, .int .i64 C], .int .i64 0]) ∧ Below w.heap.size w w' := by
  have hk : (k = 1 ∧ 1 ≤ n ∧ n ≤ 64) ∨ k = 2 ∨ k = 3 := by
    unfold sigCode at h0; simp only at h0
    split at h0
    · omega
    · split at h0 <;> omega
  rcases hk with ⟨rfl, n0, n1⟩ | rfl | rfl
  · have e1 : sigStep ⟨a, b, c⟩ (1, n) = acks n.toNat ⟨a, b, c⟩ := rfl
    rw [e1] at he
    have := behind_acked ⟨a, b, c⟩ n w hg n0 n1
    rw [← he] at this
    exact this
  · have e1 : sigStep ⟨a, b, c⟩ (2, n) = ⟨half a, half a, 0⟩ := rfl
    rw [e1] at he
    injection he with h1 h2 h3
    subst h1; subst h2; subst h3
    exact behind_again ⟨a, b, c⟩ n w hg
  · have e1 : sigStep ⟨a, b, c⟩ (3, n) = ⟨1, half a, 0⟩ := rfl
    rw [e1] at he
    injection he with h1 h2 h3
    subst h1; subst h2; subst h3
    exact behind_late ⟨a, b, c⟩ n w hg

theorem wdInfo : (Try.prog.info? 28).map (fun i => (i.zero, i.size, i.bytes)) = some (some (.agg #[.int .i64 0, .int .i64 0, .int .i64 0]), wdS.size, 24) := by kernel_rfl
theorem sgInfo : (Try.prog.info? 35).map (fun i => (i.zero, i.size, i.bytes)) = some (some (.agg #[.int .i64 0, .int .i64 0]), sgS.size, 16) := by kernel_rfl

/-- the first error among signals -/
def firstCode : List Sig → Int
  | [] => 0
  | g :: t => if sigCode g = 0 then firstCode t else sigCode g
theorem firstCode_drop (l : List Sig) (k : Nat) (g : Sig) (hg : l[k]? = some g) (h : firstCode l = firstCode (l.drop k)) : (sigCode g = 0 → firstCode l = firstCode (l.drop (k + 1))) ∧ (sigCode g ≠ 0 → firstCode l = sigCode g) := by
  have hd : l.drop k = g :: l.drop (k + 1) := by
    have hk := (List.getElem?_eq_some_iff.1 hg).1
    rw [List.drop_eq_getElem_cons hk, (List.getElem?_eq_some_iff.1 hg).2]
  rw [hd, show firstCode (g :: l.drop (k + 1)) = (if sigCode g = 0 then firstCode (l.drop (k + 1)) else sigCode g) from rfl] at h
  refine ⟨fun h0 => ?_, fun h0 => ?_⟩
  · rw [if_pos h0] at h; exact h
  · rw [if_neg h0] at h; exact h

/-- what Play answers -/
def RetPl (w : World) (n : Nat) (l : List Sig) (e : Ending) (w' : World) : Prop :=
  (firstCode l = 0 ∧ ∃ A c, e = .returned (.tuple #[.slice A n c, .int .i64 0]) ∧ OwnL wdS 28 w' w.heap.size A n c (plays wd0 l) ∧ Below w.heap.size w w') ∨
  (firstCode l ≠ 0 ∧ e = .returned (.tuple #[.slice none 0 0, .int .i64 (firstCode l)]) ∧ Below w.heap.size w w')

theorem after_take (x : Wd) (l : List Sig) (k : Nat) (g : Sig) (hg : l[k]? = some g) : after x (l.take (k + 1)) = sigStep (after x (l.take k)) g := by
  rw [List.take_add_one, hg, after_app]; rfl
theorem plays_take_succ (x : Wd) (l : List Sig) (k : Nat) (g : Sig) (hg : l[k]? = some g) : plays x (l.take (k + 1)) = plays x (l.take k) ++ [sigStep (after x (l.take k)) g] := by
  rw [List.take_add_one, hg, plays_app]; rfl

/-- the state of Play's loop: the width lies at B -/
def PlI (w : World) (n B : Nat) (l : List Sig) (o i : Value) (wr : World) : Prop :=
  ∃ (k : Nat) (A : Option Addr) (c : Nat) (a b d : Int), k ≤ n ∧ i = .int .i64 k ∧ o = .slice A k c ∧ OwnL wdS 28 wr w.heap.size A k c (plays wd0 (l.take k)) ∧ Off B (.slice A k c) ∧ firstCode l = firstCode (l.drop k) ∧ (⟨a, b, d⟩ : Wd) = after wd0 (l.take k) ∧ Bx 28 wr B (i3 a b d) ∧ Below w.heap.size w wr

set_option maxHeartbeats 2000000 in
theorem play_any (A : Option Addr) (n c : Nat) (l : List Sig) (w : World) (hb : Ls sgS w A l) (hn : l.length = n) (h300 : n ≤ 300) :
    Calls Try.prog 8 #[.slice A n c] w (RetPl w n l) := by
  have HL := Lib.hid hb
  have HN := Lib.hid hn
  clear hb hn
  go_enter Try.func8, Try.ntmps8
  go_wp2_with (at_make; refine wpList_makeL (F := wdS) rfl _ _ _ 23 rfl _ 24 Try.underlying23 wdInfo w.heap.size _ _ _ n rfl rfl rfl (by omega) (by omega) (Nat.le_refl _) ?_; intro w1 ho1 hb1 hs1; have O1 := Lib.hid ho1; have HB1 := Lib.hid hb1; clear ho1 hb1)
  obtain ⟨B, hB⟩ : ∃ B, B = w1.heap.size := ⟨_, rfl⟩
  obtain ⟨w2, hw2⟩ : ∃ w2, w2 = w1.alloc (.cells #[.int .i64 1, .int .i64 64, .int .i64 0] 28) := ⟨_, rfl⟩
  have HX2 : Hid (Bx 28 w2 B (i3 1 64 0)) := Lib.hid (by rw [hw2, hB]; exact bx_new w1 _ _)
  have HO2 : Hid (OwnL wdS 28 w2 w.heap.size (some ⟨w.heap.size, 0, none⟩) 0 n []) := Lib.hid (by rw [hw2]; exact O1.out.below (ba1 _ _))
  have HB2 : Hid (Below w.heap.size w w2) := Lib.hid (by rw [hw2]; exact HB1.out.alloc HB1.out.size _)
  have hBw : w.heap.size < B := by rw [hB]; exact hs1
  rw [← hw2, ← hB]
  clear hw2 hB O1 HB1 hs1
  go_loopw [4, 18] (fun o i wr => PlI w n B l o i wr) (fun _ i _ => n - (intOf i).toNat)
  case atStart => exact ⟨0, _, n, 1, 64, 0, Nat.zero_le _, rfl, rfl, HO2.out, fun k hk => by (have h1 : w.heap.size = k := by simpa [Value.ownBlock] using hk); omega, rfl, rfl, HX2.out, HB2.out⟩
  case round =>
    obtain ⟨k, A3, c3, a, b, d, hk, rfl, rfl, ho, hoff, hfc, hst, hbx, hbw⟩ := hrel
    have HO := Lib.hid ho; have HF := Lib.hid hoff; have HC := Lib.hid hfc; have HST := Lib.hid hst; have HX := Lib.hid hbx; have HW := Lib.hid hbw
    clear ho hoff hfc hst hbx hbw HX2 HO2 HB2
    obtain ⟨lB, cB0, cB1, cB2, fB0, fB1, fB2⟩ := HX.out.cells3
    by_cases hlt : k < n
    · obtain ⟨⟨g1, g2⟩, hg⟩ : ∃ g, l[k]? = some g := ⟨_, List.getElem?_eq_getElem (by rw [HN.out]; exact hlt)⟩
      obtain ⟨ab, ao, rfl, hab0, hcc⟩ := HL.out.at k _ hg
      have hab : ab < wr.heap.size := Nat.lt_of_lt_of_le hab0 HW.out.size
      have hc0 := (HW.out.cell (p := ⟨ab, ao + k * 2, none⟩) hab0).trans (hcc 0 (.int .i64 g1) rfl)
      have hc1 := (HW.out.cell (p := ⟨ab, ao + k * 2 + 1, none⟩) hab0).trans (hcc 1 (.int .i64 g2) rfl)
      have hgd : Good ⟨a, b, d⟩ := by rw [HST.out]; exact after_good _ good0
      have HGD := Lib.hid hgd
      have HG := Lib.hid hg
      clear hcc hgd hg
      have HW1 : Hid (Below w.heap.size w (wr.alloc (.cells #[.int .i64 g1, .int .i64 g2] 35))) := Lib.hid (HW.out.alloc HW.out.size _)
      have HX1 : Hid (Bx 28 (wr.alloc (.cells #[.int .i64 g1, .int .i64 g2] 35)) B (i3 a b d)) := Lib.hid (HX.out.below (ba1 _ _))
      have HO1 : Hid (OwnL wdS 28 (wr.alloc (.cells #[.int .i64 g1, .int .i64 g2] 35)) w.heap.size A3 k c3 (plays wd0 (List.take k l))) := Lib.hid (HO.out.below (ba1 _ _))
      by_cases hcode : sigCode (g1, g2) = 0
      · obtain ⟨a', b', d', hs⟩ : ∃ a' b' d', (⟨a', b', d'⟩ : Wd) = sigStep ⟨a, b, d⟩ (g1, g2) := ⟨_, _, _, rfl⟩
        have HS := Lib.hid hs
        have HK := Lib.hid hcode
        have hC := Lib.hid ((firstCode_drop l k _ HG.out HC.out).1 hcode)
        have HT : Hid ((⟨a', b', d'⟩ : Wd) = after wd0 (l.take (k + 1))) := Lib.hid (by rw [hs, HST.out, after_take wd0 l k _ HG.out])
        have HP : Hid (plays wd0 (l.take (k + 1)) = plays wd0 (l.take k) ++ [⟨a', b', d'⟩]) := Lib.hid (by rw [hs, HST.out, plays_take_succ wd0 l k _ HG.out])
        clear hs hcode
        go_wp2_with (first
          | (go_at_call 14; (refine (behind_ok a b d g1 g2 a' b' d' _ HGD.out HK.out HS.out).mono ?_); rintro e w3 ⟨rfl, hb3⟩; have HX3 : Hid (Bx 28 w3 B (i3 a b d)) := Lib.hid (HX1.out.below hb3); have HO3 : Hid (OwnL wdS 28 w3 w.heap.size A3 k c3 (plays wd0 (List.take k l))) := Lib.hid (HO1.out.below hb3); have HB3 : Hid (Below w.heap.size w w3) := Lib.hid (bthen HW1.out hb3); have hs3 : B < w3.heap.size := HX3.out.lt; clear hb3; obtain ⟨lD, cD0, cD1, cD2, fD0, fD1, fD2⟩ := HX3.out.cells3; have HX4 := Lib.hid (HX3.out.store3 a' b' d'); have HO4 := Lib.hid (HO3.out.set3 HF.out (.int .i64 a') (.int .i64 b') (.int .i64 d')); have HB4 := Lib.hid (below_store3 HB3.out (Nat.le_of_lt hBw) (.int .i64 a') (.int .i64 b') (.int .i64 d')))
          | (at_builtin; refine wpList_appL (F := wdS) rfl _ (.tmp 31) (.tmp 33) 23 rfl _ 24 Try.underlying23 wdInfo rfl w.heap.size A3 k c3 _ rfl (HO4.out.below (ba1 _ _)) _ 1 1 [⟨a', b', d'⟩] rfl (ls_new _ _ _ _ rfl _ (by simp)) rfl (k + 1) rfl (by omega) (by omega) (by have := HB4.out.size; simp at this ⊢; omega) ?_; intro A5 c5 w5 ho5 hb5 hs5; have HO5 := Lib.hid ho5; have HB5 := Lib.hid ((HB4.out.alloc HB4.out.size _).trans hb5); have HX5 := Lib.hid ((HX4.out.below (ba1 _ _)).beside hs5 HF.out); have HF5 := Lib.hid (HF.out.grow hs5 (by simp; omega)); clear ho5 hb5 hs5))
        exact ⟨⟨k + 1, A5, c5, a', b', d', by omega, by go_num, rfl, by rw [HP.out]; exact HO5.out, HF5.out, hC.out, HT.out, HX5.out, HB5.out⟩, by simp [intOf]; omega⟩
      · obtain ⟨code, hc⟩ : ∃ code, code = sigCode (g1, g2) := ⟨_, rfl⟩
        have HK := Lib.hid hc
        have hC := Lib.hid ((firstCode_drop l k _ HG.out HC.out).2 hcode)
        have h23 : code = 2 ∨ code = 3 := by
          unfold sigCode at hc hcode; simp only at hc hcode
          split at hc
          · omega
          · split at hc
            · omega
            · rw [if_neg (by assumption), if_neg (by assumption)] at hcode; exact absurd rfl hcode
        clear hc hcode
        rcases h23 with rfl | rfl
        all_goals
          go_wp2_with (go_at_call 14; (refine (behind_no a b d g1 g2 _ _ HK.out (by decide)).mono ?_); rintro e w3 ⟨rfl, hb3⟩; have HX3 : Hid (Bx 28 w3 B (i3 a b d)) := Lib.hid (HX1.out.below hb3); have HB3 : Hid (Below w.heap.size w w3) := Lib.hid (bthen HW1.out hb3); clear hb3; obtain ⟨lD, cD0, cD1, cD2, fD0, fD1, fD2⟩ := HX3.out.cells3)
          go_ret2
          exact .inr ⟨by rw [hC.out, ← HK.out]; decide, by rw [hC.out, ← HK.out]; first | done | rfl, below_store3 HB3.out (Nat.le_of_lt hBw) _ _ _⟩
    · obtain rfl : n = k := by omega
      have h0 : firstCode l = 0 := by rw [HC.out, List.drop_eq_nil_of_le (by rw [HN.out]; omega)]; rfl
      have HZ := Lib.hid h0
      clear h0
      go_wp2
      go_ret2
      have ho := HO.out
      rw [List.take_of_length_le (by rw [HN.out]; omega)] at ho
      exact .inl ⟨HZ.out, _, _, rfl, ho, HW.out⟩

theorem play_size (A : Option Addr) (n c : Nat) (w : World) (h300 : ¬ n ≤ 300) (h47 : n ≤ 17592186044416) :
    Calls Try.prog 8 #[.slice A n c] w fun e w' => e = .returned (.tuple #[.slice none 0 0, .int .i64 1]) ∧ w = w' := by
  go_enter Try.func8, Try.ntmps8
  go_wp2
  go_ret2
  exact ⟨rfl, rfl⟩

theorem play_ok (A : Option Addr) (n c : Nat) (l : List Sig) (w : World) (hb : Ls sgS w A l) (hn : l.length = n) (h300 : n ≤ 300) (h0 : firstCode l = 0) :
    Calls Try.prog 8 #[.slice A n c] w fun e w' => ∃ A c, e = .returned (.tuple #[.slice A n c, .int .i64 0]) ∧ OwnL wdS 28 w' w.heap.size A n c (plays wd0 l) ∧ Below w.heap.size w w' :=
  (play_any A n c l w hb hn h300).mono fun e w' h => h.elim (fun h => h.2) (fun h => absurd h0 h.1)
theorem play_no (A : Option Addr) (n c : Nat) (l : List Sig) (w : World) (hb : Ls sgS w A l) (hn : l.length = n) (h300 : n ≤ 300) (h0 : firstCode l ≠ 0) :
    Calls Try.prog 8 #[.slice A n c] w fun e w' => e = .returned (.tuple #[.slice none 0 0, .int .i64 (firstCode l)]) ∧ Below w.heap.size w w' :=
  (play_any A n c l w hb hn h300).mono fun e w' h => h.elim (fun h => absurd h.1 h0) (fun h => h.2)

end Go.Proofs.Ytjaaijobdccclaa
