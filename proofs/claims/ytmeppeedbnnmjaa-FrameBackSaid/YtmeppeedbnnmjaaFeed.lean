/-
  The program's frame.Feed.
-/
import Derived.Test.YtmeppeedbnnmjaaFrame1
import Derived.Test.YtmeppeedbnnmjaaRetF
import Derived.Test.YtmeppeedbnnmjaaConcat
namespace Go.Proofs.Ytmeppeedbnnmjaa
open Go.RowKit
set_option linter.unusedVariables false
set_option linter.unusedSimpArgs false

theorem clone_any (A : Option Addr) (n c : Nat) (zs : List Int) (w : World) (hb : Ls byS w A zs) (hn : zs.length = n) (hm : n ≤ 100000000) (hA : A = none ∧ n = 0 ∧ c = 0 ∨ ∃ b o, A = some ⟨b, o, none⟩) :
    Calls Try.prog 21 #[.slice A n c] w fun e w' => ∃ A' c', e = .returned (.slice A' n c') ∧ OwnL byS 5 w' w.heap.size A' n c' zs ∧ Below w.heap.size w w' := by
  rcases hA with ⟨rfl, rfl, rfl⟩ | ⟨b, o, rfl⟩
  · obtain rfl : zs = [] := List.eq_nil_of_length_eq_zero hn
    refine (clone_none w).mono ?_
    rintro e w' ⟨rfl, rfl⟩
    exact ⟨none, 0, rfl, OwnL.nil _ _, Below.refl _ _⟩
  · exact clone_some b o n c zs w hb hn hm

theorem feed_state (A : Option Addr) (n c : Nat) (B : Option Addr) (m d : Nat) (w : World) (h : 1027 < n) :
    Calls Try.prog 11 #[.slice A n c, .slice B m d] w fun e w' => e = .returned (.tuple #[.slice none 0 0, .slice none 0 0, .int .i64 10]) ∧ w' = w := by
  have h1 : (1028 : Int) ≤ (n : Int) := by omega
  go_enter Try.func11, Try.ntmps11
  go_wp2
  go_ret3
  exact ⟨rfl, rfl⟩

/-- how far the walk has come -/
def FeX (w : World) (z0 : List Int) (s r : Value) (wr : World) : Prop :=
  ∃ (k n : Nat) (fs : List (List Int)) (rest : List Int) (A : Option Addr) (c : Nat) (ls : List Lv) (B : Option Addr) (q : Nat), s = .slice A k c ∧ r = .slice B n q ∧ k = fs.length ∧ n = rest.length ∧ n ≤ q ∧ (pars z0 = match pars rest with | none => none | some p => some (fs ++ p.1, p.2)) ∧ octs rest ∧ 4 * k + n ≤ z0.length ∧
    Ls byS wr B rest ∧ (B = none ∧ n = 0 ∧ q = 0 ∨ ∃ b o, B = some ⟨b, o, none⟩) ∧ Clear (fun j => (Value.slice A k c).ownBlock = some j) B ∧
    OwnL lvS 22 wr w.heap.size A k c ls ∧ ls.map Lv.l = fs ∧ LI wr (fun j => j < w.heap.size ∨ (Value.slice A k c).ownBlock = some j) ls ∧ Below w.heap.size w wr

set_option maxRecDepth 100000 in
set_option maxHeartbeats 2000000 in
theorem feed_any (A : Option Addr) (n c : Nat) (B : Option Addr) (m d : Nat) (ys zs : List Int) (w : World) (ha : Ls byS w A ys) (hb : Ls byS w B zs) (hn : ys.length = n) (hm : zs.length = m) (h : n ≤ 1027) (hmb : m ≤ 10000000) (hoy : octs ys) (hoz : octs zs) :
    Calls Try.prog 11 #[.slice A n c, .slice B m d] w (RetF w (pars (ys ++ zs))) := by
  have h1 : ¬ (1028 : Int) ≤ (n : Int) := by omega
  have HA := Lib.hid ha
  have HB := Lib.hid hb
  have HN := Lib.hid hn
  have HM := Lib.hid hm
  have HO : Hid (octs (ys ++ zs)) := Lib.hid (hoy.app hoz)
  obtain ⟨z0, hz0⟩ : ∃ z, z = ys ++ zs := ⟨_, rfl⟩
  have HZL : Hid (z0.length = n + m) := Lib.hid (by rw [hz0, List.length_append, hn, hm])
  rw [← hz0] at HO ⊢
  have HZ := Lib.hid hz0
  clear ha hb hn hm hoy hoz hz0
  go_enter Try.func11, Try.ntmps11
  go_wp2_with (go_at_call 19; refine (concat_two (some ⟨w.heap.size, 0, none⟩) 2 A n c B m d ys zs _ (ls_new w _ _ _ rfl _ rfl) (HA.out.below (ba1 _ _)) (HB.out.below (ba1 _ _)) HN.out HM.out (by omega)).mono ?_; rintro e w1 ⟨A1, c1, rfl, ho1, hb1⟩; rw [← HZ.out] at ho1; have O1 := Lib.hid ho1; have HB1 : Hid (Below w.heap.size w w1) := Lib.hid (bthen (ba1 _ _) hb1); clear ho1 hb1)
  go_loopw [8, 7] (fun s r wr => FeX w z0 s r wr) (fun _ r _ => match r with | .slice _ k _ => k | _ => 0)
  case atStart =>
    refine ⟨0, n + m, [], z0, none, 0, [], A1, c1, rfl, rfl, rfl, HZL.out.symm, O1.out.cap, ?_, HO.out, by rw [HZL.out]; omega, O1.out.ls, ?_, fun a _ hk => by (cases hk), OwnL.nil _ _, rfl, LI.nil _ _, HB1.out⟩
    · rcases pars z0 with _ | ⟨a, b⟩ <;> rfl
    · rcases O1.out.addr with ⟨g1, g2, g3⟩ | ⟨g, g1, -⟩
      · exact .inl ⟨g1, g2, g3⟩
      · exact .inr ⟨g, 0, g1⟩
  case round =>
    obtain ⟨k, r, fs, rest, A2, c2, ls, B2, q, rfl, rfl, hk, hr, hq, hp, hor, hfl, hlb, hadr, hclr, how, hls, hli, hbw⟩ := hrel
    rw [HZL.out] at hfl
    have HK := Lib.hid hk
    have HR := Lib.hid hr
    have HP := Lib.hid hp
    have HOR := Lib.hid hor
    have HLB := Lib.hid hlb
    have HAD := Lib.hid hadr
    have HCL := Lib.hid hclr
    have HOW := Lib.hid how
    have HLS := Lib.hid hls
    have HLI := Lib.hid hli
    have HBW := Lib.hid hbw
    clear hk hr hp hor hlb hadr hclr how hls hli hbw
    have hdone : pars rest = some ([], rest) → ∀ A' c' w', Below wr.heap.size wr w' → OwnL byS 5 w' wr.heap.size A' r c' rest → RetF w (pars z0) (.returned (.tuple #[.slice A2 k c2, .slice A' r c', .int .i64 0])) w' := fun hp A' c' w' hb ho => by
      have e : pars z0 = some (fs, rest) := by rw [HP.out, hp]; simp
      rw [e]
      refine ⟨HBW.out.trans (hb.mono HBW.out.size), A2, c2, ls, A', c', by rw [← HK.out, ← HR.out], by rw [← HK.out]; exact HOW.out.below hb, HLS.out, by rw [← HK.out]; exact HLI.out.new hb, by rw [← HR.out]; exact ho.base HBW.out.size⟩
    have HDONE := Lib.hid hdone
    clear hdone
    have hB2 : B2 = none ∧ r = 0 ∧ q = 0 ∨ ∃ b o, B2 = some ⟨b, o, none⟩ := HAD.out
    by_cases h4 : r < 4
    · have h4i : ¬ (4 : Int) ≤ (r : Int) := by omega
      have HD : Hid (∀ A' c' w', Below wr.heap.size wr w' → OwnL byS 5 w' wr.heap.size A' r c' rest → RetF w (pars z0) (.returned (.tuple #[.slice A2 k c2, .slice A' r c', .int .i64 0])) w') := Lib.hid (HDONE.out (pars_short (by rw [← HR.out]; exact h4)))
      clear hB2
      go_wp2_with (go_at_call 21; refine (clone_any B2 r q rest wr HLB.out HR.out.symm (by omega) HAD.out).mono ?_; rintro e w5 ⟨A5, c5, rfl, ho5, hb5⟩; have HR5 := Lib.hid (HD.out A5 c5 w5 hb5 ho5); clear ho5 hb5)
      go_ret3
      exact HR5.out
    · have h4i : (4 : Int) ≤ (r : Int) := by omega
      obtain ⟨hb0, hb1⟩ := len4_bd HOR.out
      obtain ⟨nn, hnn⟩ : ∃ nn : Nat, len4 rest = (nn : Int) := ⟨(len4 rest).toNat, by omega⟩
      rw [hnn] at hb0 hb1
      have HV := Lib.hid hnn
      clear hnn
      rcases hB2 with ⟨-, g, -⟩ | ⟨b, o, rfl⟩
      · omega
      by_cases hlong : 1024 < nn
      · have hli : (1024 : Int) < (nn : Int) := by omega
        have HN : Hid (pars z0 = none) := Lib.hid (by rw [HP.out, pars_long (by rw [← HR.out]; omega) (by rw [HV.out]; exact hli)])
        go_wp2_with (go_at_call 20; refine (length_any (some ⟨b, o, none⟩) r _ rest wr HLB.out HR.out.symm (by omega) hq (by omega) HOR.out).mono ?_; rw [HV.out]; rintro e w5 ⟨rfl, rfl⟩)
        go_ret3
        rw [HN.out]
        exact ⟨HBW.out, rfl⟩
      · have hli : ¬ (1024 : Int) < (nn : Int) := by omega
        by_cases hpart : r < 4 + nn
        · have hpi : (r : Int) < 4 + (nn : Int) := by omega
          have HD : Hid (∀ A' c' w', Below wr.heap.size wr w' → OwnL byS 5 w' wr.heap.size A' r c' rest → RetF w (pars z0) (.returned (.tuple #[.slice A2 k c2, .slice A' r c', .int .i64 0])) w') := Lib.hid (HDONE.out (pars_part (by rw [← HR.out]; omega) (by rw [HV.out]; exact hli) (by rw [HV.out, ← HR.out]; omega)))
          go_wp2_with (first
            | (go_at_call 20; refine (length_any (some ⟨b, o, none⟩) r _ rest wr HLB.out HR.out.symm (by omega) hq (by omega) HOR.out).mono ?_; rw [HV.out]; rintro e w5 ⟨rfl, rfl⟩)
            | (go_at_call 21; refine (clone_any (some ⟨b, o, none⟩) r q rest w5 HLB.out HR.out.symm (by omega) HAD.out).mono ?_; rintro e w6 ⟨A5, c5, rfl, ho5, hb5⟩; have HR5 := Lib.hid (HD.out A5 c5 w6 hb5 ho5); clear ho5 hb5))
          go_ret3
          exact HR5.out
        · have hpi : ¬ (r : Int) < 4 + (nn : Int) := by omega
          have HS : Hid (pars rest = match pars (rest.drop (4 + nn)) with | none => none | some p => some ((rest.drop 4).take nn :: p.1, p.2)) := Lib.hid (by
            have := pars_step (z := rest) (by rw [← HR.out]; omega) (by rw [HV.out]; exact hli) (by rw [HV.out, ← HR.out]; omega)
            rw [this, HV.out]; rfl)
          have HX : Hid (((rest.drop 4).take nn).length = nn) := Lib.hid (by rw [List.length_take, List.length_drop, ← HR.out]; omega)
          have HL4 : Hid (Ls byS wr (some ⟨b, o + 4, none⟩) ((rest.drop 4).take nn)) := Lib.hid ((HLB.out.drop1 rfl 4).take nn)
          have hbl : b < wr.heap.size := by
            obtain ⟨b', o', hA, hlt, -⟩ := HLB.out.at 0 (rest.getD 0 0) (by rw [List.getD_eq_getElem?_getD, List.getElem?_eq_getElem (by rw [← HR.out]; omega)]; rfl)
            injection hA with hA; injection hA with e1 e2
            omega
          have hnx : ∀ (w6 w8 : World) (A6 : Option Addr) (c6 : Nat) (A8 : Option Addr) (c8 : Nat) (ob : Obj), Below wr.heap.size wr w6 → OwnL byS 5 w6 wr.heap.size A6 nn c6 ((rest.drop 4).take nn) → OwnL lvS 22 w8 w.heap.size A8 (k + 1) c8 (ls ++ [⟨(rest.drop 4).take nn, A6, nn, c6⟩]) →
              Below w.heap.size (w6.alloc ob) w8 → Beside (.slice A2 k c2) (.slice A8 (k + 1) c8) (w6.alloc ob) w8 → ∀ o' : Nat, (o' = o + (4 + nn) ∨ r = 4 + nn) → FeX w z0 (.slice A8 (k + 1) c8) (.slice (some ⟨b, o', none⟩) (r - (4 + nn)) (q - (4 + nn))) w8 := by
            intro w6 w8 A6 c6 A8 c8 ob hb6 ho6 ho8 hb8 hs8 o' ho'
            have z1 := HBW.out.size
            have z2 := hb6.size
            have z3 : (w6.alloc ob).heap.size = w6.heap.size + 1 := by simp
            have hcl0 : Clear (fun j => (Value.slice A2 k c2).ownBlock = some j) (some ⟨b, o', none⟩) := fun a ha => by
              injection ha with ha; subst ha
              exact HCL.out ⟨b, o, none⟩ rfl
            have hbw8 : Below wr.heap.size wr (w6.alloc ob) := bthen hb6 (ba1 _ _)
            refine ⟨k + 1, r - (4 + nn), fs ++ [(rest.drop 4).take nn], rest.drop (4 + nn), A8, c8, ls ++ [⟨(rest.drop 4).take nn, A6, nn, c6⟩], some ⟨b, o', none⟩, q - (4 + nn), rfl, rfl, by rw [List.length_append, ← HK.out]; rfl, by rw [List.length_drop, ← HR.out], by omega, ?_, HOR.out.drop _, by rw [HZL.out]; omega, ?_, .inr ⟨b, o', rfl⟩, ?_, ho8, by rw [List.map_append, HLS.out]; rfl, ?_, (HBW.out.trans (hbw8.mono z1)).trans hb8⟩
            · rw [HP.out, HS.out]
              rcases pars (rest.drop (4 + nn)) with _ | ⟨a, c⟩
              · rfl
              · simp
            · refine Ls.only (S := fun j => (Value.slice A2 k c2).ownBlock = some j) (w := w6.alloc ob) (Ls.below ?_ hbw8) (hs8.only hb8) hcl0
              rcases ho' with rfl | h
              · exact HLB.out.drop1 rfl (4 + nn)
              · rw [List.drop_eq_nil_of_le (by rw [← HR.out]; omega)]; exact Ls.nil _ _
            · intro a ha hj
              injection ha with ha; subst ha
              rcases hs8.own b hj with g | g
              · exact HCL.out ⟨b, o, none⟩ rfl g
              · omega
            · refine LI.grown ?_ hb8 hs8
              refine LI.new ?_ (ba1 w6 ob)
              refine (HLI.out.new hb6).app (LI.one HX.out ho6.ls (clear_of_own ho6.2 fun j hj => ?_))
              rcases hj with (hj | hj) | hj
              · left; omega
              · left; exact (HOW.out.lt j hj).2
              · exact .inr hj
          have HNX := Lib.hid hnx
          clear hnx
          by_cases hq4 : q = 4
          · obtain rfl : nn = 0 := by omega
            have hre : r = 4 + 0 := by omega
            have HRE := Lib.hid hre
            clear hre
            subst hq4
            go_wp2_with (first
              | (go_at_call 20; refine (length_any (some ⟨b, o, none⟩) r _ rest wr HLB.out HR.out.symm (by omega) hq (by omega) HOR.out).mono ?_; rw [HV.out]; rintro e w5 ⟨rfl, rfl⟩)
              | (go_at_call 21; refine (clone_some b o 0 _ ((rest.drop 4).take 0) w5 (by rw [List.take_zero]; exact Ls.nil _ _) HX.out (by omega)).mono ?_; rintro e w6 ⟨A6, c6, rfl, ho6, hb6⟩; have HO6 := Lib.hid ho6; have HB6 := Lib.hid hb6; clear ho6 hb6)
              | (at_builtin; refine wpList_appL (F := lvS) rfl _ (.tmp 31) (.tmp 36) 28 rfl _ 24 Try.underlying28 lvInfo rfl w.heap.size A2 k c2 ls rfl ((HOW.out.below HB6.out).below (ba1 _ _)) (some ⟨w6.heap.size, 0, none⟩) 1 1 [⟨(rest.drop 4).take 0, A6, 0, c6⟩] rfl (ls_new w6 _ _ _ rfl _ rfl) rfl (k + 1) rfl (by omega) (by omega) (by have := HBW.out.size; have := HB6.out.size; simp; omega) ?_; intro A8 c8 w8 ho8 hb8 hs8; have HN8 := Lib.hid (HNX.out w6 w8 A6 c6 A8 c8 _ HB6.out HO6.out ho8 hb8 hs8); clear ho8 hb8 hs8))
            go_roundw
            case rel => have h8 := HN8.out o (.inr HRE.out); rw [HRE.out] at h8; exact h8
            case measure => simp; omega
          · by_cases hqe : q = 4 + nn
            · subst hqe
              have hre : r = 4 + nn := by omega
              have HRE := Lib.hid hre
              clear hre
              go_wp2_with (first
                | (go_at_call 20; refine (length_any (some ⟨b, o, none⟩) r _ rest wr HLB.out HR.out.symm (by omega) hq (by omega) HOR.out).mono ?_; rw [HV.out]; rintro e w5 ⟨rfl, rfl⟩)
                | (go_at_call 21; refine (clone_some b (o + 4) nn _ _ w5 HL4.out HX.out (by omega)).mono ?_; rintro e w6 ⟨A6, c6, rfl, ho6, hb6⟩; have HO6 := Lib.hid ho6; have HB6 := Lib.hid hb6; clear ho6 hb6)
                | (at_builtin; refine wpList_appL (F := lvS) rfl _ (.tmp 31) (.tmp 36) 28 rfl _ 24 Try.underlying28 lvInfo rfl w.heap.size A2 k c2 ls rfl ((HOW.out.below HB6.out).below (ba1 _ _)) (some ⟨w6.heap.size, 0, none⟩) 1 1 [⟨(rest.drop 4).take nn, A6, nn, c6⟩] rfl (ls_new w6 _ _ _ rfl _ rfl) rfl (k + 1) rfl (by omega) (by omega) (by have := HBW.out.size; have := HB6.out.size; simp; omega) ?_; intro A8 c8 w8 ho8 hb8 hs8; have HN8 := Lib.hid (HNX.out w6 w8 A6 c6 A8 c8 _ HB6.out HO6.out ho8 hb8 hs8); clear ho8 hb8 hs8))
              go_roundw
              case rel => exact HN8.out o (.inr HRE.out)
              case measure => simp; omega
            · go_wp2_with (first
                | (go_at_call 20; refine (length_any (some ⟨b, o, none⟩) r _ rest wr HLB.out HR.out.symm (by omega) hq (by omega) HOR.out).mono ?_; rw [HV.out]; rintro e w5 ⟨rfl, rfl⟩)
                | (go_at_call 21; refine (clone_some b (o + 4) nn _ _ w5 HL4.out HX.out (by omega)).mono ?_; rintro e w6 ⟨A6, c6, rfl, ho6, hb6⟩; have HO6 := Lib.hid ho6; have HB6 := Lib.hid hb6; clear ho6 hb6)
                | (at_builtin; refine wpList_appL (F := lvS) rfl _ (.tmp 31) (.tmp 36) 28 rfl _ 24 Try.underlying28 lvInfo rfl w.heap.size A2 k c2 ls rfl ((HOW.out.below HB6.out).below (ba1 _ _)) (some ⟨w6.heap.size, 0, none⟩) 1 1 [⟨(rest.drop 4).take nn, A6, nn, c6⟩] rfl (ls_new w6 _ _ _ rfl _ rfl) rfl (k + 1) rfl (by omega) (by omega) (by have := HBW.out.size; have := HB6.out.size; simp; omega) ?_; intro A8 c8 w8 ho8 hb8 hs8; have HN8 := Lib.hid (HNX.out w6 w8 A6 c6 A8 c8 _ HB6.out HO6.out ho8 hb8 hs8); clear ho8 hb8 hs8))
              go_roundw
              case rel => exact HN8.out _ (.inl rfl)
              case measure => simp; omega

end Go.Proofs.Ytmeppeedbnnmjaa
