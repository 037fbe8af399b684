/-
  The walks of FrameWraps and FrameFeeds.
-/
import Derived.Test.YtmeppeedbnnmjaaFeed
import Derived.Test.YtmeppeedbnnmjaaFrameRef
import Derived.Test.YtmeppeedbnnmjaaSlsLaw
namespace Go.Proofs.Ytmeppeedbnnmjaa
open Go.RowKit
set_option linter.unusedVariables false
set_option linter.unusedSimpArgs false

theorem walkFrameWraps (A : Option Addr) (n c : Nat) (zs : List Int) (w : World) (hb : Ls byS w A zs) (hn : zs.length = n) (hc : n ≤ c) (hr : c ≤ 140737488351232) (hz : ∀ z ∈ zs, 0 ≤ z ∧ z ≤ 255) :
    Calls Try.prog 3 #[.slice A n c] w fun e w' => e = .returned (.bool true) ∧ Below w.heap.size w w' := by
  have HB := Lib.hid hb
  have HN := Lib.hid hn
  clear hb hn hz
  by_cases h : 1024 < n
  · go_enter Try.func3, Try.ntmps3
    go_wp2_with (first
      | (go_at_call 8; refine (wrap_size A n c w h).mono ?_; rintro e w1 ⟨rfl, rfl⟩)
      | (go_at_call 9; refine (wrapped_size A n c w1 h).mono ?_; rintro e w2 ⟨rfl, rfl⟩)
      | (go_at_call 10; refine (same_law none 0 0 none 0 [] w2 (Ls.nil _ _) (Ls.nil _ _) rfl (by omega)).mono ?_; rintro e w3 ⟨rfl, hb3⟩; have HB3 := Lib.hid hb3; clear hb3))
    go_ret
    exact ⟨rfl, HB3.out⟩
  · have h' : n ≤ 1024 := by omega
    have HL : Hid ((wrap1 zs).length = 4 + n) := Lib.hid (by rw [wrap1_len, HN.out])
    go_enter Try.func3, Try.ntmps3
    go_wp2_with (first
      | (go_at_call 8; refine (wrap_ok A n c zs w HB.out HN.out h').mono ?_; rintro e w1 ⟨A1, c1, rfl, ho1, hb1⟩; have HO1 := Lib.hid ho1; have HB1 := Lib.hid hb1; clear ho1 hb1)
      | (go_at_call 9; refine (wrapped_ok A n c zs w1 (HB.out.below HB1.out) HN.out h').mono ?_; rintro e w2 ⟨A2, c2, rfl, ho2, hb2⟩; have HO2 := Lib.hid ho2; have HB2 := Lib.hid hb2; clear ho2 hb2)
      | (go_at_call 10; refine (same_law A1 (4 + n) c1 A2 c2 (wrap1 zs) w2 (HO1.out.below HB2.out).ls HO2.out.ls HL.out (by omega)).mono ?_; rintro e w3 ⟨rfl, hb3⟩; have HB3 := Lib.hid hb3; clear hb3))
    go_ret
    exact ⟨rfl, bthen (bthen HB1.out HB2.out) HB3.out⟩

set_option maxHeartbeats 1000000 in
theorem walkFrameFeeds (A : Option Addr) (n c : Nat) (ys : List Int) (B : Option Addr) (m d : Nat) (zs : List Int) (w : World) (hb : Ls byS w A ys) (hn : ys.length = n) (hc : n ≤ c) (hr : c ≤ 140737488351232) (hy : ∀ z ∈ ys, 0 ≤ z ∧ z ≤ 255) (hb' : Ls byS w B zs) (hn' : zs.length = m) (hc' : m ≤ d) (hr' : d ≤ 140737488351232) (hz : ∀ z ∈ zs, 0 ≤ z ∧ z ≤ 255) (hmb : m ≤ 10000000) :
    Calls Try.prog 4 #[.slice A n c, .slice B m d] w fun e w' => e = .returned (.bool true) ∧ Below w.heap.size w w' := by
  have HA := Lib.hid hb
  have HN := Lib.hid hn
  have HB := Lib.hid hb'
  have HM := Lib.hid hn'
  have HY : Hid (octs ys) := Lib.hid hy
  have HZ : Hid (octs zs) := Lib.hid hz
  clear hb hn hb' hn' hy hz
  by_cases h : 1027 < n
  · go_enter Try.func4, Try.ntmps4
    go_wp2_with (first
      | (go_at_call 11; refine (feed_state A n c B m d w h).mono ?_; rintro e w1 ⟨rfl, rfl⟩)
      | (go_at_call 12; refine (fed_state A n c B m d w1 h).mono ?_; rintro e w2 ⟨rfl, rfl⟩)
      | (go_at_call 13; refine (lists_law none 0 0 none 0 [] [] [] w2 (fun _ => False) (fun _ => False) (Ls.nil _ _) (Ls.nil _ _) (LI.nil _ _) (LI.nil _ _) rfl rfl rfl (by omega) (by simp)).mono ?_; rintro e w3 ⟨rfl, hb3⟩; have HB3 := Lib.hid hb3; clear hb3)
      | (go_at_call 10; refine (same_law none 0 0 none 0 [] w3 (Ls.nil _ _) (Ls.nil _ _) rfl (by omega)).mono ?_; rintro e w4 ⟨rfl, hb4⟩; have HB4 := Lib.hid hb4; clear hb4))
    go_ret
    exact ⟨rfl, bthen HB3.out HB4.out⟩
  · have h' : n ≤ 1027 := by omega
    have HF : Hid (∀ w, Below w.heap.size w w → Ls byS w A ys → Ls byS w B zs → Calls Try.prog 11 #[.slice A n c, .slice B m d] w (RetF w (pars (ys ++ zs)))) := Lib.hid (fun w _ h1 h2 => feed_any A n c B m d ys zs w h1 h2 HN.out HM.out h' hmb HY.out HZ.out)
    have HG : Hid (∀ w, Ls byS w A ys → Ls byS w B zs → Calls Try.prog 12 #[.slice A n c, .slice B m d] w (RetF w (pars (ys ++ zs)))) := Lib.hid (fun w h1 h2 => fed_any A n c B m d ys zs w h1 h2 HN.out HM.out h' hmb HY.out HZ.out)
    rcases hp : pars (ys ++ zs) with _ | ⟨fs, rest⟩
    · rw [hp] at HF HG
      clear hp
      go_enter Try.func4, Try.ntmps4
      go_wp2_with (first
        | (go_at_call 11; refine (HF.out w (Below.refl _ _) HA.out HB.out).mono ?_; rintro e w1 ⟨hb1, rfl⟩; have HB1 := Lib.hid hb1; clear hb1)
        | (go_at_call 12; refine (HG.out w1 (HA.out.below HB1.out) (HB.out.below HB1.out)).mono ?_; rintro e w2 ⟨hb2, rfl⟩; have HB2 := Lib.hid hb2; clear hb2)
        | (go_at_call 13; refine (lists_law none 0 0 none 0 [] [] [] w2 (fun _ => False) (fun _ => False) (Ls.nil _ _) (Ls.nil _ _) (LI.nil _ _) (LI.nil _ _) rfl rfl rfl (by omega) (by simp)).mono ?_; rintro e w3 ⟨rfl, hb3⟩; have HB3 := Lib.hid hb3; clear hb3)
        | (go_at_call 10; refine (same_law none 0 0 none 0 [] w3 (Ls.nil _ _) (Ls.nil _ _) rfl (by omega)).mono ?_; rintro e w4 ⟨rfl, hb4⟩; have HB4 := Lib.hid hb4; clear hb4))
      go_ret
      exact ⟨rfl, bthen (bthen (bthen HB1.out HB2.out) HB3.out) HB4.out⟩
    · rw [hp] at HF HG
      have hpr := pars_rest _ _ (Nat.le_refl _) _ _ hp
      rw [List.length_append, HN.out, HM.out] at hpr
      have HFE : Hid (∀ t ∈ fs, t.length ≤ 140737488355328) := Lib.hid (fun t ht => by have := hpr.2.2.2.2.1 t ht; omega)
      obtain ⟨k, hk⟩ : ∃ k, k = fs.length := ⟨_, rfl⟩
      obtain ⟨r, hr⟩ : ∃ k, k = rest.length := ⟨_, rfl⟩
      have hk1 : k ≤ 1027 + 10000000 := by have := hpr.2.2.2.1; omega
      have hr1 : r ≤ 1027 := by have := hpr.2.1; omega
      have HK := Lib.hid hk
      have HR := Lib.hid hr
      clear hp hpr hk hr
      go_enter Try.func4, Try.ntmps4
      go_wp2_with (first
        | (go_at_call 11; refine (HF.out w (Below.refl _ _) HA.out HB.out).mono ?_; rintro e w1 ⟨hb1, A1, c1, l1, B1, d1, rfl, ho1, hm1, hl1, hr1⟩; rw [← HK.out] at ho1 hl1 ⊢; rw [← HR.out] at hr1 ⊢; have HB1 := Lib.hid hb1; have HO1 := Lib.hid ho1; have HM1 := Lib.hid hm1; have HL1 := Lib.hid hl1; have HR1 := Lib.hid hr1; clear hb1 ho1 hm1 hl1 hr1)
        | (go_at_call 12; refine (HG.out w1 (HA.out.below HB1.out) (HB.out.below HB1.out)).mono ?_; rintro e w2 ⟨hb2, A2, c2, l2, B2, d2, rfl, ho2, hm2, hl2, hr2⟩; rw [← HK.out] at ho2 hl2 ⊢; rw [← HR.out] at hr2 ⊢; have HB2 := Lib.hid hb2; have HO2 := Lib.hid ho2; have HM2 := Lib.hid hm2; have HL2 := Lib.hid hl2; have HR2 := Lib.hid hr2; clear hb2 ho2 hm2 hl2 hr2)
        | (go_at_call 13; refine (lists_law A1 k c1 A2 c2 l1 l2 fs w2 _ _ (HO1.out.below HB2.out).ls HO2.out.ls (HL1.out.new HB2.out) HL2.out HM1.out HM2.out HK.out.symm (by omega) HFE.out).mono ?_; rintro e w3 ⟨rfl, hb3⟩; have HB3 := Lib.hid hb3; clear hb3)
        | (go_at_call 10; refine (same_law B1 r d1 B2 d2 rest w3 ((HR1.out.below HB2.out).below HB3.out).ls (HR2.out.below HB3.out).ls HR.out.symm (by omega)).mono ?_; rintro e w4 ⟨rfl, hb4⟩; have HB4 := Lib.hid hb4; clear hb4))
      go_ret
      exact ⟨rfl, bthen (bthen (bthen HB1.out HB2.out) HB3.out) HB4.out⟩

theorem walkFrameFeedsUpto (A : Option Addr) (n c : Nat) (ys : List Int) (B : Option Addr) (m d : Nat) (zs : List Int) (w : World) (hb : Ls byS w A ys) (hn : ys.length = n) (hc : n ≤ c) (hr : c ≤ 140737488351232) (hy : ∀ z ∈ ys, 0 ≤ z ∧ z ≤ 255) (hb' : Ls byS w B zs) (hn' : zs.length = m) (hc' : m ≤ d) (hr' : d ≤ 140737488351232) (hz : ∀ z ∈ zs, 0 ≤ z ∧ z ≤ 255) (_ : n ≤ 1048576) (hmb : m ≤ 1048576) :
    Calls Try.prog 4 #[.slice A n c, .slice B m d] w fun e w' => e = .returned (.bool true) ∧ Below w.heap.size w w' :=
  walkFrameFeeds A n c ys B m d zs w hb hn hc hr hy hb' hn' hc' hr' hz (by omega)

end Go.Proofs.Ytmeppeedbnnmjaa
