/-
  Comparisons of pieces: where they are the same.
-/
import Derived.Test.YtdilpebhecmjmaaDelTell
import Derived.Test.YtdilpebhecmjmaaSameLaw
namespace Go.Proofs.Ytdilpebhecmjmaa
open Go.RowKit
set_option linter.unusedVariables false
set_option linter.unusedSimpArgs false

set_option maxRecDepth 100000 in
set_option maxHeartbeats 8000000 in
theorem pieces_law (A : Option Addr) (n c : Nat) (B : Option Addr) (d : Nat) (l m : List Pv) (w : World) (ha : Ls pcS w A l) (hb : Ls pcS w B m) (hn : l.length = n) (he : l.map Pv.p = m.map Pv.p) (hi : PIn w l) (hj : PIn w m) (hs : n ≤ 4096) :
    Calls Try.prog 10 #[.slice A n c, .slice B n d] w fun e w' => e = .returned (.bool true) ∧ Below w.heap.size w w' := by
  have HA := Lib.hid ha
  have HB := Lib.hid hb
  have HN := Lib.hid hn
  have HE := Lib.hid he
  have HI := Lib.hid hi
  have HJ := Lib.hid hj
  clear ha hb hn he hi hj
  go_enter Try.func10, Try.ntmps10
  go_wp2
  go_loopw [5] (fun i wr => ∃ k t : Nat, k ≤ n ∧ i = .int .i64 k ∧ wr = w.drewN t) (fun i _ => n - (intOf i).toNat)
  case atStart => exact ⟨0, 0, Nat.zero_le _, rfl, rfl⟩
  case round =>
    obtain ⟨k, t, hk, rfl, hwr⟩ := hrel
    have HQ := Lib.hid hwr
    have hb1 : Below w.heap.size w wr := by rw [hwr]; exact below_drewN (Below.refl _ _) t
    clear hwr
    by_cases hlt : k < n
    · have hki : (k : Int) < (n : Int) := by omega
      obtain ⟨x, hx⟩ : ∃ x, l[k]? = some x := ⟨_, List.getElem?_eq_getElem (by rw [HN.out]; exact hlt)⟩
      obtain ⟨y, hy⟩ : ∃ y, m[k]? = some y := ⟨_, List.getElem?_eq_getElem (by have := congrArg List.length HE.out; simp at this; rw [← this, HN.out]; exact hlt)⟩
      have hxy : x.p = y.p := by
        have h1 : (l.map Pv.p)[k]? = some x.p := by rw [List.getElem?_map, hx]; rfl
        have h2 : (m.map Pv.p)[k]? = some y.p := by rw [List.getElem?_map, hy]; rfl
        rw [HE.out, h2] at h1
        injection h1 with h1
        exact h1.symm
      obtain ⟨b1, o1, rfl, hl1, c1⟩ := (HA.out.below hb1).at k x hx
      obtain ⟨b2, o2, rfl, hl2, c2⟩ := (HB.out.below hb1).at k y hy
      obtain ⟨i1, i2, i3⟩ := HI.out x (List.mem_of_getElem? hx)
      obtain ⟨j1, j2, j3⟩ := HJ.out y (List.mem_of_getElem? hy)
      have g0 := c1 0 (.bool x.p.copy) rfl
      have g1 := c1 1 (.int .i64 x.p.from_) rfl
      have g2 := c1 2 (.int .i64 x.p.len) rfl
      have g3 := c1 3 (.slice x.A x.n x.c) rfl
      have h0 := c2 0 (.bool y.p.copy) rfl
      have h1 := c2 1 (.int .i64 y.p.from_) rfl
      have h2 := c2 2 (.int .i64 y.p.len) rfl
      have h3 := c2 3 (.slice y.A y.n y.c) rfl
      simp only [pcS, Nat.add_zero] at g0 g1 g2 g3 h0 h1 h2 h3
      obtain ⟨⟨cp, fr, ln, da⟩, XA, xn, xc⟩ := x
      obtain ⟨yp, YA, yn, yc⟩ := y
      simp only at hxy g0 g1 g2 g3 h0 h1 h2 h3 i1 i2 i3 j1 j2 j3
      subst hxy
      simp only at h0 h1 h2 h3 j1 j2
      obtain rfl : xn = yn := by rw [← i2, ← j2]
      have HS : Hid (∀ q, Calls Try.prog 13 #[.slice XA xn xc, .slice YA xn yc] (World.drewN wr q) fun e w' => e = .returned (.bool true) ∧ ∃ m, w' = (World.drewN wr q).drewN m) := Lib.hid fun q =>
        have hb2 : Below w.heap.size w (World.drewN wr q) := below_drewN hb1 q
        same_lawq XA xn xc YA yc da _ (i1.below hb2) (j1.below hb2) i2 (by omega)
      clear c1 c2 i1 i2 j1 j2 hx hy
      rcases cp with _ | _
      · go_wp2
        go_quiet ((go_at_call 13; exact Calls.quiet_of (HS.out _)))
        go_wp2
        go_roundw
        case rel => exact ⟨k + 1, _, by omega, by go_num, by rw [HQ.out, World.drewN_drewN]⟩
        case measure => simp [intOf]; omega
      · go_wp2
        go_quiet ((go_at_call 13; exact Calls.quiet_of (HS.out _)))
        go_wp2
        go_roundw
        case rel => exact ⟨k + 1, _, by omega, by go_num, by rw [HQ.out, World.drewN_drewN]⟩
        case measure => simp [intOf]; omega
    · go_wp2
      go_ret
      exact ⟨rfl, hb1⟩

end Go.Proofs.Ytdilpebhecmjmaa
