/-
  The walk of DeltaPatches.
-/
import Derived.Test.YtdilpebhecmjmaaDelRefP
import Derived.Test.YtdilpebhecmjmaaPcArg
import Derived.Test.YtdilpebhecmjmaaSameLaw
namespace Go.Proofs.Ytdilpebhecmjmaa
open Go.RowKit
set_option linter.unusedVariables false
set_option linter.unusedSimpArgs false

set_option maxRecDepth 100000 in
set_option maxHeartbeats 8000000 in
theorem walkDeltaPatches (A : Option Addr) (n c : Nat) (old : List Int) (L : Option Addr) (m d : Nat) (l : List Pv) (w : World)
    (hb : Ls byS w A old) (hn : old.length = n) (hc : n ≤ c) (hr : c ≤ 140737488351232) (hz : ∀ z ∈ old, 0 ≤ z ∧ z ≤ 255)
    (hl : Ls pcS w L l) (hm : l.length = m) (hd : m ≤ d) (hd2 : d ≤ 3518437208881) (hin : ∀ x ∈ l, PcIn1 w x) :
    Calls Try.prog 4 #[.slice A n c, .slice L m d] w fun e w' => e = .returned (.bool true) ∧ Below w.heap.size w w' := by
  have HA := Lib.hid hb
  have HN := Lib.hid hn
  have HL := Lib.hid hl
  have HM := Lib.hid hm
  have HI : Hid (PIn w l) := Lib.hid fun x hx => ⟨(hin x hx).1, (hin x hx).2.1, (hin x hx).2.2.1⟩
  have HU : Hid (PNum l) := Lib.hid fun x hx => (hin x hx).2.2.2
  obtain ⟨r, hr'⟩ : ∃ r, r = patchT old (l.map Pv.p) := ⟨_, rfl⟩
  have HRL : Hid (r.2.length ≤ 2048) := Lib.hid (by rw [hr']; exact patchT_len _ _)
  have HP : Hid (∀ w', Below w.heap.size w w' → Calls Try.prog 11 #[.slice A n c, .slice L m d] w' (RetPt w' r)) := Lib.hid fun w' h => by
    rw [hr']; exact patch_any A n c L m d old l w' (HA.out.below h) HN.out hc (by omega) (HL.out.below h) HM.out (HI.out.below h) HU.out
  have HF : Hid (∀ w', Below w.heap.size w w' → Calls Try.prog 12 #[.slice A n c, .slice L m d] w' (RetPt w' r)) := Lib.hid fun w' h => by
    rw [hr']; exact refP_any A n c L m d old l w' (HA.out.below h) HN.out (HL.out.below h) HM.out (HI.out.below h) HU.out
  obtain ⟨cd, bs⟩ := r
  clear hb hn hl hm hin hr' hz
  go_enter Try.func4, Try.ntmps4
  go_wp2_with (first
    | (go_at_call 11; (refine (HP.out w (Below.refl _ _)).mono ?_); rintro e w1 ⟨A1, m1, c1, rfl, hm1, ho1, hb1⟩; have HM1 := Lib.hid hm1; have HO1 := Lib.hid ho1; have HB1 := Lib.hid hb1; clear hm1 ho1 hb1)
    | (go_at_call 12; (refine (HF.out w1 HB1.out).mono ?_); rintro e w2 ⟨A2, m2, c2, rfl, hm2, ho2, hb2⟩; have HM2 := Lib.hid hm2; have HO2 := Lib.hid ho2; have HO1b := Lib.hid (HO1.out.below hb2); have HB2 : Hid (Below w.heap.size w w2) := Lib.hid (bthen HB1.out hb2); obtain rfl : m1 = m2 := (by rw [HM1.out, HM2.out]); clear hm2 ho2 hb2)
    | (go_at_call 13; (refine (same_law A1 m1 c1 A2 c2 bs w2 HO1b.out.ls HO2.out.ls HM1.out.symm (by have h1 : m1 = bs.length := HM1.out; have h2 : bs.length ≤ 2048 := HRL.out; omega)).mono ?_); rintro e w3 ⟨rfl, hb3⟩; have HB3 := Lib.hid (bthen HB2.out hb3); clear hb3))
  go_ret
  exact ⟨rfl, HB3.out⟩

end Go.Proofs.Ytdilpebhecmjmaa
