/-
  The walk of DeltaBack.
-/
import Derived.Test.YtdilpebhecmjmaaDelDelta
import Derived.Test.YtdilpebhecmjmaaDelPatch
import Derived.Test.YtdilpebhecmjmaaDelBackMath
import Derived.Test.YtdilpebhecmjmaaMixed
import Derived.Test.YtdilpebhecmjmaaOct2
import Derived.Test.YtdilpebhecmjmaaSameKeep
namespace Go.Proofs.Ytdilpebhecmjmaa
open Go.RowKit
set_option linter.unusedVariables false
set_option linter.unusedSimpArgs false

set_option maxRecDepth 100000 in
set_option maxHeartbeats 8000000 in
theorem walkDeltaBack (A : Option Addr) (n c : Nat) (file : List Int) (L : Option Addr) (m d : Nat) (l : List Int) (B : Option Addr) (p q : Nat) (other : List Int) (w : World)
    (ha : Ls byS w A file) (hn : file.length = n) (hc : n ≤ c) (hc47 : c ≤ 140737488351232) (hz : ∀ z ∈ file, 0 ≤ z ∧ z ≤ 255)
    (hl : Ls inS w L l) (hm : l.length = m) (hd : m ≤ d) (hd2 : d ≤ 17592186043904) (hi : ∀ x ∈ l, i64in x)
    (hb : Ls byS w B other) (hp : other.length = p) (hq : p ≤ q) (hq47 : q ≤ 140737488351232) (hzo : ∀ z ∈ other, 0 ≤ z ∧ z ≤ 255) :
    Calls Try.prog 5 #[.slice A n c, .slice L m d, .slice B p q] w fun e w' => e = .returned (.bool true) ∧ Below w.heap.size w w' := by
  have HL := Lib.hid hl
  have HM := Lib.hid hm
  have HI := Lib.hid hi
  have HB := Lib.hid hb
  have HP := Lib.hid hp
  have HZO := Lib.hid hzo
  obtain ⟨a, ha1⟩ : ∃ a, a = min n 300 := ⟨_, rfl⟩
  obtain ⟨o, ho1⟩ : ∃ o, o = min p 60 := ⟨_, rfl⟩
  obtain ⟨old, hold⟩ : ∃ old, old = file.take a := ⟨_, rfl⟩
  obtain ⟨oth, hoth⟩ : ∃ oth, oth = other.take o := ⟨_, rfl⟩
  have HOC : Hid (Calls Try.prog 14 #[.slice A n c, .int .i64 300] w (RetY w a (file.take a))) := Lib.hid (octets_any A n c 300 a file w ha hn hc (by omega) (by omega) ha1)
  have HOL : Hid (old.length = a) := Lib.hid (by rw [hold, List.length_take, hn]; omega)
  have HTL : Hid (oth.length = o) := Lib.hid (by rw [hoth, List.length_take, hp]; omega)
  have HZ : Hid (∀ z ∈ old, 0 ≤ z ∧ z ≤ 255) := Lib.hid fun z h => hz z (by rw [hold] at h; exact List.mem_of_mem_take h)
  have HZT : Hid (∀ z ∈ oth, 0 ≤ z ∧ z ≤ 255) := Lib.hid fun z h => hzo z (by rw [hoth] at h; exact List.mem_of_mem_take h)
  have HO2 : Hid (∀ w', Below w.heap.size w w' → Calls Try.prog 14 #[.slice B p q, .int .i64 60] w' (RetY w' o oth)) := Lib.hid fun w' h => by
    have := octets_any B p q 60 o other w' (hb.below h) hp hq (by omega) (by omega) ho1
    rw [hoth]; exact this
  rw [← hold] at HOC
  have ha300 : a ≤ 300 := by omega
  have ho60 : o ≤ 60 := by omega
  clear ha hn hl hm hi hb hp hz hzo hold hoth ha1 ho1
  go_enter Try.func5, Try.ntmps5
  go_upto_region 3 with (first
    | (go_at_call 14; (with_reducible refine HOC.out.mono ?_); rintro e w1 ⟨A1, c1, rfl, ho1, hb1⟩; have HO1 := Lib.hid ho1; have HB1 := Lib.hid hb1; have hac := ho1.cap; clear ho1 hb1)
    | (go_at_call 15; (refine (mixed_any A1 a c1 old L m d l w1 HO1.out.ls HOL.out hac (by omega) HZ.out (HL.out.below HB1.out) HM.out HI.out).mono ?_); rintro e w2 ⟨A2, m2, c2, zs, rfl, ho2, hz2, hm2, hb2⟩; have HO2m := Lib.hid ho2; have HZ2 := Lib.hid hz2; have HB2 := Lib.hid (bthen HB1.out hb2); have HB12 := Lib.hid hb2; clear ho2 hz2 hb2)
    | (go_at_call 14; (with_reducible refine (HO2.out w2 HB2.out).mono ?_); rintro e w3 ⟨A3, c3, rfl, ho3, hb3⟩; have HO3 := Lib.hid ho3; have HB13 := Lib.hid (bthen HB12.out hb3); obtain ⟨nm, hnm⟩ : ∃ nm, nm = m2 + o := ⟨_, rfl⟩; have HNM := Lib.hid hnm; have hnm4 : nm ≤ 800 := (by omega); clear hnm; have HO2n := Lib.hid (HO2m.out.below hb3); clear ho3 hb3)
    | (at_builtin; refine wpList_appL (F := byS) rfl _ (.tmp 17) (.tmp 19) 22 rfl _ 1 Try.underlying22 byInfo rfl w1.heap.size A2 m2 c2 zs rfl HO2n.out A3 o c3 oth rfl HO3.out.ls HTL.out nm HNM.out.symm (by omega) (by omega) HB13.out.size ?_; intro A4 c4 w4 ho4 hb4 hs4; have HO4 := Lib.hid ho4; have HB14 := Lib.hid (HB13.out.trans hb4); clear ho4 hb4 hs4))
  obtain ⟨now, hnow⟩ : ∃ now, now = zs ++ oth := ⟨_, rfl⟩
  rw [← hnow] at HO4
  have HZN : Hid (∀ z ∈ now, 0 ≤ z ∧ z ≤ 255) := Lib.hid fun z hz => by
    rw [hnow] at hz
    rcases List.mem_append.1 hz with hz | hz
    · exact HZ2.out z hz
    · exact HZT.out z hz
  have HNL : Hid (now.length = nm) := Lib.hid HO4.out.1
  have HO1d := Lib.hid (HO1.out.below HB14.out)
  have HBD := Lib.hid (delta_back old now (by rw [HOL.out]; omega) (by rw [HNL.out]; omega))
  have HTD := Lib.hid (delta_tidy old now (by rw [HOL.out]; omega))
  have HB4 := Lib.hid (bthen HB1.out HB14.out)
  have e0 : ∀ l : List Int, (List.nil : List Int) ++ l = l := fun _ => rfl
  clear hnow HO2m HO2n HO3 HB13 HB12 HB2 HOC HO2
  go_upto_region 5 with (first
    | (at_builtin; refine wpList_appL (F := byS) rfl _ (.const (.slice none 0 0)) (.tmp 22) 22 rfl _ 1 Try.underlying22 byInfo rfl w4.heap.size none 0 0 [] rfl (OwnL.nil _ _) A1 a c1 old rfl HO1d.out.ls HOL.out a (by omega) (by omega) (by omega) (Nat.le_refl _) ?_; intro A5 c5 w5 ho5 hb5 _; rw [e0] at ho5; have HO5 := Lib.hid ho5; have HB5 := Lib.hid hb5; have hc5 := ho5.cap; clear ho5 hb5)
    | (at_builtin; refine wpList_appL (F := byS) rfl _ (.const (.slice none 0 0)) (.tmp 24) 22 rfl _ 1 Try.underlying22 byInfo rfl w5.heap.size none 0 0 [] rfl (OwnL.nil _ _) A4 nm c4 now rfl (HO4.out.ls.below HB5.out) HNL.out nm (by omega) (by omega) (by omega) (Nat.le_refl _) ?_; intro A6 c6 w6 ho6 hb6 _; rw [e0] at ho6; have HO6 := Lib.hid ho6; have HB6 := Lib.hid (bthen HB5.out hb6); have HO5b := Lib.hid (HO5.out.below hb6); have hc6 := ho6.cap; clear ho6 hb6)
    | (go_at_call 8; (refine (delta_ok A5 a c5 A6 nm c6 old now w6 HO5b.out.ls HOL.out hc5 HZ.out HO6.out.ls HNL.out hc6 HZN.out (by omega) (by omega)).mono ?_); rintro e w7 ⟨A7, k7, c7, l7, rfl, hp7, hm7, hb7⟩; have HP7 := Lib.hid hp7; have HM7 := Lib.hid hm7; have HB7 := Lib.hid (bthen HB6.out hb7); have hk7 : l7.length = k7 := hp7.row.1; clear hp7 hm7 hb7)
    | (go_at_call 11; (refine (patch_any A1 a c1 A7 k7 c7 old l7 w7 (HO1d.out.ls.below HB7.out) HOL.out hac HP7.out.row.ls hk7 (HP7.out.pin fun x hx => by have h1 := HP7.out.len x hx; have h2 := (HTD.out x.p (by rw [← HM7.out]; exact List.mem_map_of_mem hx)).2.2.2.2; have h3 := HNL.out; omega) (fun x hx => by have h2 := HTD.out x.p (by rw [← HM7.out]; exact List.mem_map_of_mem hx); exact ⟨⟨by have := h2.1; omega, by have := h2.2.1; omega⟩, by have := h2.2.2.1; omega, by have := h2.2.2.2.1; omega⟩)).mono ?_); rw [HM7.out, HBD.out.1]; rintro e w8 ⟨A8, m8, c8, rfl, hm8, ho8, hb8⟩; obtain rfl : m8 = nm := hm8.trans HNL.out; have HO8 := Lib.hid ho8; have HB8 := Lib.hid (bthen HB7.out hb8); clear ho8 hb8 hm8))
  have HOF : Hid (Ls byS w8 A4 now) := Lib.hid (HO4.out.ls.below HB8.out)
  have HKN : Hid (k7 = 0 ↔ m8 = 0) := Lib.hid (by
    have h1 := HBD.out.2.2
    rw [← HM7.out, List.map_eq_nil_iff] at h1
    rw [← hk7, ← HNL.out, List.length_eq_zero_iff, List.length_eq_zero_iff]
    exact h1)
  by_cases hz0 : m8 = 0
  · have hk0 := HKN.out.2 hz0
    subst hz0
    subst hk0
    go_wp2_with (go_at_call 16; (refine (same_keep A8 0 c8 A4 c4 now w8 HO8.out.ls HOF.out HNL.out (by omega)).mono ?_); rintro e w9 ⟨rfl, hb9⟩; have HB9 := Lib.hid (bthen HB8.out hb9); clear hb9)
    go_ret
    exact ⟨rfl, bthen HB4.out HB9.out⟩
  · have hk0 : ¬ k7 = 0 := fun h => hz0 (HKN.out.1 h)
    have i1 : (0 : Int) < (m8 : Int) := by omega
    have i2 : (0 : Int) < (k7 : Int) := by omega
    go_wp2_with (go_at_call 16; (refine (same_keep A8 m8 c8 A4 c4 now w8 HO8.out.ls HOF.out HNL.out (by omega)).mono ?_); rintro e w9 ⟨rfl, hb9⟩; have HB9 := Lib.hid (bthen HB8.out hb9); clear hb9)
    go_ret
    exact ⟨rfl, bthen HB4.out HB9.out⟩

end Go.Proofs.Ytdilpebhecmjmaa
