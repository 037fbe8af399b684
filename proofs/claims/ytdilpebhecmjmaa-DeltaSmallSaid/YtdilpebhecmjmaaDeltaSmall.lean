/-
  The walk of DeltaSmall.
-/
import Derived.Test.YtdilpebhecmjmaaDelDelta
import Derived.Test.YtdilpebhecmjmaaDelSmallMath
import Derived.Test.YtdilpebhecmjmaaStream
import Derived.Test.YtdilpebhecmjmaaOct2
namespace Go.Proofs.Ytdilpebhecmjmaa
open Go.RowKit
set_option linter.unusedVariables false
set_option linter.unusedSimpArgs false

/-- how far the walk has come -/
def SmX (ps : List Pc) (k10 : Nat) (w10 : World) (t i : Value) (wr : World) : Prop := ∃ j : Nat, j ≤ k10 ∧ i = .int .i64 j ∧ t = .int .i64 (tolds (ps.take j) : Nat) ∧ wr = w10

set_option maxRecDepth 100000 in
set_option maxHeartbeats 16000000 in
theorem walkDeltaSmall (seed size at_ : Int) (B : Option Addr) (p q : Nat) (more : List Int) (w : World)
    (s1 : -9223372036854775808 ≤ seed) (s2 : seed ≤ 9223372036854775807) (z1 : -9223372036854775808 ≤ size) (z2 : size ≤ 9223372036854775807) (t1 : -9223372036854775808 ≤ at_) (t2 : at_ ≤ 9223372036854775807)
    (hb : Ls byS w B more) (hp : more.length = p) (hq : p ≤ q) (hq47 : q ≤ 140737488351232) (hzo : ∀ z ∈ more, 0 ≤ z ∧ z ≤ 255) :
    Calls Try.prog 6 #[.int .i64 seed, .int .i64 size, .int .i64 at_, .slice B p q] w fun e w' => e = .returned (.bool true) ∧ Below w.heap.size w w' := by
  obtain ⟨o, ho1⟩ : ∃ o, o = min p 30 := ⟨_, rfl⟩
  obtain ⟨add, hadd⟩ : ∃ add, add = more.take o := ⟨_, rfl⟩
  have HTL : Hid (add.length = o) := Lib.hid (by rw [hadd, List.length_take, hp]; omega)
  have HZT : Hid (∀ z ∈ add, 0 ≤ z ∧ z ≤ 255) := Lib.hid fun z h => hzo z (by rw [hadd] at h; exact List.mem_of_mem_take h)
  have HO2 : Hid (∀ w', Below w.heap.size w w' → Calls Try.prog 14 #[.slice B p q, .int .i64 30] w' (RetY w' o add)) := Lib.hid fun w' h => by
    have := octets_any B p q 30 o more w' (hb.below h) hp hq (by omega) (by omega) ho1
    rw [hadd]; exact this
  obtain ⟨sz, hsz, hsz2⟩ := pick_nat size 300 (by omega)
  obtain ⟨m, hm⟩ : ∃ m, m = 8 + sz := ⟨_, rfl⟩
  obtain ⟨k, hk, hk2⟩ := pick_nat at_ ((m : Int) + 1) (by omega)
  have hw1 : IntKind.i64.wrap (8 + (sz : Int)) = (m : Int) := by rw [IntKind.wrap_i64]; omega
  have hw2 : IntKind.i64.wrap ((m : Int) + 1) = (m : Int) + 1 := by rw [IntKind.wrap_i64]; omega
  have hm8 : 8 ≤ m := by omega
  have hm3 : m ≤ 308 := by omega
  have hkm : k ≤ m := by omega
  have ho30 : o ≤ 30 := by omega
  clear hb hp hzo hadd ho1 hsz2 hm hk2
  go_enter Try.func6, Try.ntmps6
  go_upto_region 4 with (first
    | (go_at_call 18; (with_reducible refine (picked_n size 300 sz _ hsz z1 z2 (by omega) (by omega)).mono ?_); rintro e w' ⟨rfl, hq⟩; subst hq)
    | (go_at_call 18; (with_reducible refine (picked_n at_ ((m : Int) + 1) k _ hk t1 t2 (by omega) (by omega)).mono ?_); rintro e w' ⟨rfl, hq⟩; subst hq)
    | (go_at_call 17; (refine (stream_any seed m w s1 s2 (by omega)).mono ?_); rintro e w1 ⟨A1, c1, old, rfl, ho1, hz1, hb1⟩; have HO1 := Lib.hid ho1; have HZ := Lib.hid hz1; have HB1 := Lib.hid hb1; have hmc := ho1.cap; clear ho1 hz1 hb1)
    | (go_at_call 14; (with_reducible refine (HO2.out w1 HB1.out).mono ?_); rintro e w3 ⟨A3, c3, rfl, ho3, hb3⟩; have HO3 := Lib.hid ho3; have HB3 := Lib.hid (bthen HB1.out hb3); have HO1c := Lib.hid (HO1.out.below hb3); clear ho3 hb3))
  have HOL : Hid (old.length = m) := Lib.hid HO1.out.1
  obtain ⟨g1, rfl⟩ : ∃ g, A1 = some ⟨g, 0, none⟩ := by
    rcases HO1.out.addr with ⟨h1, h2, h3⟩ | ⟨g, h1, h2⟩
    · omega
    · exact ⟨g, h1⟩
  have v0 : (0 : Int) ≤ (k : Int) := by omega
  have v1 : (k : Int) ≤ (m : Int) := by omega
  have v2 : (k : Int) ≤ (c1 : Int) := by omega
  have hc0 : ¬ c1 = 0 := by omega
  have HTK : Hid ((old.take k).length = k) := Lib.hid (by rw [List.length_take, HOL.out]; omega)
  have HDK : Hid ((old.drop k).length = m - k) := Lib.hid (by rw [List.length_drop, HOL.out])
  obtain ⟨ko, hko⟩ : ∃ ko, ko = k + o := ⟨_, rfl⟩
  obtain ⟨nm, hnm⟩ : ∃ nm, nm = ko + (m - k) := ⟨_, rfl⟩
  have hnm4 : nm ≤ 400 := by omega
  have hko4 : ko ≤ 400 := by omega
  have HKO := Lib.hid hko
  have HNM := Lib.hid hnm
  obtain ⟨now, hnow⟩ : ∃ now, now = old.take k ++ add ++ old.drop k := ⟨_, rfl⟩
  have HNW := Lib.hid hnow
  have e0 : ∀ l : List Int, (List.nil : List Int) ++ l = l := fun _ => rfl
  clear hnow hko hnm
  go_cut [12] (fun x wc => ∃ A8 c8, x = .slice A8 nm c8 ∧ OwnL byS 5 wc w3.heap.size A8 nm c8 now ∧ Below w3.heap.size w3 wc)
  case first =>
    by_cases hck : c1 = k
    · obtain rfl : m = k := by omega
      subst hck
      rw [Nat.sub_self] at HDK HNM
      have HDN : Hid (∀ w', Ls byS w' (some ⟨g1, 0, none⟩) (old.drop c1)) := Lib.hid (by
        intro w'
        rw [List.eq_nil_of_length_eq_zero HDK.out]; exact Ls.nil _ _)
      go_region_law (first
        | (refine step_appL (F := byS) rfl _ (.const (.slice none 0 0)) (.tmp 33) 22 rfl _ 1 Try.underlying22 byInfo rfl w3.heap.size none 0 0 [] (by first | rfl | simp [Act.eval, Act.put]) (OwnL.nil _ _) (some ⟨g1, 0, none⟩) c1 c1 (old.take c1) (by first | rfl | simp [Act.eval, Act.put]) ((HO1c.out.below (Below.refl _ _).drew).ls.take c1) HTK.out c1 (by omega) (by omega) (by omega) (by first | exact Nat.le_refl _ | simp) ?_; intro A5 c5 w5 ho5 hb5 _; rw [e0] at ho5; have HO5 := Lib.hid ho5; have HB5 : Hid (Below w3.heap.size w3 w5) := Lib.hid ((Below.refl _ _).drew.trans hb5); clear ho5 hb5)
        | (refine step_appL (F := byS) rfl _ (.tmp 34) (.tmp 35) 22 rfl _ 1 Try.underlying22 byInfo rfl w3.heap.size A5 c1 c5 (old.take c1) (by first | rfl | simp [Act.eval, Act.put]) HO5.out A3 o c3 add (by first | rfl | simp [Act.eval, Act.put]) (HO3.out.ls.below HB5.out) HTL.out ko HKO.out.symm (by omega) (by omega) HB5.out.size ?_; intro A6 c6 w6 ho6 hb6 _; have HO6 := Lib.hid ho6; have HB6 := Lib.hid (HB5.out.trans hb6); clear ho6 hb6)
        | (refine step_appL (F := byS) rfl _ (.tmp 36) (.tmp 39) 22 rfl _ 1 Try.underlying22 byInfo rfl w3.heap.size A6 ko c6 (old.take c1 ++ add) (by first | rfl | simp [Act.eval, Act.put]) HO6.out (some ⟨g1, 0, none⟩) 0 0 (old.drop c1) (by first | rfl | simp [Act.eval, Act.put]) (HDN.out _) HDK.out nm HNM.out.symm (by omega) (by omega) HB6.out.size ?_; intro A8 c8 w8 ho8 hb8 _; have HO8 := Lib.hid ho8; have HB8 := Lib.hid (HB6.out.trans hb8); clear ho8 hb8))
      all_goals
        go_wp2_with fail
      all_goals
        go_meet
      all_goals
        exact ⟨A8, c8, rfl, by rw [HNW.out]; exact HO8.out, HB8.out⟩
    · go_region_law (first
        | (refine step_appL (F := byS) rfl _ (.const (.slice none 0 0)) (.tmp 33) 22 rfl _ 1 Try.underlying22 byInfo rfl w3.heap.size none 0 0 [] (by first | rfl | simp [Act.eval, Act.put]) (OwnL.nil _ _) (some ⟨g1, 0, none⟩) k c1 (old.take k) (by first | rfl | simp [Act.eval, Act.put]) ((HO1c.out.below (Below.refl _ _).drew).ls.take k) HTK.out k (by omega) (by omega) (by omega) (by first | exact Nat.le_refl _ | simp) ?_; intro A5 c5 w5 ho5 hb5 _; rw [e0] at ho5; have HO5 := Lib.hid ho5; have HB5 : Hid (Below w3.heap.size w3 w5) := Lib.hid ((Below.refl _ _).drew.trans hb5); clear ho5 hb5)
        | (refine step_appL (F := byS) rfl _ (.tmp 34) (.tmp 35) 22 rfl _ 1 Try.underlying22 byInfo rfl w3.heap.size A5 k c5 (old.take k) (by first | rfl | simp [Act.eval, Act.put]) HO5.out A3 o c3 add (by first | rfl | simp [Act.eval, Act.put]) (HO3.out.ls.below HB5.out) HTL.out ko HKO.out.symm (by omega) (by omega) HB5.out.size ?_; intro A6 c6 w6 ho6 hb6 _; have HO6 := Lib.hid ho6; have HB6 := Lib.hid (HB5.out.trans hb6); clear ho6 hb6)
        | (refine step_appL (F := byS) rfl _ (.tmp 36) (.tmp 39) 22 rfl _ 1 Try.underlying22 byInfo rfl w3.heap.size A6 ko c6 (old.take k ++ add) (by first | rfl | simp [Act.eval, Act.put]) HO6.out (some ⟨g1, k, none⟩) (m - k) (c1 - k) (old.drop k) (by first | rfl | simp [Act.eval, Act.put]) (by have := ((HO1c.out.below HB6.out).ls.drop1 rfl k); rw [Nat.zero_add] at this; exact this) HDK.out nm HNM.out.symm (by omega) (by omega) HB6.out.size ?_; intro A8 c8 w8 ho8 hb8 _; have HO8 := Lib.hid ho8; have HB8 := Lib.hid (HB6.out.trans hb8); clear ho8 hb8))
      all_goals
        go_wp2_with fail
      all_goals
        go_meet
      all_goals
        exact ⟨A8, c8, rfl, by rw [HNW.out]; exact HO8.out, HB8.out⟩
  case rest =>
    obtain ⟨A8, c8, rfl, ho8, hb8⟩ := hcut
    obtain ⟨w8, hw8⟩ : ∃ x, x = wc := ⟨_, rfl⟩
    subst hw8
    have HO8 := Lib.hid ho8
    have HB8 := Lib.hid ho8
    have HW8 := Lib.hid hb8
    have HO1d := Lib.hid (HO1c.out.below hb8)
    have HNL : Hid (now.length = nm) := Lib.hid ho8.1
    have hn8 := ho8.cap
    have HZN : Hid (∀ z ∈ now, 0 ≤ z ∧ z ≤ 255) := Lib.hid fun z hz => by
      rw [HNW.out] at hz
      rcases List.mem_append.1 hz with hz | hz
      · rcases List.mem_append.1 hz with hz | hz
        · exact HZ.out z (List.mem_of_mem_take hz)
        · exact HZT.out z hz
      · exact HZ.out z (List.mem_of_mem_drop hz)
    have HSE := Lib.hid (delta_self old (by rw [HOL.out]; exact hm8))
    have HSM := Lib.hid (delta_small old add k (by rw [HOL.out]; exact hkm))
    rw [← HNW.out, HTL.out] at HSM
    have HBW8 := Lib.hid (bthen HB3.out hb8)
    clear ho8 hb8
    go_upto_region 7 with (first
      | (go_at_call 8; (with_reducible refine (delta_ok (some ⟨g1, 0, none⟩) m c1 (some ⟨g1, 0, none⟩) m c1 old old w8 HO1d.out.ls HOL.out hmc HZ.out HO1d.out.ls HOL.out hmc HZ.out (by omega) (by omega)).mono ?_); rintro e w9 ⟨A9, k9, c9, l9, rfl, hp9, hm9, hb9⟩; have HP9 := Lib.hid hp9; have HM9 := Lib.hid (hm9.trans HSE.out); have HB9 := Lib.hid hb9; clear hp9 hm9 hb9)
      | (go_at_call 8; (with_reducible refine (delta_ok (some ⟨g1, 0, none⟩) m c1 A8 nm c8 old now w9 (HO1d.out.ls.below HB9.out) HOL.out hmc HZ.out (HO8.out.ls.below HB9.out) HNL.out hn8 HZN.out (by omega) (by omega)).mono ?_); rintro e w10 ⟨A10, k10, c10, l10, rfl, hp10, hm10, hb10⟩; have HP10 := Lib.hid hp10; have HM10 := Lib.hid hm10; have HB10 := Lib.hid hb10; have hk10 : l10.length = k10 := hp10.row.1; clear hp10 hm10 hb10))
    obtain ⟨x9, rfl, hx9⟩ : ∃ x, l9 = [x] ∧ x.p = ⟨true, 0, (old.length : Nat), []⟩ := by
      have h := HM9.out
      rcases l9 with _ | ⟨x, _ | ⟨y, t⟩⟩
      · simp at h
      · simp at h; exact ⟨x, rfl, h⟩
      · simp at h
    obtain rfl : k9 = 1 := HP9.out.row.1.symm
    obtain ⟨b9, o9, rfl, hl9, hc9⟩ := (HP9.out.row.below HB10.out).ls.at 0 x9 rfl
    have y1 : w10.cell? ⟨b9, o9 + 1, none⟩ = some (.int .i64 0) := by
      have := hc9 1 (.int .i64 x9.p.from_) rfl
      rw [hx9, Nat.zero_mul, Nat.add_zero] at this; exact this
    have y2 : w10.cell? ⟨b9, o9 + 2, none⟩ = some (.int .i64 (m : Nat)) := by
      have := hc9 2 (.int .i64 x9.p.len) rfl
      rw [hx9, Nat.zero_mul, Nat.add_zero, HOL.out] at this; exact this
    clear hc9 hx9
    go_wp2
    have hk10b : k10 ≤ 2048 := by
      have h1 := (delta_back old now (by rw [HOL.out]; omega) (by rw [HNL.out]; omega)).2.1
      rw [← HM10.out, List.length_map, hk10] at h1
      exact h1
    obtain ⟨ps, hps⟩ : ∃ ps, ps = deltaT old now := ⟨_, rfl⟩
    rw [← hps] at HSM HM10
    clear hps y1 y2
    have HBT := Lib.hid (bthen (bthen HBW8.out HB9.out) HB10.out)
    have HTO : Hid (∀ i, tolds (ps.take i) ≤ 44) := Lib.hid fun i => by have := tolds_le ps i; have := HSM.out.1; omega
    go_loopw [17, 18] (fun t i wr => SmX ps k10 w10 t i wr) (fun _ i _ => k10 - (intOf i).toNat)
    case atStart => exact ⟨0, Nat.zero_le _, rfl, rfl, rfl⟩
    case round =>
      obtain ⟨j, hj, rfl, rfl, rfl⟩ := hrel
      by_cases hlt : j < k10
      · have hji : (j : Int) < (k10 : Int) := by omega
        obtain ⟨x, hx⟩ : ∃ x, l10[j]? = some x := ⟨_, List.getElem?_eq_getElem (by rw [hk10]; exact hlt)⟩
        have hxp : ps[j]? = some x.p := by rw [← HM10.out, List.getElem?_map, hx]; rfl
        have HTT := Lib.hid (tolds_take ps j x.p hxp)
        have h44 := HTO.out (j + 1)
        obtain ⟨td, htd⟩ : ∃ td, td = tolds (ps.take j) := ⟨_, rfl⟩
        obtain ⟨te, hte⟩ : ∃ te, te = tolds (ps.take (j + 1)) := ⟨_, rfl⟩
        have hxn := HP10.out.len x (List.mem_of_getElem? hx)
        have hte2 : te = td + x.n := by rw [hte, htd, HTT.out, hxn]
        rw [← hte] at h44
        rw [← htd]
        obtain ⟨bL, oL, rfl, hbL, hcc⟩ := HP10.out.row.ls.at j x hx
        have g0 := hcc 0 (.bool x.p.copy) rfl
        have g2 := hcc 2 (.int .i64 x.p.len) rfl
        have g3 := hcc 3 (.slice x.A x.n x.c) rfl
        simp only [pcS, Nat.add_zero] at g0 g2 g3
        have hw : IntKind.i64.wrap ((td : Int) + (x.n : Int)) = (te : Int) := by rw [IntKind.wrap_i64]; omega
        have HE : Hid ((te : Nat) = tolds (ps.take (j + 1))) := Lib.hid hte
        have hcl := HSM.out.2 x.p (List.mem_of_getElem? hxp)
        obtain ⟨⟨cp, fr, ln, da⟩, XA, xn, xc⟩ := x
        simp only at g0 g2 g3 hw hcl
        clear hcc hx hxp htd hte hte2 hxn
        rcases cp with _ | _
        · clear hcl
          go_wp2
          exact ⟨⟨j + 1, by omega, by first | rfl | go_num, by rw [← HE.out], rfl⟩, by simp [intOf]; omega⟩
        · have h8 : ¬ ln < 8 := by have := hcl rfl; omega
          clear hcl
          go_wp2
          exact ⟨⟨j + 1, by omega, by first | rfl | go_num, by rw [← HE.out], rfl⟩, by simp [intOf]; omega⟩
      · obtain rfl : j = k10 := by omega
        have hji : ¬ (j : Int) < (j : Int) := by omega
        have hwo : IntKind.i64.wrap ((o : Int) + 14) = (o : Int) + 14 := by rw [IntKind.wrap_i64]; omega
        obtain ⟨td, htd⟩ : ∃ td, td = tolds (ps.take j) := ⟨_, rfl⟩
        have hfin : (td : Int) ≤ (o : Int) + 14 := by have := tolds_le ps j; have := HSM.out.1; omega
        rw [← htd]
        clear htd
        go_wp2
        go_ret
        exact ⟨rfl, HBT.out⟩

end Go.Proofs.Ytdilpebhecmjmaa
