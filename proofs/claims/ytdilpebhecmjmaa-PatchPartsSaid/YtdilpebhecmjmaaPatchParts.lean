/-
  The walk of PatchParts.
-/
import Derived.Test.YtdilpebhecmjmaaDelPiece
import Derived.Test.YtdilpebhecmjmaaDelPatch
import Derived.Test.YtdilpebhecmjmaaOct2
import Derived.Test.YtdilpebhecmjmaaSameKeep
namespace Go.Proofs.Ytdilpebhecmjmaa
open Go.RowKit
set_option linter.unusedVariables false
set_option linter.unusedSimpArgs false

/-- how far a list of pieces has come -/
def PqX (wB : World) (old : List Int) (n : Nat) (o i : Value) (wr : World) : Prop :=
  ∃ (k : Nat) (A : Option Addr) (c : Nat) (l : List Pv), k ≤ n ∧ k ≤ 4 ∧ i = .int .i64 k ∧ o = .slice A k c ∧ PL wr wB.heap.size A k c l ∧ (∀ x ∈ l, Good old x) ∧ Below wB.heap.size wB wr
theorem makes_few (old : List Int) : ∀ l : List Pv, (∀ x ∈ l, Good old x) → (makesT old (l.map Pv.p)).length ≤ l.length * 200
  | [], _ => by simp [makesT]
  | x :: t, h => by
    have h1 := (h x (by simp)).2.1
    have h2 := makes_few old t (fun y hy => h y (by simp [hy]))
    have e : makesT old ((x :: t).map Pv.p) = (madeT old x.p).2 ++ makesT old (t.map Pv.p) := rfl
    rw [e, List.length_append, List.length_cons]
    omega
theorem good_patch {old : List Int} (ho : old.length ≤ 200) {l : List Pv} (h : ∀ x ∈ l, Good old x) (hl : l.length ≤ 8) : patchT old (l.map Pv.p) = (0, makesT old (l.map Pv.p)) := by
  have h2 := makes_few old l h
  refine patchT_fine old _ (by omega) (by rw [List.length_map]; omega) (fun p hp => ?_) (by omega)
  obtain ⟨x, hx, rfl⟩ := List.mem_map.1 hp
  exact (h x hx).1
theorem good_num {old : List Int} {l : List Pv} (h : ∀ x ∈ l, Good old x) : PNum l := fun x hx => ⟨(h x hx).2.2.1, (h x hx).2.2.2.1⟩
theorem good_in {w : World} {base : Nat} {A : Option Addr} {n c : Nat} {old : List Int} {l : List Pv} (h : PL w base A n c l) (hg : ∀ x ∈ l, Good old x) : PIn w l := h.pin fun x hx => by have := (hg x hx).2.2.2.2; omega
theorem pin_app {w : World} {l m : List Pv} (h1 : PIn w l) (h2 : PIn w m) : PIn w (l ++ m) := fun x hx => by
  rcases List.mem_append.1 hx with hx | hx
  · exact h1 x hx
  · exact h2 x hx
theorem good_app {old : List Int} {l m : List Pv} (h1 : ∀ x ∈ l, Good old x) (h2 : ∀ x ∈ m, Good old x) : ∀ x ∈ l ++ m, Good old x := fun x hx => by
  rcases List.mem_append.1 hx with hx | hx
  · exact h1 x hx
  · exact h2 x hx

theorem patch_seven (w' : World) : Calls Try.prog 11 #[.slice (some ⟨w'.heap.size, 0, none⟩) 1 1, .slice (some ⟨w'.heap.size + 1, 0, none⟩) 1 1] ((w'.alloc (.cells #[.int .u8 7] 5)).alloc (.cells #[.bool true, .int .i64 0, .int .i64 1, .slice none 0 0] 39))
    (RetPt ((w'.alloc (.cells #[.int .u8 7] 5)).alloc (.cells #[.bool true, .int .i64 0, .int .i64 1, .slice none 0 0] 39)) (0, [7])) := by
  have e : patchT [7] ([(⟨⟨true, 0, 1, []⟩, none, 0, 0⟩ : Pv)].map Pv.p) = (0, [7]) := by simp [patchT, goP, madeT]
  rw [← e]
  refine patch_any _ 1 1 _ 1 1 [7] [⟨⟨true, 0, 1, []⟩, none, 0, 0⟩] _ ((ls_new (F := byS) w' _ [7] _ rfl _ rfl).below (ba1 _ _)) rfl (Nat.le_refl _) (ls_new (F := pcS) (w'.alloc (.cells #[.int .u8 7] 5)) _ _ _ rfl (w'.heap.size + 1) (by simp)) rfl (fun x hx => ?_) (fun x hx => ?_)
  · simp at hx; subst hx; exact ⟨Ls.nil _ _, rfl, by simp⟩
  · simp at hx; subst hx; unfold i64in; simp

set_option maxRecDepth 100000 in
set_option maxHeartbeats 16000000 in
theorem walkPatchParts (A : Option Addr) (n c : Nat) (file : List Int) (L : Option Addr) (m d : Nat) (l : List Int) (R : Option Addr) (p q : Nat) (r : List Int) (w : World)
    (ha : Ls byS w A file) (hn : file.length = n) (hc : n ≤ c) (hc47 : c ≤ 140737488351232) (hz : ∀ z ∈ file, 0 ≤ z ∧ z ≤ 255)
    (hl : Ls inS w L l) (hm : l.length = m) (hd : m ≤ d) (hd2 : d ≤ 17592186043904) (hi : ∀ x ∈ l, i64in x)
    (hr : Ls inS w R r) (hp : r.length = p) (hq : p ≤ q) (hq2 : q ≤ 17592186043904) (hj : ∀ x ∈ r, i64in x) :
    Calls Try.prog 7 #[.slice A n c, .slice L m d, .slice R p q] w fun e w' => e = .returned (.bool true) ∧ Below w.heap.size w w' := by
  have HL := Lib.hid hl
  have HM := Lib.hid hm
  have HI := Lib.hid hi
  have HRR := Lib.hid hr
  have HP := Lib.hid hp
  have HJ := Lib.hid hj
  obtain ⟨a, ha1⟩ : ∃ a, a = min n 200 := ⟨_, rfl⟩
  obtain ⟨old, hold⟩ : ∃ old, old = file.take a := ⟨_, rfl⟩
  have HOC : Hid (Calls Try.prog 14 #[.slice A n c, .int .i64 200] w (RetY w a old)) := Lib.hid (by rw [hold]; exact octets_any A n c 200 a file w ha hn hc (by omega) (by omega) ha1)
  have HOL : Hid (old.length = a) := Lib.hid (by rw [hold, List.length_take, hn]; omega)
  have ha200 : a ≤ 200 := by omega
  clear ha hn hl hm hi hr hp hj hz hold ha1
  go_enter Try.func7, Try.ntmps7
  go_upto_region 5 with (go_at_call 14; (with_reducible refine HOC.out.mono ?_); rintro e w1 ⟨A1, c1, rfl, ho1, hb1⟩; have HO1 := Lib.hid ho1; have HB1 := Lib.hid hb1; have hac := ho1.cap; clear ho1 hb1)
  obtain ⟨q7, hq7⟩ : ∃ q, q = w1.heap.size := ⟨_, rfl⟩
  obtain ⟨wB, hwB⟩ : ∃ wB, wB = w1.alloc (.cells #[.slice A1 a c1] 22) := ⟨_, rfl⟩
  have HX7 : Hid (Bx 22 wB q7 #[.slice A1 a c1]) := Lib.hid (by rw [hwB, hq7]; exact bx_new _ _ _)
  have HBB : Hid (Below w.heap.size w wB) := Lib.hid (by rw [hwB]; exact bthen HB1.out (ba1 _ _))
  have HOB : Hid (OwnL byS 5 wB w.heap.size A1 a c1 old) := Lib.hid (by rw [hwB]; exact HO1.out.below (ba1 _ _))
  rw [← hwB, ← hq7]
  clear hwB hq7
  go_wp2
  go_loopw [8, 11] (fun o i wr => PqX wB old m o i wr) (fun _ i _ => 4 - (intOf i).toNat)
  case atStart => exact ⟨0, none, 0, [], Nat.zero_le _, Nat.zero_le _, rfl, rfl, PL.nil _ _, by simp, Below.refl _ _⟩
  case round =>
    obtain ⟨k, A2, c2, la, hk, hk4, rfl, rfl, hpl, hgd, hbw⟩ := hrel
    have HPL := Lib.hid hpl
    have HGD := Lib.hid hgd
    have HBW := Lib.hid hbw
    have hx7 := HX7.out.below hbw
    have y0 := hx7.cell 0 _ rfl
    have hq7l := hx7.lt
    have hbs := hbw.size
    clear hpl hgd hbw hx7
    by_cases hgo : k < m ∧ k < 4
    · obtain ⟨hlt, h4⟩ := hgo
      have hki : (k : Int) < (m : Int) := by omega
      have hk2 : (k : Int) < 4 := by omega
      obtain ⟨v, hv⟩ : ∃ v, l[k]? = some v := ⟨_, List.getElem?_eq_getElem (by rw [HM.out]; exact hlt)⟩
      obtain ⟨bL, oL, rfl, hbL, hcL⟩ := (HL.out.below (bthen HBB.out HBW.out)).one k v hv rfl (.int .i64 v) rfl
      obtain ⟨v1, v2⟩ := HI.out v (List.mem_of_getElem? hv)
      have HPC : Hid (Calls Try.prog 19 #[.int .i64 v, .pointer (some ⟨q7, 0, none⟩)] wr (RetPc wr old)) := Lib.hid (piece_any v q7 A1 a c1 old wr v1 v2 y0 HOL.out ha200)
      clear hv
      go_wp2_with (first
        | (go_at_call 19; (with_reducible refine HPC.out.mono ?_); rintro e w5 ⟨x, rfl, hx5, hg5, hb5⟩; have HX5 := Lib.hid hx5; have HG5 := Lib.hid hg5; have HB5 := Lib.hid hb5; have hbs5 := hb5.size; clear hx5 hg5 hb5)
        | (at_builtin; refine wpList_appL (F := pcS) rfl _ (.tmp 34) (.tmp 41) 23 rfl _ 48 Try.underlying23 pcInfo rfl wB.heap.size A2 k c2 la rfl (HPL.out.row.below (bthen HB5.out (ba1 _ _))) (some ⟨w5.heap.size, 0, none⟩) 1 1 [x] rfl (ls_new w5 _ _ _ rfl _ rfl) rfl (k + 1) rfl (by omega) (by omega) (by simp; omega) ?_; intro A8 c8 w8 ho8 hb8 hs8; have HP8 := Lib.hid (HPL.out.push hbs HX5.out HB5.out ho8 hb8 hs8); have HB8 := Lib.hid (((bthen HBW.out HB5.out).trans ((ba1 w5 _).mono (by omega))).trans hb8); clear ho8 hb8 hs8))
      exact ⟨⟨k + 1, A8, c8, _, by omega, by omega, by first | rfl | go_num, rfl, HP8.out, good_app HGD.out (by simpa using HG5.out), HB8.out⟩, by simp [intOf]; omega⟩
    · have hstop : ¬ (k : Int) < (m : Int) ∨ ((k : Int) < (m : Int) ∧ ¬ (k : Int) < 4) := by omega
      clear hgo
      rcases hstop with h | ⟨h, h'⟩
      all_goals
        go_wp2
        obtain ⟨wC, rfl⟩ : ∃ x, x = wr := ⟨_, rfl⟩
        go_loopw [9, 12] (fun o i wr => PqX wC old p o i wr) (fun _ i _ => 4 - (intOf i).toNat)
        case atStart => exact ⟨0, none, 0, [], Nat.zero_le _, Nat.zero_le _, rfl, rfl, PL.nil _ _, by simp, Below.refl _ _⟩
        case round =>
          obtain ⟨k', A3, c3, lb, hk', hk4', rfl, rfl, hpl, hgd, hbw⟩ := hrel
          have HPL2 := Lib.hid hpl
          have HGD2 := Lib.hid hgd
          have HBW2 := Lib.hid hbw
          have HBC := Lib.hid (bthen HBW.out hbw)
          have hx7 := HX7.out.below HBC.out
          have z0 := hx7.cell 0 _ rfl
          have hq7l2 := hx7.lt
          have hbs2 := hbw.size
          clear hpl hgd hbw hx7
          by_cases hgo : k' < p ∧ k' < 4
          · obtain ⟨hlt, h4⟩ := hgo
            have hki : (k' : Int) < (p : Int) := by omega
            have hk2 : (k' : Int) < 4 := by omega
            obtain ⟨v, hv⟩ : ∃ v, r[k']? = some v := ⟨_, List.getElem?_eq_getElem (by rw [HP.out]; exact hlt)⟩
            obtain ⟨bL, oL, rfl, hbL, hcL⟩ := (HRR.out.below (bthen HBB.out HBC.out)).one k' v hv rfl (.int .i64 v) rfl
            obtain ⟨v1, v2⟩ := HJ.out v (List.mem_of_getElem? hv)
            have HPC : Hid (Calls Try.prog 19 #[.int .i64 v, .pointer (some ⟨q7, 0, none⟩)] wr (RetPc wr old)) := Lib.hid (piece_any v q7 A1 a c1 old wr v1 v2 z0 HOL.out ha200)
            clear hv
            go_wp2_with (first
              | (go_at_call 19; (with_reducible refine HPC.out.mono ?_); rintro e w5 ⟨x, rfl, hx5, hg5, hb5⟩; have HX5 := Lib.hid hx5; have HG5 := Lib.hid hg5; have HB5 := Lib.hid hb5; have hbs5 := hb5.size; clear hx5 hg5 hb5)
              | (at_builtin; refine wpList_appL (F := pcS) rfl _ (.tmp 53) (.tmp 60) 23 rfl _ 48 Try.underlying23 pcInfo rfl wC.heap.size A3 k' c3 lb rfl (HPL2.out.row.below (bthen HB5.out (ba1 _ _))) (some ⟨w5.heap.size, 0, none⟩) 1 1 [x] rfl (ls_new w5 _ _ _ rfl _ rfl) rfl (k' + 1) rfl (by omega) (by omega) (by simp; omega) ?_; intro A8 c8 w8 ho8 hb8 hs8; have HP8 := Lib.hid (HPL2.out.push hbs2 HX5.out HB5.out ho8 hb8 hs8); have HB8 := Lib.hid (((bthen HBW2.out HB5.out).trans ((ba1 w5 _).mono (by omega))).trans hb8); clear ho8 hb8 hs8))
            exact ⟨⟨k' + 1, A8, c8, _, by omega, by omega, by first | rfl | go_num, rfl, HP8.out, good_app HGD2.out (by simpa using HG5.out), HB8.out⟩, by simp [intOf]; omega⟩
          · have hstop : ¬ (k' : Int) < (p : Int) ∨ ((k' : Int) < (p : Int) ∧ ¬ (k' : Int) < 4) := by omega
            clear hgo
            rcases hstop with j | ⟨j, j'⟩
            all_goals
              obtain ⟨wD, rfl⟩ : ∃ x, x = wr := ⟨_, rfl⟩
              have HAO : Hid (∀ w', Below wD.heap.size wD w' → Ls byS w' A1 old) := Lib.hid fun w' hb => ((HOB.out.below HBC.out).below hb).ls
              have HLA : Hid (PL wD wB.heap.size A2 k c2 la) := Lib.hid (HPL.out.below HBW2.out)
              obtain ⟨xs, hxs⟩ : ∃ xs, xs = makesT old (la.map Pv.p) := ⟨_, rfl⟩
              obtain ⟨ys, hys⟩ : ∃ ys, ys = makesT old (lb.map Pv.p) := ⟨_, rfl⟩
              have hla : la.length = k := HPL.out.row.1
              have hlb : lb.length = k' := HPL2.out.row.1
              have HXL : Hid (xs.length ≤ 800) := Lib.hid (by have := makes_few old la HGD.out; rw [← hxs, hla] at this; omega)
              have HYL : Hid (ys.length ≤ 800) := Lib.hid (by have := makes_few old lb HGD2.out; rw [← hys, hlb] at this; omega)
              have HPA : Hid (∀ w', Below wD.heap.size wD w' → Calls Try.prog 11 #[.slice A1 a c1, .slice A2 k c2] w' (RetPt w' (0, xs))) := Lib.hid fun w' hb => by
                rw [hxs, ← good_patch (by rw [HOL.out]; exact ha200) HGD.out (by omega)]
                exact patch_any A1 a c1 A2 k c2 old la w' (HAO.out w' hb) HOL.out hac (HLA.out.below hb).row.ls hla (good_in (HLA.out.below hb) HGD.out) (good_num HGD.out)
              have HPB : Hid (∀ w', Below wD.heap.size wD w' → Calls Try.prog 11 #[.slice A1 a c1, .slice A3 k' c3] w' (RetPt w' (0, ys))) := Lib.hid fun w' hb => by
                rw [hys, ← good_patch (by rw [HOL.out]; exact ha200) HGD2.out (by omega)]
                exact patch_any A1 a c1 A3 k' c3 old lb w' (HAO.out w' hb) HOL.out hac (HPL2.out.below hb).row.ls hlb (good_in (HPL2.out.below hb) HGD2.out) (good_num HGD2.out)
              obtain ⟨kk, hkk⟩ : ∃ kk, kk = k + k' := ⟨_, rfl⟩
              have HPAB : Hid (∀ w' A' c', Below wD.heap.size wD w' → Ls pcS w' A' (la ++ lb) → Calls Try.prog 11 #[.slice A1 a c1, .slice A' kk c'] w' (RetPt w' (0, xs ++ ys))) := Lib.hid fun w' A' c' hb hl' => by
                have e : xs ++ ys = makesT old ((la ++ lb).map Pv.p) := by rw [List.map_append, makesT_app, hxs, hys]
                rw [e, ← good_patch (by rw [HOL.out]; exact ha200) (good_app HGD.out HGD2.out) (by rw [List.length_append]; omega)]
                exact patch_any A1 a c1 A' kk c' old (la ++ lb) w' (HAO.out w' hb) HOL.out hac hl' (by rw [List.length_append]; omega) (pin_app (good_in (HLA.out.below hb) HGD.out) (good_in (HPL2.out.below hb) HGD2.out)) (good_num (good_app HGD.out HGD2.out))
              have HKK := Lib.hid hkk
              have hkk8 : kk ≤ 8 := by omega
              clear hxs hys hkk
              go_upto_region 15 with (first
                | (go_at_call 11; (with_reducible refine (HPA.out wD (Below.refl _ _)).mono ?_); rintro e w2 ⟨A4, m4, c4, rfl, hm4, ho4, hb4⟩; have HM4 := Lib.hid hm4; have HO4 := Lib.hid ho4; have HB4 := Lib.hid hb4; have z2 := (HX7.out.below (bthen HBC.out hb4)).cell 0 _ rfl; have hl2 := (HX7.out.below (bthen HBC.out hb4)).lt; clear hm4 ho4 hb4)
                | (go_at_call 11; (with_reducible refine (HPB.out w2 HB4.out).mono ?_); rintro e w3 ⟨A5, m5, c5, rfl, hm5, ho5, hb5⟩; have HM5 := Lib.hid hm5; have HO5 := Lib.hid ho5; have HB5 := Lib.hid (bthen HB4.out hb5); have HO4b := Lib.hid (HO4.out.below hb5); clear hm5 ho5 hb5))
              have z1 := (HX7.out.below (bthen HBC.out HB5.out)).cell 0 _ rfl
              have hq7l3 := (HX7.out.below (bthen HBC.out HB5.out)).lt
              have e0 : ∀ l : List Pv, (List.nil : List Pv) ++ l = l := fun _ => rfl
              have hbs5 := HB5.out.size
              have HLA5 := Lib.hid (HLA.out.below HB5.out)
              have HLB5 := Lib.hid (HPL2.out.below HB5.out)
              clear z0 z2
              go_cut [17, 18] (fun x y wc => ∃ A8 m8 c8, x = .slice A8 m8 c8 ∧ y = .int .i64 0 ∧ m8 = (xs ++ ys).length ∧ OwnL byS 5 wc w3.heap.size A8 m8 c8 (xs ++ ys) ∧ Below w3.heap.size w3 wc)
              case first =>
                go_region_law (first
                  | (refine step_appL (F := pcS) rfl _ (.const (.slice none 0 0)) (.tmp 76) 23 rfl _ 48 Try.underlying23 pcInfo rfl w3.heap.size none 0 0 [] (by first | rfl | simp [Act.eval, Act.put]) (OwnL.nil _ _) A2 k c2 la (by first | rfl | simp [Act.eval, Act.put]) ((HLA5.out.row.below (Below.refl _ _).drew).ls) hla k (by omega) (by omega) (by omega) (by first | exact Nat.le_refl _ | simp) ?_; intro A6 c6 w6 ho6 hb6 _; rw [e0] at ho6; have HO6 := Lib.hid ho6; have HB6 : Hid (Below w3.heap.size w3 w6) := Lib.hid ((Below.refl _ _).drew.trans hb6); have z6 := (HX7.out.below (bthen (bthen HBC.out HB5.out) HB6.out)).cell 0 _ rfl; have hl6 := (HX7.out.below (bthen (bthen HBC.out HB5.out) HB6.out)).lt; clear ho6 hb6)
                  | (refine step_appL (F := pcS) rfl _ (.tmp 77) (.tmp 78) 23 rfl _ 48 Try.underlying23 pcInfo rfl w3.heap.size A6 k c6 la (by first | rfl | simp [Act.eval, Act.put]) HO6.out A3 k' c3 lb (by first | rfl | simp [Act.eval, Act.put]) ((HLB5.out.row.below HB6.out).ls) hlb kk HKK.out.symm (by omega) (by omega) HB6.out.size ?_; intro A7 c7 w7 ho7 hb7 _; have HO7 := Lib.hid ho7; have HB7 : Hid (Below w3.heap.size w3 w7) := Lib.hid (HB6.out.trans hb7); have z7 := (HX7.out.below (bthen (bthen HBC.out HB5.out) HB7.out)).cell 0 _ rfl; have hl7 := (HX7.out.below (bthen (bthen HBC.out HB5.out) HB7.out)).lt; clear ho7 hb7)
                  | (go_simp; go_at_call 11; (with_reducible refine (HPAB.out w7 A7 c7 (bthen HB5.out HB7.out) HO7.out.ls).mono ?_); rintro e w8 ⟨A8, m8, c8, rfl, hm8, ho8, hb8⟩; have HM8 := Lib.hid hm8; have HO8 := Lib.hid ho8; have HB8 := Lib.hid (bthen HB7.out hb8); clear hm8 ho8 hb8))
                all_goals
                  go_wp2_with fail
                all_goals
                  go_meet
                all_goals
                  exact ⟨A8, m8, c8, rfl, rfl, HM8.out, HO8.out.base HB7.out.size, HB8.out⟩
              case rest =>
                obtain ⟨A8, m8, c8, rfl, rfl, hm8, ho8, hb8⟩ := hcut
                obtain ⟨w8, hw8⟩ : ∃ x, x = wc := ⟨_, rfl⟩
                subst hw8
                have HM8 := Lib.hid hm8
                have HO8 := Lib.hid ho8
                have HB8 := Lib.hid hb8
                have hm8s : m8 ≤ 1600 := by have h1 := HXL.out; have h2 := HYL.out; rw [hm8, List.length_append]; omega
                have hm4s : m4 ≤ 800 := by have h1 := HXL.out; have h2 : m4 = xs.length := HM4.out; omega
                have hm5s : m5 ≤ 800 := by have h1 := HYL.out; have h2 : m5 = ys.length := HM5.out; omega
                have HML : Hid (m4 + m5 = m8) := Lib.hid (by have h1 : m4 = xs.length := HM4.out; have h2 : m5 = ys.length := HM5.out; rw [hm8, List.length_append, h1, h2])
                have HX4 : Hid (xs.length = m4) := Lib.hid HM4.out.symm
                have HX5 : Hid (ys.length = m5) := Lib.hid HM5.out.symm
                have e1 : ∀ l : List Int, (List.nil : List Int) ++ l = l := fun _ => rfl
                clear hm8 ho8 hb8 z1 e0
                go_wp2_with (first
                  | (go_at_call 11; refine (patch_seven w8).mono ?_; rintro e w9 ⟨A9, m9, c9, rfl, hm9, ho9, hb9⟩; obtain rfl : m9 = 1 := hm9; have HO9 := Lib.hid ho9; have HB9 : Hid (Below w8.heap.size w8 w9) := Lib.hid (bthen (ba2 _ _ _) hb9); clear ho9 hb9)
                  | (go_at_call 16; (with_reducible refine (same_keep A9 1 c9 (some ⟨w9.heap.size, 0, none⟩) 1 [7] (w9.alloc (.cells #[.int .u8 7] 5)) (HO9.out.below (ba1 _ _)).ls (ls_new w9 _ _ _ rfl _ rfl) rfl (by omega)).mono ?_); rintro e w10 ⟨rfl, hb10⟩; have HB10 : Hid (Below w8.heap.size w8 w10) := Lib.hid (bthen (bthen HB9.out (ba1 _ _)) hb10); clear hb10)
                  | (at_builtin; refine wpList_appL (F := byS) rfl _ (.const (.slice none 0 0)) (.tmp 111) 22 rfl _ 1 Try.underlying22 byInfo rfl w10.heap.size none 0 0 [] rfl (OwnL.nil _ _) A4 m4 c4 xs rfl ((HO4b.out.below HB8.out).below HB10.out).ls HX4.out m4 (by omega) (by omega) (by omega) (Nat.le_refl _) ?_; intro A12 c12 w12 ho12 hb12 _; rw [e1] at ho12; have HO12 := Lib.hid ho12; have HB12 := Lib.hid hb12; clear ho12 hb12)
                  | (at_builtin; refine wpList_appL (F := byS) rfl _ (.tmp 112) (.tmp 113) 22 rfl _ 1 Try.underlying22 byInfo rfl w10.heap.size A12 m4 c12 xs rfl HO12.out A5 m5 c5 ys rfl (((HO5.out.below HB8.out).below HB10.out).ls.below HB12.out) HX5.out m8 HML.out (by omega) (by omega) HB12.out.size ?_; intro A13 c13 w13 ho13 hb13 _; have HO13 := Lib.hid ho13; have HB13 : Hid (Below w8.heap.size w8 w13) := Lib.hid (bthen HB10.out (HB12.out.trans hb13)); clear ho13 hb13)
                  | (go_at_call 16; (with_reducible refine (same_keep A8 m8 c8 A13 c13 (xs ++ ys) w13 (HO8.out.below HB13.out).ls HO13.out.ls HM8.out.symm (by omega)).mono ?_); rintro e w14 ⟨rfl, hb14⟩; have HB14 := Lib.hid (bthen HB13.out hb14); clear hb14))
                go_ret
                exact ⟨rfl, bthen (bthen (bthen HBB.out HBC.out) (bthen HB5.out HB8.out)) HB14.out⟩

end Go.Proofs.Ytdilpebhecmjmaa
