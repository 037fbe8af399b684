/-
  The program's delta.Patch.
-/
import Derived.Test.YtdilpebhecmjmaaDelMade
namespace Go.Proofs.Ytdilpebhecmjmaa
open Go.RowKit
set_option linter.unusedVariables false
set_option linter.unusedSimpArgs false

/-- what Patch answers -/
def RetPt (w : World) (r : Int × List Int) (e : Ending) (w' : World) : Prop :=
  ∃ A m c, e = .returned (.tuple #[.slice A m c, .int .i64 r.1]) ∧ m = r.2.length ∧ OwnL byS 5 w' w.heap.size A m c r.2 ∧ Below w.heap.size w w'
theorem RetPt.bad {w w' : World} {r : Int × List Int} {cd : Int} (h : r = (cd, [])) (hb : Below w.heap.size w w') : RetPt w r (.returned (.tuple #[.slice none 0 0, .int .i64 cd])) w' :=
  ⟨none, 0, 0, by rw [h], by rw [h]; rfl, by rw [h]; exact OwnL.nil _ _, hb⟩
theorem patch_size (A : Option Addr) (n c : Nat) (L : Option Addr) (m d : Nat) (old : List Int) (l : List Pc) (w : World) (hn : old.length = n) (hm : l.length = m) (h : 2048 < n ∨ 2048 < m) :
    Calls Try.prog 11 #[.slice A n c, .slice L m d] w (RetPt w (patchT old l)) := by
  have HR : Hid (patchT old l = (1, [])) := Lib.hid (by unfold patchT; rw [if_pos (by rw [hn, hm]; exact h)])
  clear hn hm
  by_cases h1 : 2048 < n
  · have h2 : (2048 : Int) < (n : Int) := by omega
    go_enter Try.func11, Try.ntmps11
    go_wp2
    go_ret2
    exact .bad HR.out (Below.refl _ _)
  · have h2 : ¬ (2048 : Int) < (n : Int) := by omega
    have h3 : (2048 : Int) < (m : Int) := by omega
    go_enter Try.func11, Try.ntmps11
    go_wp2
    go_ret2
    exact .bad HR.out (Below.refl _ _)

set_option maxHeartbeats 8000000 in
theorem patch_ok (A : Option Addr) (n c : Nat) (L : Option Addr) (m d : Nat) (old : List Int) (l : List Pv) (w : World) (ha : Ls byS w A old) (hn : old.length = n) (hc : n ≤ c) (hl : Ls pcS w L l) (hm : l.length = m)
    (hin : PIn w l) (hnum : PNum l) (h1 : n ≤ 2048) (h2 : m ≤ 2048) :
    Calls Try.prog 11 #[.slice A n c, .slice L m d] w (RetPt w (patchT old (l.map Pv.p))) := by
  have HA := Lib.hid ha
  have HN := Lib.hid hn
  have HL := Lib.hid hl
  have HM := Lib.hid hm
  have HI := Lib.hid hin
  have HU := Lib.hid hnum
  obtain ⟨rt, hrt⟩ : ∃ r, r = patchT old (l.map Pv.p) := ⟨_, rfl⟩
  have HR0 : Hid (rt = goP old (l.map Pv.p) []) := Lib.hid (by rw [hrt]; unfold patchT; rw [if_neg (by rw [List.length_map, hn, hm]; omega)])
  rw [← hrt]
  have k1 : ¬ (2048 : Int) < (n : Int) := by omega
  have k2 : ¬ (2048 : Int) < (m : Int) := by omega
  clear ha hn hl hm hin hnum hrt
  go_enter Try.func11, Try.ntmps11
  go_wp2
  go_loopw [6, 21] (fun o i wr => ∃ (k q : Nat) (A : Option Addr) (c : Nat) (now : List Int), k ≤ m ∧ i = .int .i64 k ∧ o = .slice A q c ∧ OwnL byS 5 wr w.heap.size A q c now ∧ q ≤ 2048 ∧ rt = goP old ((l.map Pv.p).drop k) now ∧ Below w.heap.size w wr) (fun _ i _ => m - (intOf i).toNat)
  case atStart => exact ⟨0, 0, none, 0, [], Nat.zero_le _, rfl, rfl, OwnL.nil _ _, Nat.zero_le _, HR0.out, Below.refl _ _⟩
  case round =>
    obtain ⟨k, q, A1, c1, now, hk, rfl, rfl, hown, hq, hrt, hbw⟩ := hrel
    have HO := Lib.hid hown
    have HRT := Lib.hid hrt
    have HBW := Lib.hid hbw
    clear hown hrt hbw
    by_cases hlt : k < m
    · obtain ⟨x, hx⟩ : ∃ x, l[k]? = some x := ⟨_, List.getElem?_eq_getElem (by rw [HM.out]; exact hlt)⟩
      obtain ⟨bL, oL, rfl, hbl, hcc⟩ := (HL.out.below HBW.out).at k x hx
      have g0 := hcc 0 (.bool x.p.copy) rfl
      have g1 := hcc 1 (.int .i64 x.p.from_) rfl
      have g2 := hcc 2 (.int .i64 x.p.len) rfl
      have g3 := hcc 3 (.slice x.A x.n x.c) rfl
      simp only [pcS, Nat.add_zero] at g0 g1 g2 g3
      have hki : (k : Int) < (m : Int) := by omega
      have HST := Lib.hid (goP_at old (l.map Pv.p) k x.p (by rw [List.getElem?_map, hx]; rfl) now)
      obtain ⟨cd, hcd⟩ : ∃ cd, cd = (madeT old x.p).1 := ⟨_, rfl⟩
      obtain ⟨bs, hbs⟩ : ∃ bs, bs = (madeT old x.p).2 := ⟨_, rfl⟩
      obtain ⟨hi1, hi2, hi3⟩ := HI.out x (List.mem_of_getElem? hx)
      obtain ⟨hu1, hu2⟩ := HU.out x (List.mem_of_getElem? hx)
      have HMD : Hid (∀ w', Below w.heap.size w w' → Calls Try.prog 23 #[.slice A n c, .agg #[.bool x.p.copy, .int .i64 x.p.from_, .int .i64 x.p.len, .slice x.A x.n x.c]] w' (RetMd w' (cd, bs))) := Lib.hid fun w' hb => by
        have := made_any A n c old x w' (HA.out.below hb) HN.out hc h1 (hi1.below hb) hi2 (by omega) hu1 hu2
        rw [hcd, hbs]; exact this
      rw [← hcd, ← hbs] at HST
      clear hcc hx hi1 hi2 hi3 hu1 hu2 hcd hbs
      by_cases h0 : cd = 0
      · subst h0
        by_cases h9 : 2048 < q + bs.length
        · have HE : Hid (rt = (11, [])) := Lib.hid (by rw [HRT.out, HST.out, if_neg (by simp), if_pos (by rw [HO.out.1]; exact h9)])
          have hw : IntKind.i64.wrap (2048 - (q : Int)) = 2048 - (q : Int) := by rw [IntKind.wrap_i64]; omega
          go_wp2_with (go_at_call 23; refine (HMD.out _ (bthen HBW.out (ba1 _ _))).mono ?_; rintro e w5 ⟨A5, m5, c5, rfl, f1, f2, f3⟩; have F3 := Lib.hid f3; have hm5 : (2048 : Int) - (q : Int) < (m5 : Int) := (by simp only at f2; omega); clear f1 f2 f3)
          go_ret2
          exact .bad HE.out (bthen (bthen HBW.out (ba1 _ _)) F3.out)
        · have HE : Hid (rt = goP old ((l.map Pv.p).drop (k + 1)) (now ++ bs)) := Lib.hid (by rw [HRT.out, HST.out, if_neg (by simp), if_neg (by rw [HO.out.1]; exact h9)])
          have hw : IntKind.i64.wrap (2048 - (q : Int)) = 2048 - (q : Int) := by rw [IntKind.wrap_i64]; omega
          go_wp2_with (first
            | (go_at_call 23; refine (HMD.out _ (bthen HBW.out (ba1 _ _))).mono ?_; rintro e w5 ⟨A5, m5, c5, rfl, f1, f2, f3⟩; have F1 := Lib.hid f1; have F2 := Lib.hid f2; have F3 := Lib.hid f3; have hm5 : ¬ (2048 : Int) - (q : Int) < (m5 : Int) := (by simp only at f2; omega); clear f1 f2 f3)
            | (at_builtin; refine wpList_appL (F := byS) rfl _ (.tmp 42) (.tmp 43) 22 rfl _ 1 Try.underlying22 byInfo rfl w.heap.size A1 q c1 now rfl (HO.out.below (bthen (ba1 _ _) F3.out)) A5 m5 c5 bs rfl F1.out F2.out (q + m5) rfl (by omega) (by omega) (bthen (bthen HBW.out (ba1 _ _)) F3.out).size ?_; intro A8 c8 w8 ho8 hb8 hs8; have HO8 := Lib.hid ho8; have HB8 := Lib.hid hb8; clear ho8 hb8 hs8))
          refine ⟨⟨k + 1, q + m5, A8, c8, now ++ bs, by omega, by first | rfl | go_num, rfl, HO8.out, by omega, HE.out, (bthen (bthen HBW.out (ba1 _ _)) F3.out).trans HB8.out⟩, by simp [intOf]; omega⟩
      · have HE : Hid (rt = (cd, [])) := Lib.hid (by rw [HRT.out, HST.out, if_pos (by exact h0)])
        go_wp2_with (go_at_call 23; refine (HMD.out _ (bthen HBW.out (ba1 _ _))).mono ?_; rintro e w5 ⟨A5, m5, c5, rfl, f1, f2, f3⟩; have F3 := Lib.hid f3; clear f1 f2 f3)
        go_ret2
        exact .bad HE.out (bthen (bthen HBW.out (ba1 _ _)) F3.out)
    · obtain rfl : k = m := by omega
      have hki : ¬ (k : Int) < (k : Int) := by omega
      have HE : Hid (rt = (0, now)) := Lib.hid (by rw [HRT.out, List.drop_of_length_le (by rw [List.length_map, HM.out]; exact Nat.le_refl _)]; rfl)
      go_wp2_with fail
      go_ret2
      exact ⟨A1, q, c1, by rw [HE.out]; rfl, by rw [HE.out]; exact HO.out.1.symm, by rw [HE.out]; exact HO.out, HBW.out⟩
theorem patch_any (A : Option Addr) (n c : Nat) (L : Option Addr) (m d : Nat) (old : List Int) (l : List Pv) (w : World) (ha : Ls byS w A old) (hn : old.length = n) (hc : n ≤ c) (hl : Ls pcS w L l) (hm : l.length = m)
    (hin : PIn w l) (hnum : PNum l) : Calls Try.prog 11 #[.slice A n c, .slice L m d] w (RetPt w (patchT old (l.map Pv.p))) := by
  by_cases h : 2048 < n ∨ 2048 < m
  · exact patch_size A n c L m d old _ w hn (by rw [List.length_map]; exact hm) h
  · exact patch_ok A n c L m d old l w ha hn hc hl hm hin hnum (by omega) (by omega)

end Go.Proofs.Ytdilpebhecmjmaa
