/-
  Contract of seg.Decode.
-/
import Derived.Test.YtgmpablmkpamaaaSegRead
import Derived.Test.YtgmpablmkpamaaaSegMath2
namespace Go.Proofs.Ytgmpablmkpamaaa
open Go.RowKit Go.Shelf
set_option linter.unusedVariables false
set_option linter.unusedSimpArgs false

def RetDec (W : World) (zs : List Int) (e : Ending) (w' : World) : Prop :=
  Below W.heap.size W w' ∧ ((codeD zs ≠ 0 ∧ e = .returned (.tuple #[segV zeroS none 0 0 none 0 0, .int .i64 (codeD zs)])) ∨ (codeD zs = 0 ∧ ∃ A c D m d, e = .returned (.tuple #[segV (dec zs) A (cnt zs) c D m d, .int .i64 0]) ∧ SegOwn w' W.heap.size (dec zs) A (cnt zs) c D m d))

theorem end_ret {P : Program} {fn : Func} {tmps : Array Value} {R : Ending → World → Prop} {w : World} {v : Value} (h : (results fn tmps).run P w = .ok v w) (hR : R (.returned v) w) : bodyPost P fn R .ret { tmps := tmps, defers := [] } w :=
  bodyPost_ret h rfl hR
theorem ret_bad {W w' : World} {zs : List Int} {k : Int} (hb : Below W.heap.size W w') (hk : codeD zs = k) (h0 : k ≠ 0) : RetDec W zs (.returned (.tuple #[.agg #[.int .i64 0, .int .i64 0, .int .i64 0, .bool false, .bool false, .bool false, .bool false, .slice none 0 0, .slice none 0 0], .int .i64 k])) w' :=
  ⟨hb, .inl ⟨by rw [hk]; exact h0, by rw [hk]; rfl⟩⟩

theorem codeD_short {zs : List Int} (h : zs.length < 10) : codeD zs = 5 := by unfold codeD; rw [if_pos h]
theorem codeD_sum {zs : List Int} (h : 10 ≤ zs.length) (h2 : wd zs 8 ≠ 65535 - fo (tot 0 (bare zs))) : codeD zs = 6 := by unfold codeD; rw [if_neg (by omega), if_pos h2]
theorem codeD_form {zs : List Int} (h : 10 ≤ zs.length) (h2 : wd zs 8 = 65535 - fo (tot 0 (bare zs))) (h3 : readB zs = false ∨ fault (dec zs) ≠ 0) : codeD zs = 4 := by
  unfold codeD
  rw [if_neg (by omega), if_neg (by simpa using h2), if_pos]
  rcases h3 with h3 | h3
  · simp only [readB, Bool.and_eq_false_iff, decide_eq_false_iff_not] at h3
    rcases h3 with h3 | h3
    · exact .inl (by omega)
    · exact .inr (.inl (by omega))
  · exact .inr (.inr h3)
theorem codeD_ok {zs : List Int} (h : 10 ≤ zs.length) (h2 : wd zs 8 = 65535 - fo (tot 0 (bare zs))) (h3 : readB zs = true) (h4 : fault (dec zs) = 0) : codeD zs = 0 := by
  unfold codeD
  simp only [readB, Bool.and_eq_true, decide_eq_true_eq] at h3
  rw [if_neg (by omega), if_neg (by simpa using h2), if_neg]
  rintro (h5 | h5 | h5)
  · omega
  · omega
  · exact h5 h4

set_option maxHeartbeats 2000000 in
theorem decode_short (A : Option Addr) (n c : Nat) (zs : List Int) (w : World) (hn : zs.length = n) (h10 : n < 10) :
    Calls Try.prog 12 #[.slice A n c] w (RetDec w zs) := by
  have HK : Hid (codeD zs = 5) := Lib.hid (codeD_short (by omega))
  clear hn
  go_enter Try.func12, Try.ntmps12
  go_wp2
  refine end_ret (v := .tuple #[.agg #[.int .i64 0, .int .i64 0, .int .i64 0, .bool false, .bool false, .bool false, .bool false, .slice none 0 0, .slice none 0 0], .int .i64 5]) (by simp [results, Try.results12, go_sem]) ?_
  exact ret_bad (ba1 _ _) HK.out (by decide)

set_option maxHeartbeats 4000000 in
theorem decode_sum (b o n c : Nat) (zs : List Int) (w : World) (hb : Bs w (some ⟨b, o, none⟩) zs) (hn : zs.length = n) (h10 : 10 ≤ n) (hc : n ≤ c) (h47 : n ≤ 140737488355328) (hs : wd zs 8 ≠ 65535 - fo (tot 0 (bare zs))) :
    Calls Try.prog 12 #[.slice (some ⟨b, o, none⟩) n c] w (RetDec w zs) := by
  have HK : Hid (codeD zs = 6) := Lib.hid (codeD_sum (by omega) hs)
  have HB := Lib.hid hb
  have HN := Lib.hid hn
  obtain ⟨v8, hv8⟩ : ∃ v, v = wd zs 8 := ⟨_, rfl⟩
  obtain ⟨vb, hvb⟩ : ∃ v, v = 65535 - fo (tot 0 (bare zs)) := ⟨_, rfl⟩
  have HPP : Hid (∀ w', Below w.heap.size w w' → Calls Try.prog 29 #[.slice (some ⟨b, o + 8, none⟩) (n - 8) (c - 8)] w' fun e w'' => e = .returned (.int .i64 v8) ∧ Below w'.heap.size w' w'') := Lib.hid (fun w' h => by
    rw [hv8]; exact pair_at b o n (c - 8) 8 zs w' (HB.out.below h) HN.out (by omega))
  have HPB : Hid (∀ w', Below w.heap.size w w' → Calls Try.prog 30 #[.slice (some ⟨b, o, none⟩) n c] w' fun e w'' => e = .returned (.int .i64 vb) ∧ Below w'.heap.size w' w'') := Lib.hid (fun w' h => by
    rw [hvb]; exact bare_any b o n c zs w' (HB.out.below h) HN.out h10 h47)
  have q1 : ¬ c = 8 := by omega
  have q2 : (8 : Int) ≤ (n : Int) := by omega
  have h10' : ¬ n < 10 := by omega
  have z : (v8 == vb) = false := by rw [beq_eq_false_iff_ne, hv8, hvb]; exact hs
  clear hb hn hv8 hvb hs
  go_enter Try.func12, Try.ntmps12
  go_wp2_with (first
    | (go_at_call 29; (refine (HPP.out _ (ba1 _ _)).mono ?_); rintro e w2 ⟨rfl, hb2⟩; have HB2 : Hid (Below w.heap.size w w2) := Lib.hid (bthen (ba1 _ _) hb2); have HR2 : Hid (Box9 w2 w.heap.size (.int .i64 0) (.int .i64 0) (.int .i64 0) (.bool false) (.bool false) (.bool false) (.bool false) (.slice none 0 0) (.slice none 0 0)) := Lib.hid (box9_below (World.alloc_heap_new w _) hb2); clear hb2)
    | (go_at_call 30; (refine (HPB.out _ HB2.out).mono ?_); rintro e w3 ⟨rfl, hb3⟩; have HB3 : Hid (Below w.heap.size w w3) := Lib.hid (bthen HB2.out hb3); have HR3 : Hid (Box9 w3 w.heap.size (.int .i64 0) (.int .i64 0) (.int .i64 0) (.bool false) (.bool false) (.bool false) (.bool false) (.slice none 0 0) (.slice none 0 0)) := Lib.hid (box9_below HR2.out hb3); have hz3 : w.heap.size < w3.heap.size := lt_of_block HR3.out; clear hb3; obtain ⟨lR, c0, c1, c2, c3, c4, c5, c6, c7, c8, fr⟩ := HR3.out.cells; have z0 := fr 0; have z1 := fr 1; have z2 := fr 2; have z3 := fr 3; have z4 := fr 4; have z5 := fr 5; have z6 := fr 6; have z7 := fr 7; have z8 := fr 8; clear fr))
  obtain ⟨wf, hwf⟩ : ∃ wf, wf = (((((((((w3.setCell ⟨w.heap.size, 0, none⟩ (.int .i64 0)).setCell ⟨w.heap.size, 1, none⟩ (.int .i64 0)).setCell ⟨w.heap.size, 2, none⟩ (.int .i64 0)).setCell ⟨w.heap.size, 3, none⟩ (.bool false)).setCell ⟨w.heap.size, 4, none⟩ (.bool false)).setCell ⟨w.heap.size, 5, none⟩ (.bool false)).setCell ⟨w.heap.size, 6, none⟩ (.bool false)).setCell ⟨w.heap.size, 7, none⟩ (.slice none 0 0)).setCell ⟨w.heap.size, 8, none⟩ (.slice none 0 0)) := ⟨_, rfl⟩
  have hf : Box9 wf w.heap.size (.int .i64 0) (.int .i64 0) (.int .i64 0) (.bool false) (.bool false) (.bool false) (.bool false) (.slice none 0 0) (.slice none 0 0) := by rw [hwf]; exact box9_store HR3.out _ _ _ _ _ _ _ _ _
  have hbf : Below w.heap.size w wf := by rw [hwf]; exact below_store HB3.out (Nat.le_refl _) _ _ _ _ _ _ _ _ _
  obtain ⟨-, r0, r1, r2, r3, r4, r5, r6, r7, r8, -⟩ := hf.cells
  rw [← hwf]
  refine end_ret (v := .tuple #[.agg #[.int .i64 0, .int .i64 0, .int .i64 0, .bool false, .bool false, .bool false, .bool false, .slice none 0 0, .slice none 0 0], .int .i64 6]) (by simp [results, Try.results12, go_sem, r0, r1, r2, r3, r4, r5, r6, r7, r8]) ?_
  exact ret_bad hbf HK.out (by decide)

set_option maxHeartbeats 4000000 in
theorem decode_form (b o n c : Nat) (zs : List Int) (w : World) (hb : Bs w (some ⟨b, o, none⟩) zs) (hn : zs.length = n) (h10 : 10 ≤ n) (hc : n ≤ c) (h47 : n ≤ 140737488355328) (hs : wd zs 8 = 65535 - fo (tot 0 (bare zs))) (hr : readB zs = false) :
    Calls Try.prog 12 #[.slice (some ⟨b, o, none⟩) n c] w (RetDec w zs) := by
  have HK : Hid (codeD zs = 4) := Lib.hid (codeD_form (by omega) hs (.inl hr))
  have HB := Lib.hid hb
  have HN := Lib.hid hn
  obtain ⟨v8, hv8⟩ : ∃ v, v = wd zs 8 := ⟨_, rfl⟩
  obtain ⟨vb, hvb⟩ : ∃ v, v = 65535 - fo (tot 0 (bare zs)) := ⟨_, rfl⟩
  have HPP : Hid (∀ w', Below w.heap.size w w' → Calls Try.prog 29 #[.slice (some ⟨b, o + 8, none⟩) (n - 8) (c - 8)] w' fun e w'' => e = .returned (.int .i64 v8) ∧ Below w'.heap.size w' w'') := Lib.hid (fun w' h => by
    rw [hv8]; exact pair_at b o n (c - 8) 8 zs w' (HB.out.below h) HN.out (by omega))
  have HPB : Hid (∀ w', Below w.heap.size w w' → Calls Try.prog 30 #[.slice (some ⟨b, o, none⟩) n c] w' fun e w'' => e = .returned (.int .i64 vb) ∧ Below w'.heap.size w' w'') := Lib.hid (fun w' h => by
    rw [hvb]; exact bare_any b o n c zs w' (HB.out.below h) HN.out h10 h47)
  have q1 : ¬ c = 8 := by omega
  have q2 : (8 : Int) ≤ (n : Int) := by omega
  have h10' : ¬ n < 10 := by omega
  have z : (v8 == vb) = true := by rw [beq_iff_eq, hv8, hvb]; exact hs
  obtain ⟨s0, s1, s2, g0, g1, g2, g3, hv⟩ : ∃ s0 s1 s2 g0 g1 g2 g3, segV (dec0 zs) none 0 0 none 0 0 = .agg #[.int .i64 s0, .int .i64 s1, .int .i64 s2, .bool g0, .bool g1, .bool g2, .bool g3, .slice none 0 0, .slice none 0 0] := ⟨_, _, _, _, _, _, _, rfl⟩
  have HRD : Hid (∀ w', Below w.heap.size w w' → Calls Try.prog 31 #[.slice (some ⟨b, o, none⟩) n c] w' fun e w'' => e = .returned (.tuple #[.agg #[.int .i64 s0, .int .i64 s1, .int .i64 s2, .bool g0, .bool g1, .bool g2, .bool g3, .slice none 0 0, .slice none 0 0], .bool false]) ∧ Below w'.heap.size w' w'') := Lib.hid (fun w' h => by
    refine (read_any b o n c zs w' (HB.out.below h) HN.out h10 hc h47).mono ?_
    rintro e w'' ⟨h1, ⟨_, h2⟩ | ⟨h2, _⟩⟩
    · rw [← hv]; exact ⟨h2, h1⟩
    · rw [hr] at h2; cases h2)
  clear hb hn hv8 hvb hs hv hr
  go_enter Try.func12, Try.ntmps12
  go_upto_region 6 with (first
    | (go_at_call 29; (refine (HPP.out _ (ba1 _ _)).mono ?_); rintro e w2 ⟨rfl, hb2⟩; have HB2 : Hid (Below w.heap.size w w2) := Lib.hid (bthen (ba1 _ _) hb2); have HR2 : Hid (Box9 w2 w.heap.size (.int .i64 0) (.int .i64 0) (.int .i64 0) (.bool false) (.bool false) (.bool false) (.bool false) (.slice none 0 0) (.slice none 0 0)) := Lib.hid (box9_below (World.alloc_heap_new w _) hb2); clear hb2)
    | (go_at_call 30; (refine (HPB.out _ HB2.out).mono ?_); rintro e w3 ⟨rfl, hb3⟩; have HB3 : Hid (Below w.heap.size w w3) := Lib.hid (bthen HB2.out hb3); have HR3 : Hid (Box9 w3 w.heap.size (.int .i64 0) (.int .i64 0) (.int .i64 0) (.bool false) (.bool false) (.bool false) (.bool false) (.slice none 0 0) (.slice none 0 0)) := Lib.hid (box9_below HR2.out hb3); have hz3 : w.heap.size < w3.heap.size := lt_of_block HR3.out; clear hb3)
    | (go_at_call 31; (refine (HRD.out _ HB3.out).mono ?_); rintro e w4 ⟨rfl, hb4⟩; have HB4 : Hid (Below w.heap.size w w4) := Lib.hid (bthen HB3.out hb4); have HR4 : Hid (Box9 w4 w.heap.size (.int .i64 0) (.int .i64 0) (.int .i64 0) (.bool false) (.bool false) (.bool false) (.bool false) (.slice none 0 0) (.slice none 0 0)) := Lib.hid (box9_below HR3.out hb4); have hz4 : w.heap.size < w4.heap.size := lt_of_block HR4.out; clear hb4))
  obtain ⟨V, hV⟩ : ∃ V, V = w4.alloc (.cells #[.int .i64 s0, .int .i64 s1, .int .i64 s2, .bool g0, .bool g1, .bool g2, .bool g3, .slice none 0 0, .slice none 0 0] 25) := ⟨_, rfl⟩
  obtain ⟨S, hS⟩ : ∃ S, S = w4.heap.size := ⟨_, rfl⟩
  have hVS : Box9 V S (.int .i64 s0) (.int .i64 s1) (.int .i64 s2) (.bool g0) (.bool g1) (.bool g2) (.bool g3) (.slice none 0 0) (.slice none 0 0) := by rw [hV, hS]; exact World.alloc_heap_new w4 _
  have hVR : Box9 V w.heap.size (.int .i64 0) (.int .i64 0) (.int .i64 0) (.bool false) (.bool false) (.bool false) (.bool false) (.slice none 0 0) (.slice none 0 0) := by rw [hV]; exact box9_below HR4.out (ba1 _ _)
  have hbV : Below w.heap.size w V := by rw [hV]; exact HB4.out.alloc HB4.out.size _
  obtain ⟨lS, k0, k1, k2, k3, k4, k5, k6, k7, k8, -⟩ := hVS.cells
  obtain ⟨lR, c0, c1, c2, c3, c4, c5, c6, c7, c8, fr⟩ := hVR.cells
  have z0 := fr 0; have z1 := fr 1; have z2 := fr 2; have z3 := fr 3; have z4 := fr 4; have z5 := fr 5; have z6 := fr 6; have z7 := fr 7; have z8 := fr 8
  have hne : S ≠ w.heap.size := by omega
  have hne' : w.heap.size ≠ S := by omega
  rw [← hV, ← hS]
  have HVS := Lib.hid hVS; have HVR := Lib.hid hVR; have HBV := Lib.hid hbV; have HVV := Lib.hid hV; have HSS := Lib.hid hS
  clear hVS hVR hbV hV hS fr
  go_wp2
  obtain ⟨wf, hwf⟩ : ∃ wf, wf = (((((((((V.setCell ⟨w.heap.size, 0, none⟩ (.int .i64 0)).setCell ⟨w.heap.size, 1, none⟩ (.int .i64 0)).setCell ⟨w.heap.size, 2, none⟩ (.int .i64 0)).setCell ⟨w.heap.size, 3, none⟩ (.bool false)).setCell ⟨w.heap.size, 4, none⟩ (.bool false)).setCell ⟨w.heap.size, 5, none⟩ (.bool false)).setCell ⟨w.heap.size, 6, none⟩ (.bool false)).setCell ⟨w.heap.size, 7, none⟩ (.slice none 0 0)).setCell ⟨w.heap.size, 8, none⟩ (.slice none 0 0)) := ⟨_, rfl⟩
  have hf : Box9 wf w.heap.size (.int .i64 0) (.int .i64 0) (.int .i64 0) (.bool false) (.bool false) (.bool false) (.bool false) (.slice none 0 0) (.slice none 0 0) := by rw [hwf]; exact box9_store HVR.out _ _ _ _ _ _ _ _ _
  have hbf : Below w.heap.size w wf := by rw [hwf]; exact below_store HBV.out (Nat.le_refl _) _ _ _ _ _ _ _ _ _
  obtain ⟨-, r0, r1, r2, r3, r4, r5, r6, r7, r8, -⟩ := hf.cells
  rw [← hwf]
  refine end_ret (v := .tuple #[.agg #[.int .i64 0, .int .i64 0, .int .i64 0, .bool false, .bool false, .bool false, .bool false, .slice none 0 0, .slice none 0 0], .int .i64 4]) (by simp [results, Try.results12, go_sem, r0, r1, r2, r3, r4, r5, r6, r7, r8]) ?_
  exact ret_bad hbf HK.out (by decide)

set_option maxHeartbeats 4000000 in
theorem decode_fault (b o n c : Nat) (zs : List Int) (w : World) (hb : Bs w (some ⟨b, o, none⟩) zs) (hn : zs.length = n) (h10 : 10 ≤ n) (hc : n ≤ c) (h47 : n ≤ 140737488355328) (hs : wd zs 8 = 65535 - fo (tot 0 (bare zs))) (hr : readB zs = true) (ft : Int) (hft : ft = fault (dec zs)) (h0 : ft ≠ 0) :
    Calls Try.prog 12 #[.slice (some ⟨b, o, none⟩) n c] w (RetDec w zs) := by
  have HK : Hid (codeD zs = 4) := Lib.hid (codeD_form (by omega) hs (.inr (by rw [← hft]; exact h0)))
  have HB := Lib.hid hb
  have HN := Lib.hid hn
  obtain ⟨v8, hv8⟩ : ∃ v, v = wd zs 8 := ⟨_, rfl⟩
  obtain ⟨vb, hvb⟩ : ∃ v, v = 65535 - fo (tot 0 (bare zs)) := ⟨_, rfl⟩
  have HPP : Hid (∀ w', Below w.heap.size w w' → Calls Try.prog 29 #[.slice (some ⟨b, o + 8, none⟩) (n - 8) (c - 8)] w' fun e w'' => e = .returned (.int .i64 v8) ∧ Below w'.heap.size w' w'') := Lib.hid (fun w' h => by
    rw [hv8]; exact pair_at b o n (c - 8) 8 zs w' (HB.out.below h) HN.out (by omega))
  have HPB : Hid (∀ w', Below w.heap.size w w' → Calls Try.prog 30 #[.slice (some ⟨b, o, none⟩) n c] w' fun e w'' => e = .returned (.int .i64 vb) ∧ Below w'.heap.size w' w'') := Lib.hid (fun w' h => by
    rw [hvb]; exact bare_any b o n c zs w' (HB.out.below h) HN.out h10 h47)
  have q1 : ¬ c = 8 := by omega
  have q2 : (8 : Int) ≤ (n : Int) := by omega
  have h10' : ¬ n < 10 := by omega
  have z : (v8 == vb) = true := by rw [beq_iff_eq, hv8, hvb]; exact hs
  obtain ⟨q, hq⟩ : ∃ q, q = cnt zs := ⟨_, rfl⟩
  obtain ⟨s0, s1, s2, g0, g1, g2, g3, hv⟩ : ∃ s0 s1 s2 g0 g1 g2 g3, ∀ A n c D m d, segV (dec zs) A n c D m d = .agg #[.int .i64 s0, .int .i64 s1, .int .i64 s2, .bool g0, .bool g1, .bool g2, .bool g3, .slice A n c, .slice D m d] := ⟨_, _, _, _, _, _, _, fun _ _ _ _ _ _ => rfl⟩
  have HRD : Hid (∀ w', Below w.heap.size w w' → Calls Try.prog 31 #[.slice (some ⟨b, o, none⟩) n c] w' fun e w'' => ∃ Ad cd D m d, e = .returned (.tuple #[.agg #[.int .i64 s0, .int .i64 s1, .int .i64 s2, .bool g0, .bool g1, .bool g2, .bool g3, .slice Ad q cd, .slice D m d], .bool true]) ∧ Below w'.heap.size w' w'' ∧ SegOwn w'' w'.heap.size (dec zs) Ad q cd D m d) := Lib.hid (fun w' h => by
    refine (read_any b o n c zs w' (HB.out.below h) HN.out h10 hc h47).mono ?_
    rintro e w'' ⟨h1, ⟨h2, _⟩ | ⟨_, Ad, cd, D, m, d, h2, h3⟩⟩
    · rw [hr] at h2; cases h2
    · rw [hv, ← hq] at h2; rw [← hq] at h3; exact ⟨Ad, cd, D, m, d, h2, h1, h3⟩)
  have HCK : Hid (∀ (w' : World) (A : Option Addr) (cd : Nat) (D : Option Addr) (m d : Nat), SegIs w' (dec zs) A q D m → Calls Try.prog 22 #[.agg #[.int .i64 s0, .int .i64 s1, .int .i64 s2, .bool g0, .bool g1, .bool g2, .bool g3, .slice A q cd, .slice D m d]] w' fun e w'' => e = .returned (.int .i64 ft) ∧ Below w'.heap.size w' w'') := Lib.hid (fun w' A cd D m d h => by
    rw [← hv, hft]; exact check_any (dec zs) A q cd D m d w' h.1 h.2.1 h.2.2.2)
  have HV := Lib.hid hv; have HQ := Lib.hid hq; have HFT := Lib.hid hft
  clear hb hn hv8 hvb hs hv hr hq hft
  go_enter Try.func12, Try.ntmps12
  go_upto_region 6 with (first
    | (go_at_call 29; (refine (HPP.out _ (ba1 _ _)).mono ?_); rintro e w2 ⟨rfl, hb2⟩; have HB2 : Hid (Below w.heap.size w w2) := Lib.hid (bthen (ba1 _ _) hb2); have HR2 : Hid (Box9 w2 w.heap.size (.int .i64 0) (.int .i64 0) (.int .i64 0) (.bool false) (.bool false) (.bool false) (.bool false) (.slice none 0 0) (.slice none 0 0)) := Lib.hid (box9_below (World.alloc_heap_new w _) hb2); clear hb2)
    | (go_at_call 30; (refine (HPB.out _ HB2.out).mono ?_); rintro e w3 ⟨rfl, hb3⟩; have HB3 : Hid (Below w.heap.size w w3) := Lib.hid (bthen HB2.out hb3); have HR3 : Hid (Box9 w3 w.heap.size (.int .i64 0) (.int .i64 0) (.int .i64 0) (.bool false) (.bool false) (.bool false) (.bool false) (.slice none 0 0) (.slice none 0 0)) := Lib.hid (box9_below HR2.out hb3); have hz3 : w.heap.size < w3.heap.size := lt_of_block HR3.out; clear hb3)
    | (go_at_call 31; (refine (HRD.out _ HB3.out).mono ?_); rintro e w4 ⟨Ad, cd, D, m, d, rfl, hb4, ho4⟩; have HB4 : Hid (Below w.heap.size w w4) := Lib.hid (bthen HB3.out hb4); have HR4 : Hid (Box9 w4 w.heap.size (.int .i64 0) (.int .i64 0) (.int .i64 0) (.bool false) (.bool false) (.bool false) (.bool false) (.slice none 0 0) (.slice none 0 0)) := Lib.hid (box9_below HR3.out hb4); have hz4 : w.heap.size < w4.heap.size := lt_of_block HR4.out; have HO4 : Hid (SegOwn w4 (w.heap.size + 1) (dec zs) Ad q cd D m d) := Lib.hid (ho4.base (by omega)); clear hb4 ho4))
  obtain ⟨V, hV⟩ : ∃ V, V = w4.alloc (.cells #[.int .i64 s0, .int .i64 s1, .int .i64 s2, .bool g0, .bool g1, .bool g2, .bool g3, .slice Ad q cd, .slice D m d] 25) := ⟨_, rfl⟩
  obtain ⟨S, hS⟩ : ∃ S, S = w4.heap.size := ⟨_, rfl⟩
  have hVS : Box9 V S (.int .i64 s0) (.int .i64 s1) (.int .i64 s2) (.bool g0) (.bool g1) (.bool g2) (.bool g3) (.slice Ad q cd) (.slice D m d) := by rw [hV, hS]; exact World.alloc_heap_new w4 _
  have hVR : Box9 V w.heap.size (.int .i64 0) (.int .i64 0) (.int .i64 0) (.bool false) (.bool false) (.bool false) (.bool false) (.slice none 0 0) (.slice none 0 0) := by rw [hV]; exact box9_below HR4.out (ba1 _ _)
  have hbV : Below w.heap.size w V := by rw [hV]; exact HB4.out.alloc HB4.out.size _
  obtain ⟨lS, k0, k1, k2, k3, k4, k5, k6, k7, k8, -⟩ := hVS.cells
  obtain ⟨lR, c0, c1, c2, c3, c4, c5, c6, c7, c8, fr⟩ := hVR.cells
  have z0 := fr 0; have z1 := fr 1; have z2 := fr 2; have z3 := fr 3; have z4 := fr 4; have z5 := fr 5; have z6 := fr 6; have z7 := fr 7; have z8 := fr 8
  have hne : S ≠ w.heap.size := by omega
  have hne' : w.heap.size ≠ S := by omega
  rw [← hV, ← hS]
  have HVS := Lib.hid hVS; have HVR := Lib.hid hVR; have HBV := Lib.hid hbV; have HVV := Lib.hid hV; have HSS := Lib.hid hS
  have HOV : Hid (SegOwn V (w.heap.size + 1) (dec zs) Ad q cd D m d) := Lib.hid (by rw [HVV.out]; exact HO4.out.below (ba1 _ _))
  clear hVS hVR hbV hV hS fr c0 c1 c2 c3 c4 c5 c6 c7 c8 z0 z1 z2 z3 z4 z5 z6 z7 z8
  go_wp2_with (go_at_call 22; (refine (HCK.out _ Ad cd D m d HOV.out.is).mono ?_); rintro e w5 ⟨rfl, hb5⟩; have HB5 : Hid (Below w.heap.size w w5) := Lib.hid (bthen HBV.out hb5); have hVR5 := box9_below HVR.out hb5; have hVS5 := box9_below HVS.out hb5; obtain ⟨lS5, j0, j1, j2, j3, j4, j5, j6, j7, j8, -⟩ := hVS5.cells; obtain ⟨lR5, c0, c1, c2, c3, c4, c5, c6, c7, c8, fr⟩ := hVR5.cells; have z0 := fr 0; have z1 := fr 1; have z2 := fr 2; have z3 := fr 3; have z4 := fr 4; have z5 := fr 5; have z6 := fr 6; have z7 := fr 7; have z8 := fr 8; have HVR5 := Lib.hid hVR5; have HO5 := Lib.hid (HOV.out.below hb5); clear hb5 hVR5 hVS5 fr)
  obtain ⟨wf, hwf⟩ : ∃ wf, wf = (((((((((w5.setCell ⟨w.heap.size, 0, none⟩ (.int .i64 0)).setCell ⟨w.heap.size, 1, none⟩ (.int .i64 0)).setCell ⟨w.heap.size, 2, none⟩ (.int .i64 0)).setCell ⟨w.heap.size, 3, none⟩ (.bool false)).setCell ⟨w.heap.size, 4, none⟩ (.bool false)).setCell ⟨w.heap.size, 5, none⟩ (.bool false)).setCell ⟨w.heap.size, 6, none⟩ (.bool false)).setCell ⟨w.heap.size, 7, none⟩ (.slice none 0 0)).setCell ⟨w.heap.size, 8, none⟩ (.slice none 0 0)) := ⟨_, rfl⟩
  have hf : Box9 wf w.heap.size (.int .i64 0) (.int .i64 0) (.int .i64 0) (.bool false) (.bool false) (.bool false) (.bool false) (.slice none 0 0) (.slice none 0 0) := by rw [hwf]; exact box9_store HVR5.out _ _ _ _ _ _ _ _ _
  have hbf : Below w.heap.size w wf := by rw [hwf]; exact below_store HB5.out (Nat.le_refl _) _ _ _ _ _ _ _ _ _
  obtain ⟨-, r0, r1, r2, r3, r4, r5, r6, r7, r8, -⟩ := hf.cells
  rw [← hwf]
  refine end_ret (v := .tuple #[.agg #[.int .i64 0, .int .i64 0, .int .i64 0, .bool false, .bool false, .bool false, .bool false, .slice none 0 0, .slice none 0 0], .int .i64 4]) (by simp [results, Try.results12, go_sem, r0, r1, r2, r3, r4, r5, r6, r7, r8]) ?_
  exact ret_bad hbf HK.out (by decide)

set_option maxHeartbeats 4000000 in
theorem decode_ok (b o n c : Nat) (zs : List Int) (w : World) (hb : Bs w (some ⟨b, o, none⟩) zs) (hn : zs.length = n) (h10 : 10 ≤ n) (hc : n ≤ c) (h47 : n ≤ 140737488355328) (hs : wd zs 8 = 65535 - fo (tot 0 (bare zs))) (hr : readB zs = true) (ft : Int) (hft : ft = fault (dec zs)) (h0 : ft = 0) :
    Calls Try.prog 12 #[.slice (some ⟨b, o, none⟩) n c] w (RetDec w zs) := by
  have HK : Hid (codeD zs = 0) := Lib.hid (codeD_ok (by omega) hs hr (by rw [← hft]; exact h0))
  have HB := Lib.hid hb
  have HN := Lib.hid hn
  obtain ⟨v8, hv8⟩ : ∃ v, v = wd zs 8 := ⟨_, rfl⟩
  obtain ⟨vb, hvb⟩ : ∃ v, v = 65535 - fo (tot 0 (bare zs)) := ⟨_, rfl⟩
  have HPP : Hid (∀ w', Below w.heap.size w w' → Calls Try.prog 29 #[.slice (some ⟨b, o + 8, none⟩) (n - 8) (c - 8)] w' fun e w'' => e = .returned (.int .i64 v8) ∧ Below w'.heap.size w' w'') := Lib.hid (fun w' h => by
    rw [hv8]; exact pair_at b o n (c - 8) 8 zs w' (HB.out.below h) HN.out (by omega))
  have HPB : Hid (∀ w', Below w.heap.size w w' → Calls Try.prog 30 #[.slice (some ⟨b, o, none⟩) n c] w' fun e w'' => e = .returned (.int .i64 vb) ∧ Below w'.heap.size w' w'') := Lib.hid (fun w' h => by
    rw [hvb]; exact bare_any b o n c zs w' (HB.out.below h) HN.out h10 h47)
  have q1 : ¬ c = 8 := by omega
  have q2 : (8 : Int) ≤ (n : Int) := by omega
  have h10' : ¬ n < 10 := by omega
  have z : (v8 == vb) = true := by rw [beq_iff_eq, hv8, hvb]; exact hs
  obtain ⟨q, hq⟩ : ∃ q, q = cnt zs := ⟨_, rfl⟩
  obtain ⟨s0, s1, s2, g0, g1, g2, g3, hv⟩ : ∃ s0 s1 s2 g0 g1 g2 g3, ∀ A n c D m d, segV (dec zs) A n c D m d = .agg #[.int .i64 s0, .int .i64 s1, .int .i64 s2, .bool g0, .bool g1, .bool g2, .bool g3, .slice A n c, .slice D m d] := ⟨_, _, _, _, _, _, _, fun _ _ _ _ _ _ => rfl⟩
  have HRD : Hid (∀ w', Below w.heap.size w w' → Calls Try.prog 31 #[.slice (some ⟨b, o, none⟩) n c] w' fun e w'' => ∃ Ad cd D m d, e = .returned (.tuple #[.agg #[.int .i64 s0, .int .i64 s1, .int .i64 s2, .bool g0, .bool g1, .bool g2, .bool g3, .slice Ad q cd, .slice D m d], .bool true]) ∧ Below w'.heap.size w' w'' ∧ SegOwn w'' w'.heap.size (dec zs) Ad q cd D m d) := Lib.hid (fun w' h => by
    refine (read_any b o n c zs w' (HB.out.below h) HN.out h10 hc h47).mono ?_
    rintro e w'' ⟨h1, ⟨h2, _⟩ | ⟨_, Ad, cd, D, m, d, h2, h3⟩⟩
    · rw [hr] at h2; cases h2
    · rw [hv, ← hq] at h2; rw [← hq] at h3; exact ⟨Ad, cd, D, m, d, h2, h1, h3⟩)
  have HCK : Hid (∀ (w' : World) (A : Option Addr) (cd : Nat) (D : Option Addr) (m d : Nat), SegIs w' (dec zs) A q D m → Calls Try.prog 22 #[.agg #[.int .i64 s0, .int .i64 s1, .int .i64 s2, .bool g0, .bool g1, .bool g2, .bool g3, .slice A q cd, .slice D m d]] w' fun e w'' => e = .returned (.int .i64 ft) ∧ Below w'.heap.size w' w'') := Lib.hid (fun w' A cd D m d h => by
    rw [← hv, hft]; exact check_any (dec zs) A q cd D m d w' h.1 h.2.1 h.2.2.2)
  have HV := Lib.hid hv; have HQ := Lib.hid hq; have HFT := Lib.hid hft
  clear hb hn hv8 hvb hs hv hr hq hft
  go_enter Try.func12, Try.ntmps12
  go_upto_region 6 with (first
    | (go_at_call 29; (refine (HPP.out _ (ba1 _ _)).mono ?_); rintro e w2 ⟨rfl, hb2⟩; have HB2 : Hid (Below w.heap.size w w2) := Lib.hid (bthen (ba1 _ _) hb2); have HR2 : Hid (Box9 w2 w.heap.size (.int .i64 0) (.int .i64 0) (.int .i64 0) (.bool false) (.bool false) (.bool false) (.bool false) (.slice none 0 0) (.slice none 0 0)) := Lib.hid (box9_below (World.alloc_heap_new w _) hb2); clear hb2)
    | (go_at_call 30; (refine (HPB.out _ HB2.out).mono ?_); rintro e w3 ⟨rfl, hb3⟩; have HB3 : Hid (Below w.heap.size w w3) := Lib.hid (bthen HB2.out hb3); have HR3 : Hid (Box9 w3 w.heap.size (.int .i64 0) (.int .i64 0) (.int .i64 0) (.bool false) (.bool false) (.bool false) (.bool false) (.slice none 0 0) (.slice none 0 0)) := Lib.hid (box9_below HR2.out hb3); have hz3 : w.heap.size < w3.heap.size := lt_of_block HR3.out; clear hb3)
    | (go_at_call 31; (refine (HRD.out _ HB3.out).mono ?_); rintro e w4 ⟨Ad, cd, D, m, d, rfl, hb4, ho4⟩; have HB4 : Hid (Below w.heap.size w w4) := Lib.hid (bthen HB3.out hb4); have HR4 : Hid (Box9 w4 w.heap.size (.int .i64 0) (.int .i64 0) (.int .i64 0) (.bool false) (.bool false) (.bool false) (.bool false) (.slice none 0 0) (.slice none 0 0)) := Lib.hid (box9_below HR3.out hb4); have hz4 : w.heap.size < w4.heap.size := lt_of_block HR4.out; have HO4 : Hid (SegOwn w4 (w.heap.size + 1) (dec zs) Ad q cd D m d) := Lib.hid (ho4.base (by omega)); clear hb4 ho4))
  obtain ⟨V, hV⟩ : ∃ V, V = w4.alloc (.cells #[.int .i64 s0, .int .i64 s1, .int .i64 s2, .bool g0, .bool g1, .bool g2, .bool g3, .slice Ad q cd, .slice D m d] 25) := ⟨_, rfl⟩
  obtain ⟨S, hS⟩ : ∃ S, S = w4.heap.size := ⟨_, rfl⟩
  have hVS : Box9 V S (.int .i64 s0) (.int .i64 s1) (.int .i64 s2) (.bool g0) (.bool g1) (.bool g2) (.bool g3) (.slice Ad q cd) (.slice D m d) := by rw [hV, hS]; exact World.alloc_heap_new w4 _
  have hVR : Box9 V w.heap.size (.int .i64 0) (.int .i64 0) (.int .i64 0) (.bool false) (.bool false) (.bool false) (.bool false) (.slice none 0 0) (.slice none 0 0) := by rw [hV]; exact box9_below HR4.out (ba1 _ _)
  have hbV : Below w.heap.size w V := by rw [hV]; exact HB4.out.alloc HB4.out.size _
  obtain ⟨lS, k0, k1, k2, k3, k4, k5, k6, k7, k8, -⟩ := hVS.cells
  obtain ⟨lR, c0, c1, c2, c3, c4, c5, c6, c7, c8, fr⟩ := hVR.cells
  have z0 := fr 0; have z1 := fr 1; have z2 := fr 2; have z3 := fr 3; have z4 := fr 4; have z5 := fr 5; have z6 := fr 6; have z7 := fr 7; have z8 := fr 8
  have hne : S ≠ w.heap.size := by omega
  have hne' : w.heap.size ≠ S := by omega
  rw [← hV, ← hS]
  have HVS := Lib.hid hVS; have HVR := Lib.hid hVR; have HBV := Lib.hid hbV; have HVV := Lib.hid hV; have HSS := Lib.hid hS
  have HOV : Hid (SegOwn V (w.heap.size + 1) (dec zs) Ad q cd D m d) := Lib.hid (by rw [HVV.out]; exact HO4.out.below (ba1 _ _))
  clear hVS hVR hbV hV hS fr c0 c1 c2 c3 c4 c5 c6 c7 c8 z0 z1 z2 z3 z4 z5 z6 z7 z8
  go_wp2_with (go_at_call 22; (refine (HCK.out _ Ad cd D m d HOV.out.is).mono ?_); rintro e w5 ⟨rfl, hb5⟩; have HB5 : Hid (Below w.heap.size w w5) := Lib.hid (bthen HBV.out hb5); have hVR5 := box9_below HVR.out hb5; have hVS5 := box9_below HVS.out hb5; obtain ⟨lS5, j0, j1, j2, j3, j4, j5, j6, j7, j8, -⟩ := hVS5.cells; obtain ⟨lR5, c0, c1, c2, c3, c4, c5, c6, c7, c8, fr⟩ := hVR5.cells; have z0 := fr 0; have z1 := fr 1; have z2 := fr 2; have z3 := fr 3; have z4 := fr 4; have z5 := fr 5; have z6 := fr 6; have z7 := fr 7; have z8 := fr 8; have HVR5 := Lib.hid hVR5; have HO5 := Lib.hid (HOV.out.below hb5); clear hb5 hVR5 hVS5 fr)
  obtain ⟨wf, hwf⟩ : ∃ wf, wf = (((((((((w5.setCell ⟨w.heap.size, 0, none⟩ (.int .i64 s0)).setCell ⟨w.heap.size, 1, none⟩ (.int .i64 s1)).setCell ⟨w.heap.size, 2, none⟩ (.int .i64 s2)).setCell ⟨w.heap.size, 3, none⟩ (.bool g0)).setCell ⟨w.heap.size, 4, none⟩ (.bool g1)).setCell ⟨w.heap.size, 5, none⟩ (.bool g2)).setCell ⟨w.heap.size, 6, none⟩ (.bool g3)).setCell ⟨w.heap.size, 7, none⟩ (.slice Ad q cd)).setCell ⟨w.heap.size, 8, none⟩ (.slice D m d)) := ⟨_, rfl⟩
  have hf : Box9 wf w.heap.size (.int .i64 s0) (.int .i64 s1) (.int .i64 s2) (.bool g0) (.bool g1) (.bool g2) (.bool g3) (.slice Ad q cd) (.slice D m d) := by rw [hwf]; exact box9_store HVR5.out _ _ _ _ _ _ _ _ _
  have hbf : Below w.heap.size w wf := by rw [hwf]; exact below_store HB5.out (Nat.le_refl _) _ _ _ _ _ _ _ _ _
  have hof : SegOwn wf (w.heap.size + 1) (dec zs) Ad q cd D m d := by
    rw [hwf]
    exact ⟨⟨HO5.out.1.1, ownsRow_store HO5.out.1.2 _ (by omega) _ _ _ _ _ _ _ _ _⟩, ⟨HO5.out.2.1, HO5.out.2.2.1, ownsRow_store HO5.out.2.2.2 _ (by omega) _ _ _ _ _ _ _ _ _⟩⟩
  obtain ⟨-, r0, r1, r2, r3, r4, r5, r6, r7, r8, -⟩ := hf.cells
  rw [← hwf]
  refine end_ret (v := .tuple #[.agg #[.int .i64 s0, .int .i64 s1, .int .i64 s2, .bool g0, .bool g1, .bool g2, .bool g3, .slice Ad q cd, .slice D m d], .int .i64 0]) (by simp [results, Try.results12, go_sem, r0, r1, r2, r3, r4, r5, r6, r7, r8]) ?_
  refine ⟨hbf, .inr ⟨HK.out, Ad, cd, D, m, d, ?_, ?_⟩⟩
  · rw [← HQ.out, HV.out]
  · rw [← HQ.out]; exact hof.base (by omega)

/-- Decode at every list of bytes -/
theorem decode_any (A : Option Addr) (n c : Nat) (zs : List Int) (w : World) (hb : Bs w A zs) (hn : zs.length = n) (hc : n ≤ c) (h47 : n ≤ 140737488355328) :
    Calls Try.prog 12 #[.slice A n c] w (RetDec w zs) := by
  by_cases h10 : n < 10
  · exact decode_short A n c zs w hn h10
  · obtain ⟨b, o, rfl⟩ : ∃ b o, A = some ⟨b, o, none⟩ := by
      rcases hb.2 with h | ⟨b, o, h, _, _⟩
      · rw [h] at hn; simp at hn; omega
      · exact ⟨b, o, h⟩
    by_cases hs : wd zs 8 = 65535 - fo (tot 0 (bare zs))
    · cases hr : readB zs
      · exact decode_form b o n c zs w hb hn (by omega) hc h47 hs hr
      · by_cases h0 : fault (dec zs) = 0
        · exact decode_ok b o n c zs w hb hn (by omega) hc h47 hs hr _ rfl h0
        · exact decode_fault b o n c zs w hb hn (by omega) hc h47 hs hr _ rfl h0
    · exact decode_sum b o n c zs w hb hn (by omega) hc h47 hs

end Go.Proofs.Ytgmpablmkpamaaa
