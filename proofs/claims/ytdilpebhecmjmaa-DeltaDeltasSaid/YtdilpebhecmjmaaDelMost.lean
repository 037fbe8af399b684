/-
  The program's most: from where on most of some bytes stand in a file.
-/
import Derived.Test.YtdilpebhecmjmaaDelFind2
namespace Go.Proofs.Ytdilpebhecmjmaa
open Go.RowKit
set_option linter.unusedVariables false
set_option linter.unusedSimpArgs false

/-- what most answers -/
def RetMo (w : World) (r : Nat × Nat) (e : Ending) (w' : World) : Prop := e = .returned (.tuple #[.int .i64 (r.1 : Nat), .int .i64 (r.2 : Nat)]) ∧ Below w.heap.size w w'
/-- how far the walk has come -/
def MoX (w : World) (file b : List Int) (ps : List Nat) (n4 : Nat) (q9 : Nat) (cs : Array Value) (fr mo i : Value) (wr : World) : Prop :=
  ∃ k f m : Nat, k ≤ n4 ∧ i = .int .i64 k ∧ fr = .int .i64 f ∧ mo = .int .i64 m ∧ (f, m) = foldT file b (ps.take k) (0, 0) ∧ Bx 45 wr q9 cs ∧ Below w.heap.size w wr

set_option maxRecDepth 100000 in
set_option maxHeartbeats 16000000 in
theorem most_any (A : Option Addr) (n c : Nat) (file : List Int) (hb base K : Nat) (B : Option Addr) (m d : Nat) (b : List Int) (w : World) (ha : Ls byS w A file) (hn : file.length = n) (hc : n ≤ c) (h48 : n ≤ 2048)
    (hg : Grp w base hb K (plM file n)) (hB : Ls byS w B b) (hm : b.length = m) (hm4 : m ≤ 4096) (hz : ∀ z ∈ b, 0 ≤ z ∧ z ≤ 255) :
    Calls Try.prog 21 #[.agg #[.slice A n c, .map (some hb)], .slice B m d] w (RetMo w (mostT file b)) := by
  obtain ⟨r, hr⟩ : ∃ r, r = mostT file b := ⟨_, rfl⟩
  rw [← hr]
  have HR := Lib.hid hr
  have HA := Lib.hid ha
  have HN := Lib.hid hn
  have HG := Lib.hid hg
  have HB := Lib.hid hB
  have HM := Lib.hid hm
  have HZ := Lib.hid hz
  clear ha hn hg hB hm hz hr
  by_cases h8 : m < 8
  · have HE : Hid (r = (0, 0)) := Lib.hid (by rw [HR.out]; exact mostT_short _ _ (by rw [HM.out]; exact h8))
    have h8i : (m : Int) < 8 := by omega
    go_enter Try.func21, Try.ntmps21
    go_wp2
    go_ret2
    exact ⟨by rw [HE.out]; rfl, ba1 _ _⟩
  · have h8i : ¬ (m : Int) < 8 := by omega
    obtain ⟨a0, a1, a2, a3, a4, a5, a6, a7, ht8, e0, e1, e2, e3, e4, e5, e6, e7⟩ := take8 b 0 (by rw [HM.out]; omega)
    rw [List.drop_zero] at ht8
    simp only [Nat.zero_add] at e0 e1 e2 e3 e4 e5 e6 e7
    have HK8 : Hid (Key8 [a0, a1, a2, a3, a4, a5, a6, a7]) := Lib.hid ⟨rfl, fun z hz => HZ.out z (List.mem_of_mem_take (by rw [ht8]; exact hz))⟩
    obtain ⟨ps, hps⟩ : ∃ ps, ps = placesT file [a0, a1, a2, a3, a4, a5, a6, a7] n := ⟨_, rfl⟩
    have HF : Hid (r = foldT file b ps (0, 0)) := Lib.hid (by rw [HR.out, hps, ← ht8, ← fold_most file b (by rw [HM.out]; omega), HN.out])
    have HPI : Hid (∀ i ∈ ps, i + 8 ≤ n) := Lib.hid fun i hi => by rw [hps] at hi; have := placesT_in hi; rw [HN.out] at this; exact this
    obtain ⟨q9, hq9⟩ : ∃ q, q = w.heap.size := ⟨_, rfl⟩
    obtain ⟨w1, hw1⟩ : ∃ w1, w1 = w.alloc (.cells #[.slice A n c, .map (some hb)] 45) := ⟨_, rfl⟩
    have HB1 : Hid (Below w.heap.size w w1) := Lib.hid (by rw [hw1]; exact ba1 _ _)
    have HX1 : Hid (Bx 45 w1 q9 #[.slice A n c, .map (some hb)]) := Lib.hid (by rw [hw1, hq9]; exact bx_new _ _ _)
    rcases (HB.out.below HB1.out).all (fun z => .int .u8 z) (fun _ => rfl) with hnil | ⟨bA, oA, rfl, hbA, hcA⟩
    · rw [hnil] at e0; simp at e0
    have g0 := hcA 0 a0 e0
    have g1 := hcA _ a1 e1
    have g2 := hcA _ a2 e2
    have g3 := hcA _ a3 e3
    have g4 := hcA _ a4 e4
    have g5 := hcA _ a5 e5
    have g6 := hcA _ a6 e6
    have g7 := hcA _ a7 e7
    simp only [Nat.add_zero] at g0
    obtain ⟨A4, n4, c4, hrun, hl4, hn4⟩ := (HG.out.below HB1.out).look HK8.out
    have hrun' : ∀ q, (Instr.lookup 43 (.map (some hb)) (.agg #[.int .u8 a0, .int .u8 a1, .int .u8 a2, .int .u8 a3, .int .u8 a4, .int .u8 a5, .int .u8 a6, .int .u8 a7]) false).run Try.prog (w1.drewN q) = .ok (.slice A4 n4 c4) (w1.drewN q) := fun q => hrun (w1.drewN q) ((below_drewN (Below.refl (w1.heap.size) w1) q).block hb (HG.out.below HB1.out).lt)
    have harr : ∀ w', (Instr.arrayAt 53 (.slice (some ⟨bA, oA, none⟩) m d)).run Try.prog w' = .ok (.pointer (some ⟨bA, oA, none⟩)) w' := fun w' => by
      simp [Instr.arrayAt, run_underlying Try.underlying53, h8, Result.andThen]
    have HL4 : Hid (Ls inS w1 A4 (ps.map fun i => ((i : Nat) : Int))) := Lib.hid (by rw [hps]; exact hl4)
    have HN4 : Hid (ps.length = n4) := Lib.hid (by rw [hps, ← hn4]; unfold plM; rw [List.length_map])
    have hn42 : n4 ≤ 2048 := by
      have := placesT_len file [a0, a1, a2, a3, a4, a5, a6, a7] n
      rw [← hps, HN4.out] at this; omega
    have y0 := HX1.out.cell 0 _ rfl
    have y1 := HX1.out.cell 1 _ rfl
    have hq9l := HX1.out.lt
    have hm8 : ¬ m < 8 := h8
    clear hrun hl4 hn4 hps hcA e0 e1 e2 e3 e4 e5 e6 e7 ht8
    go_enter Try.func21, Try.ntmps21
    go_upto_region 4 with fail
    rw [← hw1, ← hq9]
    clear hw1 hq9
    go_quiet (fail)
    clear g0 g1 g2 g3 g4 g5 g6 g7 hrun' harr
    obtain ⟨w2, hw2⟩ : ∃ w2, w2 = w1.drewN nq := ⟨_, rfl⟩
    have HB2 : Hid (Below w1.heap.size w1 w2) := Lib.hid (by rw [hw2]; exact below_drewN (Below.refl _ _) _)
    rw [← hw2]
    have HX2 := Lib.hid (HX1.out.below HB2.out)
    have HL2 := Lib.hid (HL4.out.below HB2.out)
    clear hw2 y0 y1 hq9l
    go_wp2
    go_loopw [6, 7, 21] (fun fr mo i wr => MoX w2 file b ps n4 q9 #[.slice A n c, .map (some hb)] fr mo i wr) (fun _ _ i _ => n4 - (intOf i).toNat)
    case atStart => exact ⟨0, 0, 0, Nat.zero_le _, rfl, rfl, rfl, rfl, HX2.out, Below.refl _ _⟩
    case round =>
      obtain ⟨k, f, mm, hk, rfl, rfl, rfl, hfm, hx2, hbw⟩ := hrel
      have HFM := Lib.hid hfm
      have HX3 := Lib.hid hx2
      have HBW := Lib.hid hbw
      have y0 := hx2.cell 0 _ rfl
      have hq9l := hx2.lt
      clear hfm hx2 hbw
      by_cases hlt : k < n4
      · obtain ⟨i, hi⟩ : ∃ i, ps[k]? = some i := ⟨_, List.getElem?_eq_getElem (by rw [HN4.out]; exact hlt)⟩
        obtain ⟨b4, o4, rfl, hb4, hc4⟩ := (HL2.out.below HBW.out).one k ((i : Nat) : Int) (by rw [List.getElem?_map, hi]; rfl) rfl (.int .i64 ((i : Nat) : Int)) rfl
        have hki : (k : Int) < (n4 : Int) := by omega
        have hi8 := HPI.out i (List.mem_of_getElem? hi)
        have hci : ¬ c = i := by omega
        have v1 : (0 : Int) ≤ (i : Int) := by omega
        have v2 : (i : Int) ≤ (n : Int) := by omega
        have HTK := Lib.hid (foldT_take file b ps k i (0, 0) hi)
        rw [← HFM.out] at HTK
        obtain ⟨R, hR⟩ : ∃ R, R = alikeT (file.drop i) b := ⟨_, rfl⟩
        have HAL : Hid (∀ w', Below w2.heap.size w2 w' → Calls Try.prog 24 #[.slice (A.map fun x => x.add i) (n - i : Nat) (c - i : Nat), .slice (some ⟨bA, oA, none⟩) m d] w' fun e w'' => e = .returned (.int .i64 (R : Nat)) ∧ Below w'.heap.size w' w'') := Lib.hid fun w' hb' => by
          rw [hR]
          have hb3 : Below w.heap.size w w' := bthen (bthen HB1.out HB2.out) hb'
          exact alike_any _ _ _ _ m d _ b w' (ls_add (HA.out.below hb3) i) (HB.out.below hb3) (by rw [List.length_drop, HN.out]) HM.out (by omega)
        rw [← hR] at HTK
        clear hi hR
        by_cases hmr : mm < R
        · have hmi : (mm : Int) < (R : Int) := by omega
          have HE : Hid ((i, R) = foldT file b (ps.take (k + 1)) (0, 0)) := Lib.hid (by rw [HTK.out, if_pos hmr])
          clear hmr
          go_wp2_with (go_at_call 24; (refine (HAL.out wr HBW.out).mono ?_); rintro e w5 ⟨rfl, hb5⟩; have HB5 := Lib.hid hb5; clear hb5)
          refine ⟨⟨k + 1, i, R, by omega, by first | rfl | go_num, rfl, rfl, HE.out, HX3.out.below HB5.out, bthen HBW.out HB5.out⟩, by simp [intOf]; omega⟩
        · have hmi : ¬ (mm : Int) < (R : Int) := by omega
          have HE : Hid ((f, mm) = foldT file b (ps.take (k + 1)) (0, 0)) := Lib.hid (by rw [HTK.out, if_neg hmr])
          clear hmr
          go_wp2_with (go_at_call 24; (refine (HAL.out wr HBW.out).mono ?_); rintro e w5 ⟨rfl, hb5⟩; have HB5 := Lib.hid hb5; clear hb5)
          refine ⟨⟨k + 1, f, mm, by omega, by first | rfl | go_num, rfl, rfl, HE.out, HX3.out.below HB5.out, bthen HBW.out HB5.out⟩, by simp [intOf]; omega⟩
      · obtain rfl : k = n4 := by omega
        have hki : ¬ (k : Int) < (k : Int) := by omega
        have HE : Hid (r = (f, mm)) := Lib.hid (by rw [HF.out, HFM.out, List.take_of_length_le (by rw [HN4.out]; exact Nat.le_refl _)])
        go_wp2
        go_ret2
        exact ⟨by rw [HE.out]; rfl, bthen (bthen HB1.out HB2.out) HBW.out⟩

end Go.Proofs.Ytdilpebhecmjmaa
