/-
  The program's find: where each run of a file stands.
-/
import Derived.Test.YtdilpebhecmjmaaDelFind
namespace Go.Proofs.Ytdilpebhecmjmaa
open Go.RowKit
set_option linter.unusedVariables false
set_option linter.unusedSimpArgs false

theorem Grp.mono {w : World} {base b K K' : Nat} {M : List Int → List Int} (h : Grp w base b K M) (hK : K ≤ K') : Grp w base b K' M := by
  obtain ⟨es, clock, h1, h2, h3, h4⟩ := h
  exact ⟨es, clock, h1, h2, by omega, h4⟩
theorem Grp.only {w w' : World} {base b K : Nat} {M : List Int → List Int} {S : Nat → Prop} (h : Grp w base b K M) (ho : Only S w w') (hb : ¬ S b) (hS : ∀ j, S j → j < base) : Grp w' base b K M := by
  have hlt := h.lt
  obtain ⟨es, clock, h1, h2, h3, h4, h5, h6⟩ := h
  refine ⟨es, clock, (ho.block b hlt hb).trans h1, h2, h3, fun x hx => ?_, h5, h6⟩
  obtain ⟨kb, A, n, c, k1, k2, k3, k4⟩ := h4 x hx
  exact ⟨kb, A, n, c, k1, k2, k3, k4.only ho (fun j hj e => by have := (k4.lt j hj).1; have := hS j e; omega)⟩
/-- what find answers -/
def RetFd (w : World) (A : Option Addr) (n c : Nat) (file : List Int) (e : Ending) (w' : World) : Prop :=
  ∃ b base, e = .returned (.agg #[.slice A n c, .map (some b)]) ∧ Grp w' base b n (plM file n) ∧ Below w.heap.size w w'

/-- how far the walk has come -/
def FdX (w : World) (A : Option Addr) (n c : Nat) (file : List Int) (h hb hr : Nat) (i : Value) (wr : World) : Prop :=
  ∃ k : Nat, k ≤ n ∧ i = .int .i64 k ∧ Grp wr (hr + 1) hb k (plM file k) ∧ Bx 45 wr h #[.slice none 0 0, .map none] ∧ Bx 45 wr hr #[.slice A n c, .map (some hb)] ∧ Below w.heap.size w wr

set_option maxRecDepth 100000 in
set_option maxHeartbeats 16000000 in
theorem find_any (A : Option Addr) (n c : Nat) (file : List Int) (w : World) (ha : Ls byS w A file) (hn : file.length = n) (hc : n ≤ c) (h48 : n ≤ 2048) (hz : ∀ z ∈ file, 0 ≤ z ∧ z ≤ 255) :
    Calls Try.prog 20 #[.slice A n c] w (RetFd w A n c file) := by
  have HA := Lib.hid ha
  have HN := Lib.hid hn
  have HZ := Lib.hid hz
  have hmm := @run_makeMap Try.prog
  obtain ⟨h, hh⟩ : ∃ h, h = w.heap.size := ⟨_, rfl⟩
  obtain ⟨hb, hhb⟩ : ∃ hb, hb = h + 1 := ⟨_, rfl⟩
  obtain ⟨hr, hhr⟩ : ∃ hr, hr = hb + 1 := ⟨_, rfl⟩
  obtain ⟨w3, hw3⟩ : ∃ w3, w3 = ((w.alloc (.cells #[.slice none 0 0, .map none] 45)).alloc (.map #[] 0)).alloc (.cells #[.slice A n c, .map (some hb)] 45) := ⟨_, rfl⟩
  have HH := Lib.hid hh
  have HHB := Lib.hid hhb
  have HHR := Lib.hid hhr
  have HB3 : Hid (Below w.heap.size w w3) := Lib.hid (by rw [hw3]; exact bthen (ba2 _ _ _) (ba1 _ _))
  have HG3 : Hid (Grp w3 (hr + 1) hb 0 (plM file 0)) := Lib.hid (by
    have := grp_made (w.alloc (.cells #[.slice none 0 0, .map none] 45)) (hr + 1)
    rw [show (w.alloc (.cells #[.slice none 0 0, .map none] 45)).heap.size = hb by simp [hhb, hh]] at this
    rw [hw3]; exact this.below (ba1 _ _))
  have HX1 : Hid (Bx 45 w3 h #[.slice none 0 0, .map none]) := Lib.hid (by rw [hw3, hh]; exact ((bx_new w _ _).below (ba1 _ _)).below (ba1 _ _))
  have HX2 : Hid (Bx 45 w3 hr #[.slice A n c, .map (some hb)]) := Lib.hid (by
    have := bx_new ((w.alloc (.cells #[.slice none 0 0, .map none] 45)).alloc (.map #[] 0)) 45 #[.slice A n c, .map (some hb)]
    rw [show ((w.alloc (.cells #[.slice none 0 0, .map none] 45)).alloc (.map #[] 0)).heap.size = hr by simp [hhr, hhb, hh]] at this
    rw [hw3]; exact this)
  clear ha hn hz
  go_enter Try.func20, Try.ntmps20
  go_wp2
  rw [← hh, ← hhb, ← hhr, ← hw3]
  clear hh hhb hhr hw3 hmm
  go_loopw [4] (fun i wr => FdX w A n c file h hb hr i wr) (fun i _ => n - (intOf i).toNat)
  case atStart => exact ⟨0, Nat.zero_le _, rfl, HG3.out, HX1.out, HX2.out, HB3.out⟩
  case round =>
    obtain ⟨k, hk, rfl, hg, hx1, hx2, hbw⟩ := hrel
    have HG := Lib.hid hg
    have HY1 := Lib.hid hx1
    have HY2 := Lib.hid hx2
    have HBW := Lib.hid hbw
    have r0 := hx1.cell 0 _ rfl
    have r1 := hx1.cell 1 _ rfl
    have q0 := hx2.cell 0 _ rfl
    have q1 := hx2.cell 1 _ rfl
    have f0 := hx1.soft 0
    have f1 := hx1.soft 1
    have hl1 := hx1.lt
    have hl2 := hx2.lt
    clear hg hx1 hx2 hbw
    have hw8 : IntKind.i64.wrap ((k : Int) + 8) = (k : Int) + 8 := by rw [IntKind.wrap_i64]; omega
    by_cases h8 : k + 8 ≤ n
    · have h8i : (k : Int) + 8 ≤ (n : Int) := by omega
      obtain ⟨a0, a1, a2, a3, a4, a5, a6, a7, ht8, e0, e1, e2, e3, e4, e5, e6, e7⟩ := take8 file k (by rw [HN.out]; exact h8)
      have HK8 : Hid (Key8 [a0, a1, a2, a3, a4, a5, a6, a7]) := Lib.hid ⟨rfl, fun z hz => HZ.out z (List.mem_of_mem_drop (List.mem_of_mem_take (by rw [ht8]; exact hz)))⟩
      have HST : Hid (plM file (k + 1) = updM (plM file k) [a0, a1, a2, a3, a4, a5, a6, a7] (plM file k [a0, a1, a2, a3, a4, a5, a6, a7] ++ [(k : Int)])) := Lib.hid (by rw [plM_step file k (by rw [HN.out]; exact h8), ht8])
      rcases (HA.out.below HBW.out).all (fun z => .int .u8 z) (fun _ => rfl) with hnil | ⟨bA, oA, rfl, hbA, hcA⟩
      · rw [hnil] at e0; simp at e0
      have g0 := hcA k a0 e0
      have g1 := hcA _ a1 e1
      have g2 := hcA _ a2 e2
      have g3 := hcA _ a3 e3
      have g4 := hcA _ a4 e4
      have g5 := hcA _ a5 e5
      have g6 := hcA _ a6 e6
      have g7 := hcA _ a7 e7
      simp only [← Nat.add_assoc] at g0 g1 g2 g3 g4 g5 g6 g7
      have hck : ¬ c = k := by omega
      have hnk : ¬ n - k < 8 := by omega
      have v1 : (0 : Int) ≤ (k : Int) := by omega
      have v2 : (k : Int) ≤ (n : Int) := by omega
      obtain ⟨q9, hq9⟩ : ∃ q, q = wr.heap.size := ⟨_, rfl⟩
      obtain ⟨w6, hw6⟩ : ∃ w6, w6 = wr.alloc (.cells #[.int .u8 a0, .int .u8 a1, .int .u8 a2, .int .u8 a3, .int .u8 a4, .int .u8 a5, .int .u8 a6, .int .u8 a7] 53) := ⟨_, rfl⟩
      have HB6 : Hid (Below wr.heap.size wr w6) := Lib.hid (by rw [hw6]; exact ba1 _ _)
      have HX9 : Hid (Bx 53 w6 q9 #[.int .u8 a0, .int .u8 a1, .int .u8 a2, .int .u8 a3, .int .u8 a4, .int .u8 a5, .int .u8 a6, .int .u8 a7]) := Lib.hid (by rw [hw6, hq9]; exact bx_new _ _ _)
      clear hcA ht8 e0 e1 e2 e3 e4 e5 e6 e7
      go_upto_region 6 with (refine wpList_toArr rfl _ (.tmp 18) rfl _ _ _ rfl hnk ?_)
      rw [← hw6, ← hq9]
      clear hw6 hq9 g0 g1 g2 g3 g4 g5 g6 g7
      have y0 := HX9.out.cell 0 _ rfl
      have y1 := HX9.out.cell 1 _ rfl
      have y2 := HX9.out.cell 2 _ rfl
      have y3 := HX9.out.cell 3 _ rfl
      have y4 := HX9.out.cell 4 _ rfl
      have y5 := HX9.out.cell 5 _ rfl
      have y6 := HX9.out.cell 6 _ rfl
      have y7 := HX9.out.cell 7 _ rfl
      have p1 : w6.cell? ⟨hr, 1, none⟩ = some (.map (some hb)) := (HY2.out.below HB6.out).cell 1 _ rfl
      have hlhr := (HY2.out.below HB6.out).lt
      have hl9 := HX9.out.lt
      have HLB := Lib.hid HG.out.lt
      obtain ⟨A4, n4, c4, st, w8, hrun, hon, hsz, hown, hback⟩ := ((HG.out.below HB6.out).below (ba1 w6 (.cells #[.int .i64 (k : Int)] 3))).entry (by rw [HHR.out]; omega) (by omega) HK8.out
      have hrun' : (Instr.mapEntry 43 (.map (some hb)) (.agg #[.int .u8 a0, .int .u8 a1, .int .u8 a2, .int .u8 a3, .int .u8 a4, .int .u8 a5, .int .u8 a6, .int .u8 a7])).run Try.prog (w6.alloc (.cells #[.int .i64 (k : Int)] 3)) = .ok (.tuple #[.slice A4 n4 c4, .int .i64 st]) w8 := hrun
      have HON : Hid (Only (fun j => j = hb) (w6.alloc (.cells #[.int .i64 (k : Int)] 3)) w8) := Lib.hid hon
      have HSZ := Lib.hid hsz
      have HOW := Lib.hid hown
      have HBK := Lib.hid hback
      have hn4 : n4 ≤ 2048 := by
        have h1 := hown.1
        have h2 := placesT_len file [a0, a1, a2, a3, a4, a5, a6, a7] k
        unfold plM at h1
        rw [List.length_map] at h1
        omega
      have HLN : Hid (Ls inS w8 (some ⟨w6.heap.size, 0, none⟩) [(k : Int)]) := Lib.hid ((ls_new w6 _ [(k : Int)] _ rfl _ rfl).only hon (fun a ha e => by injection ha with ha; subst ha; have := HLB.out; have := HB6.out.size; simp only at e; omega))
      have HW8 : Hid (Below w.heap.size w w8) := Lib.hid (by
        have z1 := HBW.out.size
        have z2 := HB6.out.size
        have hhb' := HHB.out
        have hh' := HH.out
        exact (bthen (bthen HBW.out HB6.out) (ba1 _ _)).trans (hon.below (fun j hj => by omega) (by simp; omega)))
      have HHI : Hid (hr + 1 ≤ w8.heap.size) := Lib.hid (by rw [hsz]; have := hlhr; simp; omega)
      clear hrun hon hsz hown hback
      go_wp2_with (at_builtin; refine wpList_appL (F := inS) rfl _ (.tmp 24) (.tmp 26) 32 rfl _ 8 Try.underlying32 inInfo rfl (hr + 1) A4 n4 c4 _ rfl HOW.out (some ⟨w6.heap.size, 0, none⟩) 1 1 [(k : Int)] rfl HLN.out rfl (n4 + 1) rfl (by omega) (by omega) HHI.out ?_; intro A9 c9 w9 ho9 hb9 hs9; obtain ⟨w10, er, eg, eo, ez⟩ := HBK.out w9 A9 (n4 + 1) c9 _ (hs9.only hb9) ho9 (fun j hj => hs9.own j hj); have er' : (Instr.entryStore 43 (.map (some hb)) (.int .i64 st) (.slice A9 (n4 + 1) c9)).run Try.prog w9 = .ok () w10 := er; have EG := Lib.hid eg; have EO := Lib.hid eo; have HO9 := Lib.hid (hs9.only hb9); have HB9 := Lib.hid hb9; clear er eg eo ez ho9 hb9 hs9)
      have z1 := HBW.out.size
      have z2 := HB6.out.size
      have z3 := HSZ.out
      have z4 := HB9.out.size
      have hhb' := HHB.out
      have hh' := HH.out
      have hhr' := HHR.out
      have hA4 : ∀ j, (Value.slice A4 n4 c4).ownBlock = some j → hr + 1 ≤ j := fun j hj => (HOW.out.lt j hj).1
      have hmv : ∀ {B : Nat} {cs : Array Value}, Bx 45 wr B cs → B ≠ hb → B ≤ hr → Bx 45 w10 B cs := fun hx h1 h2 =>
        (((((hx.below HB6.out).below (ba1 _ _)).only HON.out h1).only HO9.out (fun e => by have := hA4 _ e; omega)).only EO.out h1)
      refine ⟨⟨k + 1, by omega, by first | rfl | go_num, by rw [HST.out]; exact EG.out, hmv HY1.out (by omega) (by omega), hmv HY2.out (by omega) (by omega), ?_⟩, by simp [intOf]; omega⟩
      exact (HW8.out.trans (HO9.out.below (B := w.heap.size) (fun j hj => by have := hA4 j hj; omega) (by simp at z3; omega))).trans (EO.out.below (fun j hj => by omega) (by simp at z3; omega))
    · have h8i : ¬ (k : Int) + 8 ≤ (n : Int) := by omega
      have HPE : Hid (plM file n = plM file k) := Lib.hid (plM_end file k (by rw [HN.out]; omega) n hk)
      go_wp2
      have hx3 := ((HY1.out.set 0 (.slice A n c)).set 1 (.map (some hb)))
      have hh' := HH.out
      have hhb' := HHB.out
      have hhr' := HHR.out
      have c0 := hx3.cell 0 (.slice A n c) rfl
      have c1 := hx3.cell 1 (.map (some hb)) rfl
      have hon : Only (fun j => j = h) wr ((wr.setCell ⟨h, 0, none⟩ (.slice A n c)).setCell ⟨h, 1, none⟩ (.map (some hb))) := Only.setCell (Only.setCell (Only.refl (fun j => j = h) wr) (.inl rfl) _) (.inl rfl) _
      refine end_ret (v := .agg #[.slice A n c, .map (some hb)]) (by simp [results, Try.results20, go_sem, c0, c1]) ?_
      refine ⟨hb, hr + 1, rfl, ?_, HBW.out.trans (hon.below (fun j hj => by omega) HBW.out.size)⟩
      rw [HPE.out]
      exact (HG.out.mono hk).only hon (by omega) (fun j hj => by omega)

end Go.Proofs.Ytdilpebhecmjmaa
