/-
  The document's Outlet: polls (what is sent now).
-/
import Derived.Test.YtehckiihipnimaaOutletPut
import Derived.Test.YtehckiihipnimaaBox7
import Derived.Laws.NewBlocks
import Derived.Deep.DeepCutAuto
import Derived.Deep.CutBlock
import Derived.Deep.RegionLaw
import Derived.Deep.RegionHeld3
namespace Go.Proofs.Ytehckiihipnimaa
open Go.RowKit
set_option linter.unusedVariables false
set_option linter.unusedSimpArgs false

def stC (t : St) (A : Option Addr) (n c : Nat) : Array Value := #[.int .i64 t.code, .int .i64 t.at_, .slice A n c, .bool t.fin, .bool t.again, .bool t.idle, .int .i64 t.left]
/-- what is told, as a value: its bytes are a row of its own -/
def RetP (w : World) (T : Nat → Prop) (B : Nat) (r : St × Sd) (e : Ending) (w' : World) : Prop :=
  ∃ A n c, e = .returned (.agg (stC r.1 A n c)) ∧ OwnL byS 5 w' w.heap.size A n c r.1.data ∧ Outl w' T B r.2 ∧ Only (fun k => k = B) w w'

theorem run_no (s : Sd) (ag : Bool) (li : Int) (f n m : Nat) (h : ¬ goes s ag li n) : run s ag li f n m = (m, false) := by
  cases f with
  | zero => rfl
  | succ f => unfold run; rw [if_neg h]
theorem run_fin (s : Sd) (ag : Bool) (li : Int) (f n m : Nat) (h : goes s ag li n) (hn : n = s.data.length) (hf : 0 < f) : run s ag li f n m = (m, true) := by
  obtain ⟨f, rfl⟩ : ∃ g, f = g + 1 := ⟨f - 1, by omega⟩
  unfold run; rw [if_pos h, if_pos hn]
theorem run_64 (s : Sd) (ag : Bool) (li : Int) (f n : Nat) (h : goes s ag li n) (hn : ¬ n = s.data.length) (hf : 0 < f) : run s ag li f n 64 = (64, false) := by
  obtain ⟨f, rfl⟩ : ∃ g, f = g + 1 := ⟨f - 1, by omega⟩
  unfold run; rw [if_pos h, if_neg hn, if_pos rfl]
theorem run_on (s : Sd) (ag : Bool) (li : Int) (n m : Nat) (h : goes s ag li n) (hn : ¬ n = s.data.length) (hm : m < 64) : run s ag li (66 - m) n m = run s ag li (66 - (m + 1)) (n + 1) (m + 1) := by
  conv => lhs; rw [show 66 - m = (66 - (m + 1)) + 1 by omega]; unfold run
  rw [if_pos h, if_neg hn, if_neg (by omega)]
theorem take_on {l : List Int} {a m : Nat} {x : Int} (h : l[a + m]? = some x) : (l.drop a).take (m + 1) = (l.drop a).take m ++ [x] := by
  rw [List.take_add_one, List.getElem?_drop, h]; rfl

def PoI (s : Sd) (ag : Bool) (li : Int) (at_ m : Nat) (fin : Bool) (w1 : World) (q6 : Nat) (i : Value) (wr : World) : Prop :=
  ∃ (m' : Nat) (fin' : Bool) (A : Option Addr) (c : Nat), i = .int .i64 ((at_ + m' + (if fin' then 1 else 0) : Nat) : Int) ∧ m' ≤ 64 ∧ (m' = 0 ∨ at_ + m' ≤ s.data.length) ∧ OwnL byS 5 wr (q6 + 1) A m' c ((s.data.drop at_).take m') ∧
    Bx 29 wr q6 #[.int .i64 0, .int .i64 at_, .slice A m' c, .bool fin', .bool ag, .bool false, .int .i64 0] ∧ (if fin' then m = m' ∧ fin = true else (m, fin) = run s ag li (66 - m') (at_ + m') m') ∧ Below w1.heap.size w1 wr
def PoX (s : Sd) (ag : Bool) (at_ m : Nat) (fin : Bool) (tz : Nat) (w1 : World) (q6 : Nat) (i : Value) (wr : World) : Prop :=
  ∃ (A : Option Addr) (c : Nat), i = .int .i64 (tz : Nat) ∧ (m = 0 ∨ at_ + m ≤ s.data.length) ∧ OwnL byS 5 wr (q6 + 1) A m c ((s.data.drop at_).take m) ∧
    Bx 29 wr q6 #[.int .i64 0, .int .i64 at_, .slice A m c, .bool fin, .bool ag, .bool false, .int .i64 0] ∧ Below w1.heap.size w1 wr
theorem HH (w : World) (T : Nat → Prop) (B : Nat) (s : Sd) (h : Outl w T B s) (hok : SdOk s) (n : Nat) (b : Bool) (hb : hd s.known n = b) (hn : n ≤ 1048577) :
    Calls Try.prog 54 #[.pointer (some ⟨B, 0, none⟩), .int .i64 n] w fun e w' => e = .returned (.bool b) ∧ w = w' := by
  rw [← hb]; exact (oheard_any w T B s n h hok hn).mono fun e w' g => ⟨g.1, g.2.symm⟩
theorem HP (w : World) (T : Nat → Prop) (B : Nat) (s : Sd) (h : Outl w T B s) (hok : SdOk s) (p : Nat) (hp : p = places s) :
    Calls Try.prog 55 #[.pointer (some ⟨B, 0, none⟩)] w fun e w' => e = .returned (.int .i64 p) ∧ w = w' := by
  rw [hp]; exact (oplaces_any w T B s h hok).mono fun e w' g => ⟨g.1, g.2.symm⟩

set_option maxRecDepth 100000 in
set_option maxHeartbeats 20000000 in
theorem polls_any (w : World) (T : Nat → Prop) (B : Nat) (s : Sd) (h : Outl w T B s) (hok : SdOk s) :
    Calls Try.prog 56 #[.pointer (some ⟨B, 0, none⟩)] w (RetP w T B (polls s)) := by
  obtain ⟨ag, at_, m, fin, tz, li, hag, hat, hli, hru, hto, hpo, b1, b2, b3, b4, b5, b6⟩ := polls_cases s hok
  obtain ⟨q, hq⟩ : ∃ q, q = polls s := ⟨_, rfl⟩
  rw [← hq] at hpo ⊢
  obtain ⟨D, cd, K, ck, ⟨c0, c1, c2, c3, c4, c5⟩, -, hDr, -⟩ := h.cells
  obtain ⟨sn, hsn⟩ : ∃ a, a = s.sent := ⟨_, rfl⟩
  obtain ⟨td, htd⟩ : ∃ a, a = s.todo := ⟨_, rfl⟩
  obtain ⟨dl, hdl⟩ : ∃ a, a = s.data.length := ⟨_, rfl⟩
  obtain ⟨ed, hed⟩ : ∃ a, a = s.edge := ⟨_, rfl⟩
  have hts : td ≤ sn := by rw [htd, hsn]; exact hok.todo
  have hd1 : dl ≤ 1048575 := by rw [hdl]; exact hok.len
  have hpl : dl ≤ places s ∧ places s ≤ dl + 1 := by rw [hdl]; exact places_le s
  have hsp : sn ≤ places s := by rw [hsn]; exact hok.sent
  have hed1 : 0 ≤ ed ∧ ed ≤ 1114112 := by rw [hed]; exact ⟨hok.e0, hok.e1⟩
  obtain ⟨pl, hp⟩ : ∃ p, p = places s := ⟨_, rfl⟩
  rw [← hp] at hpl hsp b5
  rw [← hsn] at c3 hag hat hli b1 b6 hpo
  rw [← htd] at c5 hag hat
  rw [← hdl] at c0 b3 b4
  rw [← hed] at c2 hli
  have H := Lib.hid h
  have HOK := Lib.hid hok
  have HPL := Lib.hid hp
  have HDL := Lib.hid hdl
  have HPO := Lib.hid hpo
  have HRU := Lib.hid hru
  have HTO := Lib.hid hto
  have HAG := Lib.hid hag
  have HAT := Lib.hid hat
  have HLI := Lib.hid hli
  have HSE := Lib.hid hsn
  have HED := Lib.hid hed
  have hB := h.lt
  have B4 := Lib.hid b4
  have B6 := Lib.hid b6
  clear h hok hp hdl hpo hru hto hag hat hli hsn htd hed hDr hq b4 b6
  go_enter Try.func56, Try.ntmps56
  go_wp2_with fail
  obtain ⟨q2, hq2⟩ : ∃ q2, q2 = w.heap.size := ⟨_, rfl⟩
  obtain ⟨w1, hw1⟩ : ∃ w1, w1 = w.alloc (.cells #[.int .i64 0, .int .i64 0, .slice none 0 0, .bool false, .bool false, .bool false, .int .i64 0] 29) := ⟨_, rfl⟩
  have HX1 : Hid (Bx 29 w1 q2 #[.int .i64 0, .int .i64 0, .slice none 0 0, .bool false, .bool false, .bool false, .int .i64 0]) := Lib.hid (by rw [hw1, hq2]; exact bx_new _ _ _)
  have HB1 : Hid (Below w.heap.size w w1) := Lib.hid (by rw [hw1]; exact ba1 _ _)
  have HO1 : Hid (Outl w1 (fun k => T k ∨ w.heap.size ≤ k) B s) := Lib.hid (H.out.only (S := fun _ => False) (only_new HB1.out) (fun _ h => h.elim) (fun k hk => hk))
  have hqB : ¬ q2 = B := by omega
  have HQ2 := Lib.hid hq2
  rw [← hw1, ← hq2]
  clear hw1 hq2 c0 c1 c2 c3 c4 c5
  obtain ⟨D, cd, K, ck, ⟨c0, c1, c2, c3, c4, c5⟩, -, hDr, -⟩ := HO1.out.cells
  have HDr := Lib.hid hDr
  rw [← HSE.out] at c3
  rw [← HDL.out] at c0
  rw [← HED.out] at c2
  go_loop [3] (fun i => ∃ k : Nat, td ≤ k ∧ k ≤ sn ∧ i = .int .i64 k ∧ skips s.known sn k = skips s.known sn td) (fun i => sn - (intOf i).toNat)
  case atStart => exact ⟨td, Nat.le_refl _, hts, rfl, rfl⟩
  case round =>
    obtain ⟨k, hk0, hk, rfl, hsk⟩ := hrel
    have hst := skips_step s.known sn k
    rw [hsk] at hst
    by_cases hlt : k < sn
    · have hki : (k : Int) < (sn : Int) := by omega
      rcases hv : hd s.known k with _ | _
      · have hS : skips s.known sn td = k := by rw [hst, if_neg (by rw [hv]; simp)]
        have hA : ag = true := by rw [HAG.out, hS]; simp; omega
        have hAt : at_ = k := by rw [HAT.out, hA, hS]; rfl
        have hLi : (sn : Int) = li := by rw [HLI.out, hA]; rfl
        have HV := Lib.hid hv
        clear hst hsk hS
        subst hA
        subst hAt
        subst hLi
        clear HAG HAT HLI hv
        go_upto_block 2 with (go_at_call 54; refine (HH _ _ B s HO1.out HOK.out at_ false HV.out (by omega)).mono ?_; rintro e wx ⟨rfl, rfl⟩)
        obtain ⟨q6, hq6⟩ : ∃ q6, q6 = w1.heap.size := ⟨_, rfl⟩
        obtain ⟨w2, hw2⟩ : ∃ w2, w2 = w1.alloc (.cells #[.int .i64 0, .int .i64 at_, .slice none 0 0, .bool false, .bool true, .bool false, .int .i64 0] 29) := ⟨_, rfl⟩
        have HX6 : Hid (Bx 29 w2 q6 #[.int .i64 0, .int .i64 at_, .slice none 0 0, .bool false, .bool true, .bool false, .int .i64 0]) := Lib.hid (by rw [hw2, hq6]; exact bx_new _ _ _)
        have HB2 : Hid (Below w1.heap.size w1 w2) := Lib.hid (by rw [hw2]; exact ba1 _ _)
        have hq62 : q2 < q6 := by have := HX1.out.lt; omega
        have hBq6 : B < q6 := by have := HB1.out.size; omega
        have HQ6 := Lib.hid hq6
        rw [← hw2, ← hq6]
        clear hw2 hq6 c0 c1 c2 c3 c4 c5 hki hlt
        go_cut [7] (fun i wc => PoX s true at_ m fin tz w1 q6 i wc)
        case first =>
          go_wp2_with fail
          go_loopw [7] (fun i wr => PoI s true (sn : Int) at_ m fin w1 q6 i wr) (fun i _ => at_ + 66 - (intOf i).toNat)
          case atStart => exact ⟨0, false, none, 0, rfl, Nat.zero_le _, .inl rfl, OwnL.nil _ _, HX6.out, HRU.out, HB2.out⟩
          case round =>
            obtain ⟨m', fin', A, c, rfl, hm64, hml, hown, hbx, hrun, hbw⟩ := hrel
            have HOW := Lib.hid hown
            have HBX := Lib.hid hbx
            have HBW := Lib.hid hbw
            have HOr : Hid (Outl wr (fun k => T k ∨ w.heap.size ≤ k) B s) := Lib.hid (HO1.out.new hbw)
            have hqr := hbx.lt
            have e2 := hbx.cell 2 (.slice A m' c) rfl
            have e3 := hbx.cell 3 (.bool fin') rfl
            have l2 := hbx.soft 2
            have l3 := hbx.soft 3
            clear hown hbx hbw
            obtain ⟨D2, cd2, K2, ck2, ⟨c0, c1, c2, c3, c4, c5⟩, ⟨-, -, -, f3, -, f5⟩, hDr, -⟩ := HOr.out.cells
            have HDr2 := Lib.hid hDr
            rw [← HSE.out] at c3
            rw [← HDL.out] at c0 hml
            have hBr := HOr.out.lt
            clear hDr
            rcases fin' with _ | _
            · have hrun : (m, fin) = run s true (sn : Int) (66 - m') (at_ + m') m' := hrun
              obtain ⟨n, hn⟩ : ∃ n, n = at_ + m' := ⟨_, rfl⟩
              rw [← hn] at hrun hml
              have hni : (at_ + m' + (if false = true then 1 else 0) : Nat) = n := by simp; omega
              rw [hni]
              have HN := Lib.hid hn
              clear hni
              by_cases hg : goes s true (sn : Int) n
              · obtain ⟨g1, g2, g3⟩ := hg
                rw [← HPL.out] at g2
                have g2i : (n : Int) < (pl : Int) := by omega
                have HG : Hid (goes s true (sn : Int) n) := Lib.hid ⟨g1, by rw [← HPL.out]; exact g2, g3⟩
                have HVn : Hid (hd s.known n = false) := Lib.hid (by rcases hv : hd s.known n with _ | _; rfl; exact absurd ⟨rfl, hv⟩ g3) 
                clear g3
                by_cases he : n = dl
                · have hrr : m = m' ∧ fin = true := by rw [run_fin s true (sn : Int) _ n m' HG.out (by rw [he, HDL.out]) (by omega)] at hrun; injection hrun with h1 h2; exact ⟨h1, h2⟩
                  have HRR := Lib.hid hrr
                  subst he
                  clear hrr hrun hn
                  go_wp2_with (first
                    | (go_at_call 55; refine (HP wr _ B s HOr.out HOK.out pl HPL.out).mono ?_; rintro e wx ⟨rfl, rfl⟩)
                    | (go_at_call 54; refine (HH wr _ B s HOr.out HOK.out n false HVn.out (by omega)).mono ?_; rintro e wx ⟨rfl, rfl⟩))
                  refine ⟨⟨m', true, A, c, ?_, hm64, by rw [← HDL.out]; have := HN.out; omega, ?_, HBX.out.set 3 (.bool true), HRR.out, ?_⟩, by have := HN.out; simp [intOf]; omega⟩
                  · exact congrArg (Value.int .i64) (by have := HN.out; simp; omega)
                  · exact HOW.out.only (only_set wr q6 3 _) (fun k hk hs => by have := (HOW.out.lt k hk).1; omega)
                  · exact HBW.out.setCell (by rw [HQ6.out]; exact Nat.le_refl _) _
                · have he' : ¬ (n : Int) = (dl : Int) := by omega
                  by_cases h64 : m' = 64
                  · have hrr : m = m' ∧ fin = false := by subst h64; rw [run_64 s true (sn : Int) _ n HG.out (by rw [← HDL.out]; exact he) (by omega)] at hrun; injection hrun with h1 h2; exact ⟨h1, h2⟩
                    obtain ⟨rfl, rfl⟩ := hrr
                    have h64i : (m : Int) = 64 := by omega
                    have htn : n = tz := by rw [HTO.out, hn]; simp
                    clear hrun hn
                    subst htn
                    go_wp2_with (first
                      | (go_at_call 55; refine (HP wr _ B s HOr.out HOK.out pl HPL.out).mono ?_; rintro e wx ⟨rfl, rfl⟩)
                      | (go_at_call 54; refine (HH wr _ B s HOr.out HOK.out n false HVn.out (by omega)).mono ?_; rintro e wx ⟨rfl, rfl⟩))
                    go_meet
                    exact ⟨A, c, rfl, by rw [← HDL.out]; have := HN.out; omega, HOW.out, HBX.out, HBW.out⟩
                  · have h64i : ¬ (m' : Int) = 64 := by omega
                    have hrn : (m, fin) = run s true (sn : Int) (66 - (m' + 1)) (n + 1) (m' + 1) := by rw [hrun]; exact run_on s true (sn : Int) n m' HG.out (by rw [← HDL.out]; exact he) (by omega)
                    have HRN := Lib.hid hrn
                    have hnd : n < dl := by omega
                    have hndi : (n : Int) < (dl : Int) := by omega
                    obtain ⟨x, hx⟩ : ∃ x, s.data[n]? = some x := ⟨_, List.getElem?_eq_getElem (by rw [← HDL.out]; exact hnd)⟩
                    obtain ⟨bd, od, rfl, hbd, hcx⟩ := HDr2.out.one n x hx rfl (.int .u8 x) rfl
                    have HXX := Lib.hid hx
                    clear hrn hrun hx hn
                    go_upto_region 15 with (first
                      | (go_at_call 55; refine (HP wr _ B s HOr.out HOK.out pl HPL.out).mono ?_; rintro e wx ⟨rfl, rfl⟩)
                      | (go_at_call 54; refine (HH wr _ B s HOr.out HOK.out n false HVn.out (by omega)).mono ?_; rintro e wx ⟨rfl, rfl⟩))
                    have hd0 := HBX.out.cell 2 (.slice A m' c) rfl
                    have HD1 : Hid (Below wr.heap.size wr wr.drew) := Lib.hid (Below.refl _ _).drew
                    have hsz : q6 + 1 ≤ wr.heap.size := by omega
                    go_region_law (first
                      | (refine step_appL (F := byS) rfl ((wr.drew).alloc (.cells #[.int .u8 x] 5)) (.tmp 84) (.tmp 92) 27 rfl _ 1 Try.underlying27 byInfo rfl (q6 + 1) A m' c ((s.data.drop at_).take m') (by simp [Act.eval, Act.put]) ((HOW.out.below HD1.out).below (ba1 _ _)) (some ⟨wr.heap.size, 0, none⟩) 1 1 [x] (by simp [Act.eval, Act.put]) (ls_new _ _ _ _ rfl _ rfl) rfl (m' + 1) rfl (by omega) (by omega) (by simp; omega) ?_; intro A4 c4 w4 ho4 hb4 hs4; have O4 := Lib.hid ho4; have HB4 : Hid (Below (q6 + 1) wr w4) := Lib.hid (((HD1.out.mono hsz).alloc hsz _).trans hb4); have HX4 := Lib.hid (HBX.out.below' HB4.out (by omega)); have m42 := HX4.out.cell 2 (.slice A m' c) rfl; have f42 := HX4.out.soft 2; clear ho4 hb4 hs4))
                    all_goals
                      go_wp2
                      refine ⟨⟨m' + 1, false, A4, c4, ?_, by omega, by rw [← HDL.out]; have := HN.out; omega, ?_, HX4.out.set 2 (.slice A4 (m' + 1) c4), ?_, ?_⟩, by have := HN.out; simp [intOf]; omega⟩
                      · exact congrArg (Value.int .i64) (by have := HN.out; simp; omega)
                      · rw [take_on (by rw [← HN.out]; exact HXX.out)]
                        exact O4.out.only (only_set _ q6 2 _) (fun k hk hs => by have := (O4.out.lt k hk).1; omega)
                      · have e : at_ + (m' + 1) = n + 1 := by have := HN.out; omega
                        show (m, fin) = run s true (sn : Int) (66 - (m' + 1)) (at_ + (m' + 1)) (m' + 1)
                        rw [e]; exact HRN.out
                      · exact (HBW.out.trans (HB4.out.mono (by rw [← HQ6.out]; omega))).setCell (by rw [HQ6.out]; exact Nat.le_refl _) _
              · have hrr : m = m' ∧ fin = false := by rw [run_no s true (sn : Int) _ n m' hg] at hrun; injection hrun with h1 h2; exact ⟨h1, h2⟩
                obtain ⟨rfl, rfl⟩ := hrr
                have htn : n = tz := by rw [HTO.out, hn]; simp
                clear hrun hn
                subst htn
                have ex : ¬ ((n : Int) < (sn : Int)) ∨ ((n : Int) < (sn : Int) ∧ ¬ n < pl) ∨ ((n : Int) < (sn : Int) ∧ n < pl ∧ true = true ∧ hd s.known n = true) := by
                  by_cases g1 : (n : Int) < (sn : Int)
                  · by_cases g2 : n < pl
                    · refine .inr (.inr ⟨g1, g2, ?_⟩)
                      by_cases g3 : true = true ∧ hd s.known n = true
                      · exact g3
                      · exact absurd ⟨g1, by rw [← HPL.out]; exact g2, g3⟩ hg
                    · exact .inr (.inl ⟨g1, g2⟩)
                  · exact .inl g1
                clear hg
                rcases ex with g1 | ⟨g1, g2⟩ | ⟨g1, g2, g3, g4⟩
                · go_wp2_with (first
                    | (go_at_call 55; refine (HP wr _ B s HOr.out HOK.out pl HPL.out).mono ?_; rintro e wx ⟨rfl, rfl⟩))
                  go_meet
                  exact ⟨A, c, rfl, by rw [← HDL.out]; have := HN.out; omega, HOW.out, HBX.out, HBW.out⟩
                · have g2i : ¬ (n : Int) < (pl : Int) := by omega
                  go_wp2_with (first
                    | (go_at_call 55; refine (HP wr _ B s HOr.out HOK.out pl HPL.out).mono ?_; rintro e wx ⟨rfl, rfl⟩))
                  go_meet
                  exact ⟨A, c, rfl, by rw [← HDL.out]; have := HN.out; omega, HOW.out, HBX.out, HBW.out⟩
                · have g2i : (n : Int) < (pl : Int) := by omega
                  have HV4 := Lib.hid g4
                  go_wp2_with (first
                    | (go_at_call 55; refine (HP wr _ B s HOr.out HOK.out pl HPL.out).mono ?_; rintro e wx ⟨rfl, rfl⟩)
                    | (go_at_call 54; refine (HH wr _ B s HOr.out HOK.out n true HV4.out (by omega)).mono ?_; rintro e wx ⟨rfl, rfl⟩))
                  go_meet 
                  exact ⟨A, c, rfl, by rw [← HDL.out]; have := HN.out; omega, HOW.out, HBX.out, HBW.out⟩ 
            · obtain ⟨rfl, rfl⟩ : m = m' ∧ fin = true := hrun
              obtain ⟨n, hn⟩ : ∃ n, n = at_ + m + 1 := ⟨_, rfl⟩
              have hni : (at_ + m + (if true = true then 1 else 0) : Nat) = n := by simp; omega
              rw [hni]
              have htn : n = tz := by rw [HTO.out, hn]; simp
              have hp1 : pl = dl + 1 := by rw [HPL.out, HDL.out]; unfold places; rw [if_pos (B4.out rfl).2]
              have hb4 := (B4.out rfl).1
              have g2i : ¬ (n : Int) < (pl : Int) := by omega
              clear hni hn
              subst htn
              by_cases g1 : (n : Int) < (sn : Int)
              · exfalso 
                omega 
              · go_wp2_with (first
                  | (go_at_call 55; refine (HP wr _ B s HOr.out HOK.out pl HPL.out).mono ?_; rintro e wx ⟨rfl, rfl⟩))
                go_meet
                exact ⟨A, c, rfl, by rw [← HDL.out]; exact hml, HOW.out, HBX.out, HBW.out⟩
        case rest =>
          obtain ⟨A, c, rfl, hml, hown, hbx, hbw⟩ := hcut
          have HOW := Lib.hid hown
          have HBX := Lib.hid hbx
          have HBW := Lib.hid hbw
          have HOr : Hid (Outl wc (fun k => T k ∨ w.heap.size ≤ k) B s) := Lib.hid (HO1.out.new hbw)
          have hqr := hbx.lt
          have e2 := hbx.cell 2 (.slice A m c) rfl
          have e3 := hbx.cell 3 (.bool fin) rfl
          obtain ⟨D2, cd2, K2, ck2, ⟨c0, c1, c2, c3, c4, c5⟩, ⟨-, -, -, f3, -, f5⟩, -, -⟩ := HOr.out.cells
          rw [← HSE.out] at c3
          clear hown hbx hbw
          have HX2 : Hid (Bx 29 wc q2 #[.int .i64 0, .int .i64 0, .slice none 0 0, .bool false, .bool false, .bool false, .int .i64 0]) := Lib.hid (HX1.out.below HBW.out)
          have hq2r := HX2.out.lt
          have p0 := HX2.out.cell 0 (.int .i64 0) rfl
          have p1 := HX2.out.cell 1 (.int .i64 0) rfl
          have p2 := HX2.out.cell 2 (.slice none 0 0) rfl
          have p3 := HX2.out.cell 3 (.bool false) rfl
          have p4 := HX2.out.cell 4 (.bool false) rfl
          have p5 := HX2.out.cell 5 (.bool false) rfl
          have p6 := HX2.out.cell 6 (.int .i64 0) rfl
          have s0 := HX2.out.soft 0
          have s1' := HX2.out.soft 1
          have s2 := HX2.out.soft 2
          have s3 := HX2.out.soft 3
          have s4 := HX2.out.soft 4
          have s5 := HX2.out.soft 5
          have s6 := HX2.out.soft 6
          have e0 := HBX.out.cell 0 (.int .i64 0) rfl
          have e1 := HBX.out.cell 1 (.int .i64 at_) rfl
          have e4 := HBX.out.cell 4 (.bool true) rfl
          have e5 := HBX.out.cell 5 (.bool false) rfl
          have e6 := HBX.out.cell 6 (.int .i64 0) rfl
          have hqB6 : ¬ q6 = B := by omega
          have hq26 : ¬ q2 = q6 := by omega
          by_cases hta : tz = at_
          · have htai : (tz : Int) = (at_ : Int) := by omega
            go_wp2_with fail
            obtain ⟨W, hW⟩ : ∃ W, W = put7 wc q2 (.int .i64 0) (.int .i64 0) (.slice none 0 0) (.bool false) (.bool false) (.bool true) (.int .i64 0) := ⟨_, rfl⟩
            have HXW : Hid (Bx 29 W q2 #[.int .i64 0, .int .i64 0, .slice none 0 0, .bool false, .bool false, .bool true, .int .i64 0]) := Lib.hid (by rw [hW]; exact HX2.out.put7 _ _ _ _ _ _ _)
            have HOn : Hid (Only (fun k => k = q2) wc W) := Lib.hid (by rw [hW]; exact only_put7 _ _ _ _ _ _ _ _ _)
            have HQ : Hid (q = ({ st0 with idle := true }, s)) := Lib.hid (by rw [HPO.out, if_pos hta])
            unfold put7 at hW
            rw [← hW]
            clear hW p0 p1 p2 p3 p4 p5 p6 e0 e1 e2 e3 e4 e5 e6 s0 s1' s2 s3 s4 s5 s6 c0 c1 c2 c3 c4 c5 f3 f5
            have r0 := HXW.out.cell 0 (.int .i64 0) rfl
            have r1 := HXW.out.cell 1 (.int .i64 0) rfl
            have r2 := HXW.out.cell 2 (.slice none 0 0) rfl
            have r3 := HXW.out.cell 3 (.bool false) rfl
            have r4 := HXW.out.cell 4 (.bool false) rfl
            have r5 := HXW.out.cell 5 (.bool true) rfl
            have r6 := HXW.out.cell 6 (.int .i64 0) rfl
            refine end_ret (v := .agg #[.int .i64 0, .int .i64 0, .slice none 0 0, .bool false, .bool false, .bool true, .int .i64 0]) (by simp [results, Try.results56, go_sem, r0, r1, r2, r3, r4, r5, r6]) ?_
            have hq2w : w.heap.size ≤ q2 := by rw [HQ2.out]; exact Nat.le_refl _
            rw [HQ.out]
            exact ⟨none, 0, 0, rfl, OwnL.nil _ _, HOr.out.only HOn.out (fun k hk => .inl (.inr (by subst hk; exact hq2w))) (fun k hk => .inl (.inl hk)), (only_new (S := fun k => k = B) (bthen HB1.out HBW.out)).trans HOn.out (fun j hj => .inr (by subst hj; exact hq2w))⟩
          · have htai : ¬ (tz : Int) = (at_ : Int) := by omega
            go_wp2_with fail
            obtain ⟨W1, hW1⟩ : ∃ W1, W1 = wc.setCell ⟨B, 5, none⟩ (.int .i64 tz) := ⟨_, rfl⟩ 
            obtain ⟨s1, hs1⟩ : ∃ s1 : Sd, s1 = { s with todo := tz } := ⟨_, rfl⟩ 
            have HOl : Hid (Outl W1 (fun k => T k ∨ w.heap.size ≤ k) B s1) := Lib.hid (by rw [hW1, hs1]; exact HOr.out.set 5 _ _ rfl rfl (fun _ _ _ _ => rfl)) 
            have HX2b : Hid (Bx 29 W1 q2 #[.int .i64 0, .int .i64 0, .slice none 0 0, .bool false, .bool false, .bool false, .int .i64 0]) := Lib.hid (by rw [hW1]; exact HX2.out.other hqB _) 
            have HOn1 : Hid (Only (fun k => k = B ∨ k = q2) wc W1) := Lib.hid (by rw [hW1]; exact (Only.refl (fun k => k = B ∨ k = q2) wc).set' (.inl rfl) _ _) 
            obtain ⟨W, hW⟩ : ∃ W, W = put7 W1 q2 (.int .i64 0) (.int .i64 at_) (.slice A m c) (.bool fin) (.bool true) (.bool false) (.int .i64 0) := ⟨_, rfl⟩
            have HXW : Hid (Bx 29 W q2 #[.int .i64 0, .int .i64 at_, .slice A m c, .bool fin, .bool true, .bool false, .int .i64 0]) := Lib.hid (by rw [hW]; exact HX2b.out.put7 _ _ _ _ _ _ _)
            have HOn2 : Hid (Only (fun k => k = q2) W1 W) := Lib.hid (by rw [hW]; exact only_put7 _ _ _ _ _ _ _ _ _)
            have HOn : Hid (Only (fun k => k = B ∨ k = q2) wc W) := Lib.hid (HOn1.out.trans HOn2.out (fun j hj => .inl (.inr hj)))
            have HQ : Hid (q = (⟨0, at_, (s.data.drop at_).take m, fin, true, false, 0⟩, s1)) := Lib.hid (by rw [HPO.out, if_neg hta, hs1]; show (_, ({ s with sent := sn, todo := tz } : Sd)) = _; rw [HSE.out]) 
            unfold put7 at hW
            rw [hW1] at hW
            rw [← hW]
            clear hW hW1 hs1 p0 p1 p2 p3 p4 p5 p6 e0 e1 e2 e3 e4 e5 e6 s0 s1' s2 s3 s4 s5 s6 c0 c1 c2 c3 c4 c5 f3 f5
            have r0 := HXW.out.cell 0 (.int .i64 0) rfl
            have r1 := HXW.out.cell 1 (.int .i64 at_) rfl
            have r2 := HXW.out.cell 2 (.slice A m c) rfl
            have r3 := HXW.out.cell 3 (.bool fin) rfl
            have r4 := HXW.out.cell 4 (.bool true) rfl
            have r5 := HXW.out.cell 5 (.bool false) rfl
            have r6 := HXW.out.cell 6 (.int .i64 0) rfl
            refine end_ret (v := .agg #[.int .i64 0, .int .i64 at_, .slice A m c, .bool fin, .bool true, .bool false, .int .i64 0]) (by simp [results, Try.results56, go_sem, r0, r1, r2, r3, r4, r5, r6]) ?_
            have hq2w : w.heap.size ≤ q2 := by rw [HQ2.out]; exact Nat.le_refl _
            rw [HQ.out]
            exact ⟨A, m, c, rfl, (HOW.out.only HOn.out (fun k hk hs => by have := (HOW.out.lt k hk).1; omega)).base (by omega), HOl.out.only HOn2.out (fun k hk => .inl (.inr (by subst hk; exact hq2w))) (fun k hk => .inl (.inl hk)), (only_new (S := fun k => k = B) (bthen HB1.out HBW.out)).trans HOn.out (fun j hj => by rcases hj with hj | hj; exact .inl hj; exact .inr (by subst hj; exact hq2w))⟩
      · have hn : skips s.known sn (k + 1) = skips s.known sn td := by rw [hst, if_pos ⟨hlt, hv⟩]
        have HN := Lib.hid hn
        have HV := Lib.hid hv
        clear hst hsk hn hv
        go_wp2_with (go_at_call 54; refine (HH _ _ B s HO1.out HOK.out k true HV.out (by omega)).mono ?_; rintro e wx ⟨rfl, rfl⟩)
        exact ⟨⟨k + 1, by omega, by omega, by go_num, HN.out⟩, by simp [intOf]; omega⟩
    · obtain rfl : k = sn := by omega
      have hki : ¬ (k : Int) < (k : Int) := by omega
      have hS : skips s.known k td = k := by rw [hst, if_neg (fun h => hlt h.1)]
      have hA : ag = false := by rw [HAG.out, hS]; simp
      have hAt : at_ = k := by rw [HAT.out, hA]; rfl
      have hLi : ed = li := by rw [HLI.out, hA]; rfl
      clear hst hsk hS
      subst hA
      subst hAt
      subst hLi
      clear HAG HAT HLI
      go_upto_block 2 with fail
      obtain ⟨q6, hq6⟩ : ∃ q6, q6 = w1.heap.size := ⟨_, rfl⟩
      obtain ⟨w2, hw2⟩ : ∃ w2, w2 = w1.alloc (.cells #[.int .i64 0, .int .i64 at_, .slice none 0 0, .bool false, .bool false, .bool false, .int .i64 0] 29) := ⟨_, rfl⟩
      have HX6 : Hid (Bx 29 w2 q6 #[.int .i64 0, .int .i64 at_, .slice none 0 0, .bool false, .bool false, .bool false, .int .i64 0]) := Lib.hid (by rw [hw2, hq6]; exact bx_new _ _ _)
      have HB2 : Hid (Below w1.heap.size w1 w2) := Lib.hid (by rw [hw2]; exact ba1 _ _)
      have hq62 : q2 < q6 := by have := HX1.out.lt; omega
      have hBq6 : B < q6 := by have := HB1.out.size; omega
      have HQ6 := Lib.hid hq6
      rw [← hw2, ← hq6]
      clear hw2 hq6 c0 c1 c2 c3 c4 c5 hki hlt
      go_cut [7] (fun i wc => PoX s false at_ m fin tz w1 q6 i wc)
      case first =>
        go_wp2_with fail
        go_loopw [7] (fun i wr => PoI s false ed at_ m fin w1 q6 i wr) (fun i _ => at_ + 66 - (intOf i).toNat)
        case atStart => exact ⟨0, false, none, 0, rfl, Nat.zero_le _, .inl rfl, OwnL.nil _ _, HX6.out, HRU.out, HB2.out⟩
        case round =>
          obtain ⟨m', fin', A, c, rfl, hm64, hml, hown, hbx, hrun, hbw⟩ := hrel
          have HOW := Lib.hid hown
          have HBX := Lib.hid hbx
          have HBW := Lib.hid hbw
          have HOr : Hid (Outl wr (fun k => T k ∨ w.heap.size ≤ k) B s) := Lib.hid (HO1.out.new hbw)
          have hqr := hbx.lt
          have e2 := hbx.cell 2 (.slice A m' c) rfl
          have e3 := hbx.cell 3 (.bool fin') rfl
          have l2 := hbx.soft 2
          have l3 := hbx.soft 3
          clear hown hbx hbw
          obtain ⟨D2, cd2, K2, ck2, ⟨c0, c1, c2, c3, c4, c5⟩, ⟨-, -, -, f3, -, f5⟩, hDr, -⟩ := HOr.out.cells
          have HDr2 := Lib.hid hDr
          rw [← HSE.out] at c3
          rw [← HDL.out] at c0 hml
          have hBr := HOr.out.lt
          clear hDr
          rcases fin' with _ | _
          · have hrun : (m, fin) = run s false ed (66 - m') (at_ + m') m' := hrun
            obtain ⟨n, hn⟩ : ∃ n, n = at_ + m' := ⟨_, rfl⟩
            rw [← hn] at hrun hml
            have hni : (at_ + m' + (if false = true then 1 else 0) : Nat) = n := by simp; omega
            rw [hni]
            have HN := Lib.hid hn
            clear hni
            by_cases hg : goes s false ed n
            · obtain ⟨g1, g2, g3⟩ := hg
              rw [← HPL.out] at g2
              have g2i : (n : Int) < (pl : Int) := by omega
              have HG : Hid (goes s false ed n) := Lib.hid ⟨g1, by rw [← HPL.out]; exact g2, g3⟩
              clear g3
              by_cases he : n = dl
              · have hrr : m = m' ∧ fin = true := by rw [run_fin s false ed _ n m' HG.out (by rw [he, HDL.out]) (by omega)] at hrun; injection hrun with h1 h2; exact ⟨h1, h2⟩
                have HRR := Lib.hid hrr
                subst he
                clear hrr hrun hn
                go_wp2_with (first
                  | (go_at_call 55; refine (HP wr _ B s HOr.out HOK.out pl HPL.out).mono ?_; rintro e wx ⟨rfl, rfl⟩))
                refine ⟨⟨m', true, A, c, ?_, hm64, by rw [← HDL.out]; have := HN.out; omega, ?_, HBX.out.set 3 (.bool true), HRR.out, ?_⟩, by have := HN.out; simp [intOf]; omega⟩
                · exact congrArg (Value.int .i64) (by have := HN.out; simp; omega)
                · exact HOW.out.only (only_set wr q6 3 _) (fun k hk hs => by have := (HOW.out.lt k hk).1; omega)
                · exact HBW.out.setCell (by rw [HQ6.out]; exact Nat.le_refl _) _
              · have he' : ¬ (n : Int) = (dl : Int) := by omega
                by_cases h64 : m' = 64
                · have hrr : m = m' ∧ fin = false := by subst h64; rw [run_64 s false ed _ n HG.out (by rw [← HDL.out]; exact he) (by omega)] at hrun; injection hrun with h1 h2; exact ⟨h1, h2⟩
                  obtain ⟨rfl, rfl⟩ := hrr
                  have h64i : (m : Int) = 64 := by omega
                  have htn : n = tz := by rw [HTO.out, hn]; simp
                  clear hrun hn
                  subst htn
                  go_wp2_with (first
                    | (go_at_call 55; refine (HP wr _ B s HOr.out HOK.out pl HPL.out).mono ?_; rintro e wx ⟨rfl, rfl⟩))
                  go_meet
                  exact ⟨A, c, rfl, by rw [← HDL.out]; have := HN.out; omega, HOW.out, HBX.out, HBW.out⟩
                · have h64i : ¬ (m' : Int) = 64 := by omega
                  have hrn : (m, fin) = run s false ed (66 - (m' + 1)) (n + 1) (m' + 1) := by rw [hrun]; exact run_on s false ed n m' HG.out (by rw [← HDL.out]; exact he) (by omega)
                  have HRN := Lib.hid hrn
                  have hnd : n < dl := by omega
                  have hndi : (n : Int) < (dl : Int) := by omega
                  obtain ⟨x, hx⟩ : ∃ x, s.data[n]? = some x := ⟨_, List.getElem?_eq_getElem (by rw [← HDL.out]; exact hnd)⟩
                  obtain ⟨bd, od, rfl, hbd, hcx⟩ := HDr2.out.one n x hx rfl (.int .u8 x) rfl
                  have HXX := Lib.hid hx
                  clear hrn hrun hx hn
                  go_upto_region 15 with (first
                    | (go_at_call 55; refine (HP wr _ B s HOr.out HOK.out pl HPL.out).mono ?_; rintro e wx ⟨rfl, rfl⟩))
                  have hd0 := HBX.out.cell 2 (.slice A m' c) rfl
                  have HD1 : Hid (Below wr.heap.size wr wr.drew) := Lib.hid (Below.refl _ _).drew
                  have hsz : q6 + 1 ≤ wr.heap.size := by omega
                  go_region_law (first
                    | (refine step_appL (F := byS) rfl ((wr.drew).alloc (.cells #[.int .u8 x] 5)) (.tmp 84) (.tmp 92) 27 rfl _ 1 Try.underlying27 byInfo rfl (q6 + 1) A m' c ((s.data.drop at_).take m') (by simp [Act.eval, Act.put]) ((HOW.out.below HD1.out).below (ba1 _ _)) (some ⟨wr.heap.size, 0, none⟩) 1 1 [x] (by simp [Act.eval, Act.put]) (ls_new _ _ _ _ rfl _ rfl) rfl (m' + 1) rfl (by omega) (by omega) (by simp; omega) ?_; intro A4 c4 w4 ho4 hb4 hs4; have O4 := Lib.hid ho4; have HB4 : Hid (Below (q6 + 1) wr w4) := Lib.hid (((HD1.out.mono hsz).alloc hsz _).trans hb4); have HX4 := Lib.hid (HBX.out.below' HB4.out (by omega)); have m42 := HX4.out.cell 2 (.slice A m' c) rfl; have f42 := HX4.out.soft 2; clear ho4 hb4 hs4))
                  all_goals
                    go_wp2
                    refine ⟨⟨m' + 1, false, A4, c4, ?_, by omega, by rw [← HDL.out]; have := HN.out; omega, ?_, HX4.out.set 2 (.slice A4 (m' + 1) c4), ?_, ?_⟩, by have := HN.out; simp [intOf]; omega⟩
                    · exact congrArg (Value.int .i64) (by have := HN.out; simp; omega)
                    · rw [take_on (by rw [← HN.out]; exact HXX.out)]
                      exact O4.out.only (only_set _ q6 2 _) (fun k hk hs => by have := (O4.out.lt k hk).1; omega)
                    · have e : at_ + (m' + 1) = n + 1 := by have := HN.out; omega
                      show (m, fin) = run s false ed (66 - (m' + 1)) (at_ + (m' + 1)) (m' + 1)
                      rw [e]; exact HRN.out
                    · exact (HBW.out.trans (HB4.out.mono (by rw [← HQ6.out]; omega))).setCell (by rw [HQ6.out]; exact Nat.le_refl _) _
            · have hrr : m = m' ∧ fin = false := by rw [run_no s false ed _ n m' hg] at hrun; injection hrun with h1 h2; exact ⟨h1, h2⟩
              obtain ⟨rfl, rfl⟩ := hrr
              have htn : n = tz := by rw [HTO.out, hn]; simp
              clear hrun hn
              subst htn
              have ex : ¬ ((n : Int) < ed) ∨ ((n : Int) < ed ∧ ¬ n < pl) ∨ ((n : Int) < ed ∧ n < pl ∧ false = true ∧ hd s.known n = true) := by
                by_cases g1 : (n : Int) < ed
                · by_cases g2 : n < pl
                  · refine .inr (.inr ⟨g1, g2, ?_⟩)
                    by_cases g3 : false = true ∧ hd s.known n = true
                    · exact g3
                    · exact absurd ⟨g1, by rw [← HPL.out]; exact g2, g3⟩ hg
                  · exact .inr (.inl ⟨g1, g2⟩)
                · exact .inl g1
              clear hg
              rcases ex with g1 | ⟨g1, g2⟩ | ⟨g1, g2, g3, g4⟩
              · go_wp2_with (first
                  | (go_at_call 55; refine (HP wr _ B s HOr.out HOK.out pl HPL.out).mono ?_; rintro e wx ⟨rfl, rfl⟩))
                go_meet
                exact ⟨A, c, rfl, by rw [← HDL.out]; have := HN.out; omega, HOW.out, HBX.out, HBW.out⟩
              · have g2i : ¬ (n : Int) < (pl : Int) := by omega
                go_wp2_with (first
                  | (go_at_call 55; refine (HP wr _ B s HOr.out HOK.out pl HPL.out).mono ?_; rintro e wx ⟨rfl, rfl⟩))
                go_meet
                exact ⟨A, c, rfl, by rw [← HDL.out]; have := HN.out; omega, HOW.out, HBX.out, HBW.out⟩
              · have g2i : (n : Int) < (pl : Int) := by omega
                have HV4 := Lib.hid g4
                exact absurd g3 (by decide)
          · obtain ⟨rfl, rfl⟩ : m = m' ∧ fin = true := hrun
            obtain ⟨n, hn⟩ : ∃ n, n = at_ + m + 1 := ⟨_, rfl⟩
            have hni : (at_ + m + (if true = true then 1 else 0) : Nat) = n := by simp; omega
            rw [hni]
            have htn : n = tz := by rw [HTO.out, hn]; simp
            have hp1 : pl = dl + 1 := by rw [HPL.out, HDL.out]; unfold places; rw [if_pos (B4.out rfl).2]
            have hb4 := (B4.out rfl).1
            have g2i : ¬ (n : Int) < (pl : Int) := by omega
            clear hni hn
            subst htn
            by_cases g1 : (n : Int) < ed
            · go_wp2_with (first
                | (go_at_call 55; refine (HP wr _ B s HOr.out HOK.out pl HPL.out).mono ?_; rintro e wx ⟨rfl, rfl⟩))
              go_meet 
              exact ⟨A, c, rfl, by rw [← HDL.out]; exact hml, HOW.out, HBX.out, HBW.out⟩ 
            · go_wp2_with (first
                | (go_at_call 55; refine (HP wr _ B s HOr.out HOK.out pl HPL.out).mono ?_; rintro e wx ⟨rfl, rfl⟩))
              go_meet
              exact ⟨A, c, rfl, by rw [← HDL.out]; exact hml, HOW.out, HBX.out, HBW.out⟩
      case rest =>
        obtain ⟨A, c, rfl, hml, hown, hbx, hbw⟩ := hcut
        have HOW := Lib.hid hown
        have HBX := Lib.hid hbx
        have HBW := Lib.hid hbw
        have HOr : Hid (Outl wc (fun k => T k ∨ w.heap.size ≤ k) B s) := Lib.hid (HO1.out.new hbw)
        have hqr := hbx.lt
        have e2 := hbx.cell 2 (.slice A m c) rfl
        have e3 := hbx.cell 3 (.bool fin) rfl
        obtain ⟨D2, cd2, K2, ck2, ⟨c0, c1, c2, c3, c4, c5⟩, ⟨-, -, -, f3, -, f5⟩, -, -⟩ := HOr.out.cells
        rw [← HSE.out] at c3
        clear hown hbx hbw
        have HX2 : Hid (Bx 29 wc q2 #[.int .i64 0, .int .i64 0, .slice none 0 0, .bool false, .bool false, .bool false, .int .i64 0]) := Lib.hid (HX1.out.below HBW.out)
        have hq2r := HX2.out.lt
        have p0 := HX2.out.cell 0 (.int .i64 0) rfl
        have p1 := HX2.out.cell 1 (.int .i64 0) rfl
        have p2 := HX2.out.cell 2 (.slice none 0 0) rfl
        have p3 := HX2.out.cell 3 (.bool false) rfl
        have p4 := HX2.out.cell 4 (.bool false) rfl
        have p5 := HX2.out.cell 5 (.bool false) rfl
        have p6 := HX2.out.cell 6 (.int .i64 0) rfl
        have s0 := HX2.out.soft 0
        have s1' := HX2.out.soft 1
        have s2 := HX2.out.soft 2
        have s3 := HX2.out.soft 3
        have s4 := HX2.out.soft 4
        have s5 := HX2.out.soft 5
        have s6 := HX2.out.soft 6
        have e0 := HBX.out.cell 0 (.int .i64 0) rfl
        have e1 := HBX.out.cell 1 (.int .i64 at_) rfl
        have e4 := HBX.out.cell 4 (.bool false) rfl
        have e5 := HBX.out.cell 5 (.bool false) rfl
        have e6 := HBX.out.cell 6 (.int .i64 0) rfl
        have hqB6 : ¬ q6 = B := by omega
        have hq26 : ¬ q2 = q6 := by omega
        by_cases hta : tz = at_
        · have htai : (tz : Int) = (at_ : Int) := by omega
          go_wp2_with fail
          obtain ⟨W, hW⟩ : ∃ W, W = put7 wc q2 (.int .i64 0) (.int .i64 0) (.slice none 0 0) (.bool false) (.bool false) (.bool true) (.int .i64 0) := ⟨_, rfl⟩
          have HXW : Hid (Bx 29 W q2 #[.int .i64 0, .int .i64 0, .slice none 0 0, .bool false, .bool false, .bool true, .int .i64 0]) := Lib.hid (by rw [hW]; exact HX2.out.put7 _ _ _ _ _ _ _)
          have HOn : Hid (Only (fun k => k = q2) wc W) := Lib.hid (by rw [hW]; exact only_put7 _ _ _ _ _ _ _ _ _)
          have HQ : Hid (q = ({ st0 with idle := true }, s)) := Lib.hid (by rw [HPO.out, if_pos hta])
          unfold put7 at hW
          rw [← hW]
          clear hW p0 p1 p2 p3 p4 p5 p6 e0 e1 e2 e3 e4 e5 e6 s0 s1' s2 s3 s4 s5 s6 c0 c1 c2 c3 c4 c5 f3 f5
          have r0 := HXW.out.cell 0 (.int .i64 0) rfl
          have r1 := HXW.out.cell 1 (.int .i64 0) rfl
          have r2 := HXW.out.cell 2 (.slice none 0 0) rfl
          have r3 := HXW.out.cell 3 (.bool false) rfl
          have r4 := HXW.out.cell 4 (.bool false) rfl
          have r5 := HXW.out.cell 5 (.bool true) rfl
          have r6 := HXW.out.cell 6 (.int .i64 0) rfl
          refine end_ret (v := .agg #[.int .i64 0, .int .i64 0, .slice none 0 0, .bool false, .bool false, .bool true, .int .i64 0]) (by simp [results, Try.results56, go_sem, r0, r1, r2, r3, r4, r5, r6]) ?_
          have hq2w : w.heap.size ≤ q2 := by rw [HQ2.out]; exact Nat.le_refl _
          rw [HQ.out]
          exact ⟨none, 0, 0, rfl, OwnL.nil _ _, HOr.out.only HOn.out (fun k hk => .inl (.inr (by subst hk; exact hq2w))) (fun k hk => .inl (.inl hk)), (only_new (S := fun k => k = B) (bthen HB1.out HBW.out)).trans HOn.out (fun j hj => .inr (by subst hj; exact hq2w))⟩
        · have htai : ¬ (tz : Int) = (at_ : Int) := by omega
          go_wp2_with fail
          obtain ⟨W1, hW1⟩ : ∃ W1, W1 = (wc.setCell ⟨B, 3, none⟩ (.int .i64 tz)).setCell ⟨B, 5, none⟩ (.int .i64 tz) := ⟨_, rfl⟩ 
          obtain ⟨s1, hs1⟩ : ∃ s1 : Sd, s1 = { s with sent := tz, todo := tz } := ⟨_, rfl⟩ 
          have HOl : Hid (Outl W1 (fun k => T k ∨ w.heap.size ≤ k) B s1) := Lib.hid (by rw [hW1, hs1]; exact (HOr.out.set 3 (.int .i64 tz) { s with sent := tz } rfl rfl (fun _ _ _ _ => rfl)).set 5 _ _ rfl rfl (fun _ _ _ _ => rfl)) 
          have HX2b : Hid (Bx 29 W1 q2 #[.int .i64 0, .int .i64 0, .slice none 0 0, .bool false, .bool false, .bool false, .int .i64 0]) := Lib.hid (by rw [hW1]; exact (HX2.out.other hqB _).other hqB _) 
          have HOn1 : Hid (Only (fun k => k = B ∨ k = q2) wc W1) := Lib.hid (by rw [hW1]; exact ((Only.refl (fun k => k = B ∨ k = q2) wc).set' (.inl rfl) _ _).set' (.inl rfl) _ _) 
          obtain ⟨W, hW⟩ : ∃ W, W = put7 W1 q2 (.int .i64 0) (.int .i64 at_) (.slice A m c) (.bool fin) (.bool false) (.bool false) (.int .i64 0) := ⟨_, rfl⟩
          have HXW : Hid (Bx 29 W q2 #[.int .i64 0, .int .i64 at_, .slice A m c, .bool fin, .bool false, .bool false, .int .i64 0]) := Lib.hid (by rw [hW]; exact HX2b.out.put7 _ _ _ _ _ _ _)
          have HOn2 : Hid (Only (fun k => k = q2) W1 W) := Lib.hid (by rw [hW]; exact only_put7 _ _ _ _ _ _ _ _ _)
          have HOn : Hid (Only (fun k => k = B ∨ k = q2) wc W) := Lib.hid (HOn1.out.trans HOn2.out (fun j hj => .inl (.inr hj)))
          have HQ : Hid (q = (⟨0, at_, (s.data.drop at_).take m, fin, false, false, 0⟩, s1)) := Lib.hid (by rw [HPO.out, if_neg hta, hs1]; rfl) 
          unfold put7 at hW
          rw [hW1] at hW
          rw [← hW]
          clear hW hW1 hs1 p0 p1 p2 p3 p4 p5 p6 e0 e1 e2 e3 e4 e5 e6 s0 s1' s2 s3 s4 s5 s6 c0 c1 c2 c3 c4 c5 f3 f5
          have r0 := HXW.out.cell 0 (.int .i64 0) rfl
          have r1 := HXW.out.cell 1 (.int .i64 at_) rfl
          have r2 := HXW.out.cell 2 (.slice A m c) rfl
          have r3 := HXW.out.cell 3 (.bool fin) rfl
          have r4 := HXW.out.cell 4 (.bool false) rfl
          have r5 := HXW.out.cell 5 (.bool false) rfl
          have r6 := HXW.out.cell 6 (.int .i64 0) rfl
          refine end_ret (v := .agg #[.int .i64 0, .int .i64 at_, .slice A m c, .bool fin, .bool false, .bool false, .int .i64 0]) (by simp [results, Try.results56, go_sem, r0, r1, r2, r3, r4, r5, r6]) ?_
          have hq2w : w.heap.size ≤ q2 := by rw [HQ2.out]; exact Nat.le_refl _
          rw [HQ.out]
          exact ⟨A, m, c, rfl, (HOW.out.only HOn.out (fun k hk hs => by have := (HOW.out.lt k hk).1; omega)).base (by omega), HOl.out.only HOn2.out (fun k hk => .inl (.inr (by subst hk; exact hq2w))) (fun k hk => .inl (.inl hk)), (only_new (S := fun k => k = B) (bthen HB1.out HBW.out)).trans HOn.out (fun j hj => by rcases hj with hj | hj; exact .inl hj; exact .inr (by subst hj; exact hq2w))⟩

end Go.Proofs.Ytehckiihipnimaa
