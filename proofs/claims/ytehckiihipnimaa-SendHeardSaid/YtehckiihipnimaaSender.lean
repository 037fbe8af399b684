/-
  Contract of packthreadkeep.sender.
-/
import Derived.Test.YtehckiihipnimaaSPlay
import Derived.Test.YtehckiihipnimaaSameKeep
import Derived.Test.YtehckiihipnimaaWish
import Derived.Test.YtehckiihipnimaaTold
import Derived.Deep.RegionHeld3
import Derived.BigQuiet
import Derived.BigRegion
import Derived.Deep.DeepCutAuto
namespace Go.Proofs.Ytehckiihipnimaa
open Go.RowKit
set_option linter.unusedVariables false
set_option linter.unusedSimpArgs false

/-- the small play that is told beside -/
def oneL : List Dd := [⟨1, [7], 0, 0, []⟩, ⟨3, [], 0, 0, []⟩, ⟨3, [], 0, 0, []⟩]
theorem one_sent : sent (sd0 9) oneL = [⟨0, 0, [], false, false, false, 1⟩, ⟨0, 0, [7], false, false, false, 1⟩, ⟨0, 0, [], false, false, true, 1⟩] := by decide +kernel

/-- what sender answers: what Play tells, and that all is well -/
def RetSr (w : World) (ts : List St) (e : Ending) (w' : World) : Prop :=
  ∃ A c l, e = .returned (.tuple #[.slice A ts.length c, .bool true]) ∧ OwnL seS 29 w' w.heap.size A ts.length c l ∧ l.map Sv.st = ts ∧ EI w' (fun _ => False) l ∧ Below w.heap.size w w'

def oneTold : List St := [⟨0, 0, [], false, false, false, 1⟩, ⟨0, 0, [7], false, false, false, 1⟩, ⟨0, 0, [], false, false, true, 1⟩]
def oneCells (b : Nat) : Array Value := #[.int .i64 1, .slice (some ⟨b, 0, none⟩) 1 1, .int .i64 0, .int .i64 0, .slice none 0 0, .int .i64 3, .slice none 0 0, .int .i64 0, .int .i64 0, .slice none 0 0, .int .i64 3, .slice none 0 0, .int .i64 0, .int .i64 0, .slice none 0 0]
theorem one_any (w : World) : Calls Try.prog 17 #[.int .i64 9, .slice (some ⟨w.heap.size + 1, 0, none⟩) 3 3] ((w.alloc (.cells #[.int .u8 7] 5)).alloc (.cells (oneCells w.heap.size) 39)) fun e w' =>
    ∃ A c l, e = .returned (.tuple #[.slice A 3 c, .int .i64 0]) ∧ OwnL seS 29 w' w.heap.size A 3 c l ∧ l.map Sv.st = oneTold ∧ EI w' (fun _ => False) l ∧ Below w.heap.size w w' := by
  obtain ⟨w1, hw1⟩ : ∃ w1, w1 = w.alloc (.cells #[.int .u8 7] 5) := ⟨_, rfl⟩
  have hz : w1.heap.size = w.heap.size + 1 := by rw [hw1]; simp
  have h7 : Ls byS w1 (some ⟨w.heap.size, 0, none⟩) [7] := by rw [hw1]; exact ls_new w _ _ _ rfl _ rfl
  have hb : Below w.heap.size w w1 := by rw [hw1]; exact ba1 _ _
  rw [← hw1]
  have hd : Ls deS (w1.alloc (.cells (oneCells w.heap.size) 39)) (some ⟨w.heap.size + 1, 0, none⟩) [⟨⟨1, [7], 0, 0, []⟩, some ⟨w.heap.size, 0, none⟩, 1, 1, none, 0, 0⟩, ⟨⟨3, [], 0, 0, []⟩, none, 0, 0, none, 0, 0⟩, ⟨⟨3, [], 0, 0, []⟩, none, 0, 0, none, 0, 0⟩] := ls_new w1 _ _ _ rfl _ hz.symm
  refine (splay_ok 9 (some ⟨w.heap.size + 1, 0, none⟩) 3 3 _ (w1.alloc (.cells (oneCells w.heap.size) 39)) (by omega) (by omega) (by omega) hd rfl (fun x hx => ?_)).mono ?_
  · simp only [List.mem_cons, List.not_mem_nil, or_false] at hx
    rcases hx with rfl | rfl | rfl
    · exact ⟨h7.below (ba1 _ _), rfl, Ls.nil _ _, rfl, by simp, by simp⟩
    · exact ⟨Ls.nil _ _, rfl, Ls.nil _ _, rfl, by simp, by simp⟩
    · exact ⟨Ls.nil _ _, rfl, Ls.nil _ _, rfl, by simp, by simp⟩
  · rintro e w' ⟨A, c, l, rfl, g1, g2, g3, g4⟩
    have e1 : sent (sd0 9) oneL = oneTold := one_sent
    have e2 : sent (sd0 9) (([⟨⟨1, [7], 0, 0, []⟩, some ⟨w.heap.size, 0, none⟩, 1, 1, none, 0, 0⟩, ⟨⟨3, [], 0, 0, []⟩, none, 0, 0, none, 0, 0⟩, ⟨⟨3, [], 0, 0, []⟩, none, 0, 0, none, 0, 0⟩] : List Dv).map Dv.d) = oneTold := e1
    rw [e2] at g1 g2 ⊢
    exact ⟨A, c, l, rfl, g1.base (by simp; omega), g2, g3, (bthen hb (ba1 _ _)).trans (g4.mono (by simp; omega))⟩

set_option maxRecDepth 100000 in
set_option maxHeartbeats 4000000 in
theorem sender_any (window : Int) (L : Option Addr) (n c : Nat) (l : List Dv) (w : World) (h0 : 0 ≤ window) (h1 : window ≤ 65535) (hn : n ≤ 300) (hb : Ls deS w L l) (hl : l.length = n) (hin : DIn w l) (ts : List St) (hts : ts = sent (sd0 window) (l.map Dv.d)) :
    Calls Try.prog 22 #[.int .i64 window, .slice L n c] w (RetSr w ts) := by
  have HL := Lib.hid hb
  have HN := Lib.hid hl
  have HI := Lib.hid hin
  have htl : ts.length = n := by rw [hts, sent_len, List.length_map, hl]
  have HT := Lib.hid hts
  have HTL := Lib.hid htl
  clear hb hl hin hts htl
  go_enter Try.func22, Try.ntmps22
  go_upto_region 2 with (first
    | (at_builtin; refine wpList_appL (F := deS) rfl w (.const (.slice none 0 0)) (.tmp 12) 22 rfl _ 72 Try.underlying22 deInfo rfl w.heap.size none 0 0 [] rfl (OwnL.nil _ _) L n c l rfl HL.out HN.out n (by omega) (by omega) (by omega) (Nat.le_refl _) ?_; intro A1 c1 w1 ho1 hb1 _; rw [List.nil_append] at ho1; have HO1 := Lib.hid ho1; have HB1 := Lib.hid hb1; clear ho1 hb1)
    | (go_at_call 17; (refine (splay_ok window A1 n c1 l w1 h0 h1 hn HO1.out.ls HN.out (HI.out.below HB1.out)).mono ?_); rw [← HT.out]; unfold RetS; rw [HTL.out]; rintro e w2 ⟨A2, c2, l2, rfl, ho2, hm2, he2, hb2⟩; have HO2 := Lib.hid ho2; have HM2 := Lib.hid hm2; have HE2 := Lib.hid he2; have HB2 : Hid (Below w.heap.size w w2) := Lib.hid (bthen HB1.out hb2); clear ho2 hm2 he2 hb2))
  go_upto_region 3 with (go_at_call 17; refine (one_any w2).mono ?_; rintro e w3 ⟨A3, c3, l3, rfl, ho3, hm3, he3, hb3⟩; have HO3 := Lib.hid ho3; have HM3 := Lib.hid hm3; have HE3 := Lib.hid he3; have HB3 := Lib.hid hb3; clear ho3 hm3 he3 hb3)
  obtain ⟨x1, hx1, e1, d1, n1⟩ := told_at HO3.out HM3.out HE3.out 1 ⟨0, 0, [7], false, false, false, 1⟩ rfl
  obtain ⟨x2, hx2, e2, -, -⟩ := told_at HO3.out HM3.out HE3.out 2 ⟨0, 0, [], false, false, true, 1⟩ rfl
  obtain ⟨b3, o3, rfl, hb3, hc3⟩ := HO3.out.ls.at 1 x1 hx1
  obtain ⟨b3', o3', he, -, hc3'⟩ := HO3.out.ls.at 2 x2 hx2
  injection he with he
  injection he with he1 he2
  subst he1; subst he2
  obtain ⟨s1, A1', n1', c1'⟩ := x1
  obtain ⟨s2, A2', n2', c2'⟩ := x2
  simp only at e1 e2 d1 n1
  subst e1; subst e2; subst n1
  have g1 := hc3 2 (.slice A1' 1 c1') rfl
  have g2 := hc3' 5 (.bool true) rfl
  simp only [seS, Nat.add_zero] at g1 g2
  have HD1 := Lib.hid d1
  have HBW : Hid (Below w.heap.size w w3) := Lib.hid (HB2.out.trans (HB3.out.mono HB2.out.size))
  have HO2c : Hid (OwnL seS 29 w3 w.heap.size A2 n c2 l2) := Lib.hid ((HO2.out.below HB3.out).base HB1.out.size)
  have HE2c : Hid (EI w3 (fun _ => False) l2) := Lib.hid (HE2.out.new HB3.out)
  clear hc3 hc3' d1 hx1 hx2
  have g1 : w3.cell? ⟨b3, o3 + 7 + 2, none⟩ = some (.slice A1' 1 c1') := g1
  have g2 : w3.cell? ⟨b3, o3 + 14 + 5, none⟩ = some (.bool true) := g2
  have HG1 := Lib.hid g1
  have HG2 := Lib.hid g2
  go_cut [4, 5] (fun v b wx => v = .slice A2 n c2 ∧ b = .bool true ∧ Below w3.heap.size w3 wx)
  case first =>
    have HW1 : Hid (Below w3.heap.size w3 (w3.alloc (.cells #[.int .u8 7] 5)).drew) := Lib.hid (ba1 _ _).drew
    have HW7 : Hid (Ls byS (w3.alloc (.cells #[.int .u8 7] 5)).drew (some ⟨w3.heap.size, 0, none⟩) [7]) := Lib.hid ((ls_new w3 5 [7] _ rfl w3.heap.size rfl).below (Below.refl _ _).drew)
    have b0 := cell_drew1 g1
    have b1 := cell_drew1 g2
    go_region_held3 (fun w' => w'.cell? ⟨b3, o3 + 7 + 2, none⟩ = some (.slice A1' 1 c1') ∧ w'.cell? ⟨b3, o3 + 14 + 5, none⟩ = some (.bool true)) (first | (with_reducible exact ⟨b0, b1⟩) | (with_reducible exact ⟨m1, m2⟩) | (with_reducible exact ⟨cell_drew1 (cell_alloc1 g1), cell_drew1 (cell_alloc1 g2)⟩) | go_keep) (first | (go_at_call 23; (with_reducible refine (same_keep A1' 1 c1' (some ⟨w3.heap.size, 0, none⟩) 1 [7] (w3.alloc (.cells #[.int .u8 7] 5)).drew (HD1.out.below HW1.out) HW7.out rfl (by omega)).mono ?_); rintro e w5 ⟨rfl, hb5⟩; have HB5 : Hid (Below w3.heap.size w3 w5) := Lib.hid (bthen HW1.out hb5); have m1 := (HB5.out.cell (p := ⟨b3, o3 + 7 + 2, none⟩) hb3).trans g1; have m2 := (HB5.out.cell (p := ⟨b3, o3 + 14 + 5, none⟩) hb3).trans g2; clear hb5))
    all_goals
      go_wp2_with fail
      go_meet
      exact ⟨rfl, rfl, HB5.out⟩
  case rest =>
    obtain ⟨rfl, rfl, hbc⟩ := hcut
    have HBC := Lib.hid hbc
    clear hbc
    go_wp2_with fail
    go_ret2
    have hl := HTL.out
    exact ⟨A2, c2, l2, by rw [hl]; rfl, by rw [hl]; exact HO2c.out.below HBC.out, HM2.out, HE2c.out.new HBC.out, HBW.out.trans (HBC.out.mono HBW.out.size)⟩

end Go.Proofs.Ytehckiihipnimaa
