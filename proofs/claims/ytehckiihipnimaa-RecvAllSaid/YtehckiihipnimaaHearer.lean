/-
  Contract of packthreadkeep.hearer.
-/
import Derived.Test.YtehckiihipnimaaRPlay
import Derived.Test.YtehckiihipnimaaSameKeep
import Derived.Deep.RegionHeld3
import Derived.BigQuiet
import Derived.BigRegion
import Derived.Deep.DeepCutAuto
namespace Go.Proofs.Ytehckiihipnimaa
open Go.RowKit
set_option linter.unusedVariables false
set_option linter.unusedSimpArgs false

/-- the small play that is told beside -/
def oneA : List Ar := [⟨1, 0, [5], false, 0⟩, ⟨2, 0, [], false, 3⟩]
def oneT : List Tl := [⟨0, 1, 8, [], [], false⟩, ⟨0, 1, 9, [], [5], false⟩]
theorem one_heard : heard (hr0 9) oneA = oneT := by kernel_rfl

/-- what hearer answers: what Play tells, and that all is well -/
def RetHs (w : World) (ts : List Tl) (e : Ending) (w' : World) : Prop :=
  ∃ A c l, e = .returned (.tuple #[.slice A ts.length c, .bool true]) ∧ OwnL teS 52 w' w.heap.size A ts.length c l ∧ l.map Tv.t = ts ∧ EIr w' (fun _ => False) l ∧ Below w.heap.size w w'

def oneCells8 (b : Nat) : Array Value := #[.int .i64 1, .int .i64 0, .slice (some ⟨b, 0, none⟩) 1 1, .bool false, .int .i64 0, .int .i64 2, .int .i64 0, .slice none 0 0, .bool false, .int .i64 3]
theorem one8_any (w : World) : Calls Try.prog 25 #[.int .i64 9, .slice (some ⟨w.heap.size + 1, 0, none⟩) 2 2] ((w.alloc (.cells #[.int .u8 5] 5)).alloc (.cells (oneCells8 w.heap.size) 61)) fun e w' =>
    ∃ A c l, e = .returned (.tuple #[.slice A 2 c, .int .i64 0]) ∧ OwnL teS 52 w' w.heap.size A 2 c l ∧ l.map Tv.t = oneT ∧ EIr w' (fun _ => False) l ∧ Below w.heap.size w w' := by
  obtain ⟨w1, hw1⟩ : ∃ w1, w1 = w.alloc (.cells #[.int .u8 5] 5) := ⟨_, rfl⟩
  have hz : w1.heap.size = w.heap.size + 1 := by rw [hw1]; simp
  have h7 : Ls byS w1 (some ⟨w.heap.size, 0, none⟩) [5] := by rw [hw1]; exact ls_new w _ _ _ rfl _ rfl
  have hb : Below w.heap.size w w1 := by rw [hw1]; exact ba1 _ _
  rw [← hw1]
  have hd : Ls arS (w1.alloc (.cells (oneCells8 w.heap.size) 61)) (some ⟨w.heap.size + 1, 0, none⟩) [⟨⟨1, 0, [5], false, 0⟩, some ⟨w.heap.size, 0, none⟩, 1, 1⟩, ⟨⟨2, 0, [], false, 3⟩, none, 0, 0⟩] := ls_new w1 _ _ _ rfl _ hz.symm
  refine (rplay_ok 9 (some ⟨w.heap.size + 1, 0, none⟩) 2 2 _ (w1.alloc (.cells (oneCells8 w.heap.size) 61)) (by omega) (by omega) (by omega) hd rfl (fun x hx => ?_)).mono ?_
  · simp only [List.mem_cons, List.not_mem_nil, or_false] at hx
    rcases hx with rfl | rfl
    · exact ⟨h7.below (ba1 _ _), rfl, by simp, by simp⟩
    · exact ⟨Ls.nil _ _, rfl, by simp, by simp⟩
  · rintro e w' ⟨A, c, l, rfl, g1, g2, g3, g4⟩
    have e1 : heard (hr0 9) oneA = oneT := one_heard
    have e2 : heard (hr0 9) (([⟨⟨1, 0, [5], false, 0⟩, some ⟨w.heap.size, 0, none⟩, 1, 1⟩, ⟨⟨2, 0, [], false, 3⟩, none, 0, 0⟩] : List Av).map Av.a) = oneT := e1
    rw [e2] at g1 g2 ⊢
    exact ⟨A, c, l, rfl, g1.base (by simp; omega), g2, g3, (bthen hb (ba1 _ _)).trans (g4.mono (by simp; omega))⟩

set_option maxRecDepth 100000 in
set_option maxHeartbeats 4000000 in
theorem hearer_any (room : Int) (L : Option Addr) (n c : Nat) (l : List Av) (w : World) (h0 : 1 ≤ room) (h1 : room ≤ 4096) (hn : n ≤ 300) (hb : Ls arS w L l) (hl : l.length = n) (hin : AIn w l) (ts : List Tl) (hts : ts = heard (hr0 room) (l.map Av.a)) :
    Calls Try.prog 30 #[.int .i64 room, .slice L n c] w (RetHs w ts) := by
  have HL := Lib.hid hb
  have HN := Lib.hid hl
  have HI := Lib.hid hin
  have htl : ts.length = n := by rw [hts, heard_len, List.length_map, hl]
  have HT := Lib.hid hts
  have HTL := Lib.hid htl
  clear hb hl hin hts htl
  go_enter Try.func30, Try.ntmps30
  go_upto_region 2 with (first
    | (at_builtin; refine wpList_appL (F := arS) rfl w (.const (.slice none 0 0)) (.tmp 12) 47 rfl _ 56 Try.underlying47 arInfo rfl w.heap.size none 0 0 [] rfl (OwnL.nil _ _) L n c l rfl HL.out HN.out n (by omega) (by omega) (by omega) (Nat.le_refl _) ?_; intro A1 c1 w1 ho1 hb1 _; rw [List.nil_append] at ho1; have HO1 := Lib.hid ho1; have HB1 := Lib.hid hb1; clear ho1 hb1)
    | (go_at_call 25; (refine (rplay_ok room A1 n c1 l w1 h0 h1 hn HO1.out.ls HN.out (HI.out.below HB1.out)).mono ?_); rw [← HT.out]; unfold RetT; rw [HTL.out]; rintro e w2 ⟨A2, c2, l2, rfl, ho2, hm2, he2, hb2⟩; have HO2 := Lib.hid ho2; have HM2 := Lib.hid hm2; have HE2 := Lib.hid he2; have HB2 : Hid (Below w.heap.size w w2) := Lib.hid (bthen HB1.out hb2); clear ho2 hm2 he2 hb2))
  go_upto_region 3 with (go_at_call 25; refine (one8_any w2).mono ?_; rintro e w3 ⟨A3, c3, l3, rfl, ho3, hm3, he3, hb3⟩; have HO3 := Lib.hid ho3; have HM3 := Lib.hid hm3; have HE3 := Lib.hid he3; have HB3 := Lib.hid hb3; clear ho3 hm3 he3 hb3)
  obtain ⟨x1, hx1, e1, ⟨d1, n1⟩, -, -⟩ := heard_at HO3.out HM3.out HE3.out 1 ⟨0, 1, 9, [], [5], false⟩ rfl
  obtain ⟨b3, o3, rfl, hb3, hc3⟩ := HO3.out.ls.at 1 x1 hx1
  obtain ⟨s1, S1', m1', sc1', A1', n1', c1'⟩ := x1
  simp only at e1 d1 n1
  subst e1; subst n1
  have g1 := hc3 4 (.slice A1' 1 c1') rfl
  simp only [teS, Nat.add_zero] at g1
  have HD1 := Lib.hid d1
  have HBW : Hid (Below w.heap.size w w3) := Lib.hid (HB2.out.trans (HB3.out.mono HB2.out.size))
  have HO2c : Hid (OwnL teS 52 w3 w.heap.size A2 n c2 l2) := Lib.hid ((HO2.out.below HB3.out).base HB1.out.size)
  have HE2c : Hid (EIr w3 (fun _ => False) l2) := Lib.hid (HE2.out.new HB3.out)
  clear hc3 d1 hx1
  have g1 : w3.cell? ⟨b3, o3 + 6 + 4, none⟩ = some (.slice A1' 1 c1') := g1
  have HG1 := Lib.hid g1
  go_cut [4, 5] (fun v b wx => v = .slice A2 n c2 ∧ b = .bool true ∧ Below w3.heap.size w3 wx)
  case first =>
    go_wp2_with (go_at_call 23; (refine (same_keep A1' 1 c1' (some ⟨w3.heap.size, 0, none⟩) 1 [5] _ (HD1.out.below (ba1 _ _)) (ls_new w3 5 [5] _ rfl w3.heap.size rfl) rfl (by omega)).mono ?_); rintro e w5 ⟨rfl, hb5⟩; have HB5 : Hid (Below w3.heap.size w3 w5) := Lib.hid (bthen (ba1 _ _) hb5); clear hb5)
    go_meet
    exact ⟨rfl, rfl, HB5.out⟩
  case rest =>
    obtain ⟨rfl, rfl, hbc⟩ := hcut
    have HBC := Lib.hid hbc
    clear hbc
    go_wp2_with fail
    go_ret2
    have hl := HTL.out
    exact ⟨A2, c2, l2, by rw [hl]; rfl, by rw [hl]; exact HO2c.out.below HBC.out, HM2.out, HE2c.out.new HBC.out, HBW.out.trans (HBC.out.mono HBW.out.size)⟩

end Go.Proofs.Ytehckiihipnimaa
