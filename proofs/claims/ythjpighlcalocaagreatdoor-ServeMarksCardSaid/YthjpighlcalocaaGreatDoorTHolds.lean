/-
  The program's tree: holds.
-/
import Derived.Test.YthjpighlcalocaaGreatDoorTFinds
import Derived.Test.YthjpighlcalocaaGreatDoorTreeWf
import Derived.Maps.RangeWalk
import Derived.LaidEqlPtr
namespace Go.Proofs.YthjpighlcalocaaGreatDoor
open Go.RowKit Go.Maps
set_option linter.unusedVariables false
set_option linter.unusedSimpArgs false

theorem dirInfo : (Tryz.prog.info? 107).map (fun i => i.size) = some 1 := by kernel_rfl
theorem ptr_same (x : Nat) (w : World) : (binOp .eql 68 (.pointer (some ⟨x, 0, none⟩)) (.pointer (some ⟨x, 0, none⟩))).run Tryz.prog w = .ok (.bool true) w := by
  obtain ⟨j, hj, -⟩ := Option.map_eq_some_iff.1 dirInfo
  exact run_eql_ptr_same w _ Tryz.underlying68 hj
theorem ptr_other {x y : Nat} {w : World} {cx cy : Array Value} (h : ¬ x = y) (hx : Bx 107 w x cx) (hy : Bx 107 w y cy) : (binOp .eql 68 (.pointer (some ⟨x, 0, none⟩)) (.pointer (some ⟨y, 0, none⟩))).run Tryz.prog w = .ok (.bool false) w := by
  obtain ⟨j, hj, hs⟩ := Option.map_eq_some_iff.1 dirInfo
  exact run_eql_ptr_other w Tryz.underlying68 hj (by omega) (fun e => h (by injection e)) hx hy
theorem holdsF_any (a b : Value) (w : World) : Calls Tryz.prog 161 #[a, b] w fun e w' => e = .returned (.bool false) ∧ w' = w := by
  go_enter Tryz.func161, Tryz.ntmps161
  go_wp2_with fail
  go_ret
  exact ⟨rfl, rfl⟩
theorem holdsL_any (a b : Value) (w : World) : Calls Tryz.prog 162 #[a, b] w fun e w' => e = .returned (.bool false) ∧ w' = w := by
  go_enter Tryz.func162, Tryz.ntmps162
  go_wp2_with fail
  go_ret
  exact ⟨rfl, rfl⟩

theorem below_grown {w w' : World} (hb : Below w.heap.size w w') : w.grownBy w' none := ⟨hb.os, hb.tape, hb.output, hb.size, fun k hk _ => hb.block k hk⟩
theorem grown_only {w w' : World} {r : Nat} (h : w.grownBy w' (some r)) : Only (fun k => k = r) w w' := ⟨h.os, h.tape, h.output, h.size, fun k hk hne => h.block k hk (fun e => hne (by injection e))⟩
theorem grown_below {w w' : World} (h : w.grownBy w' none) : Below w.heap.size w w' := ⟨h.os, h.tape, h.output, h.size, fun k hk => h.block k hk (by simp)⟩

def RetH (w : World) (T : Wd) (n d : Nat) (e : Ending) (w' : World) : Prop := ∃ b, e = .returned (.bool b) ∧ Hid (b = true ↔ Under T n d) ∧ Hid (Below w.heap.size w w')
/-- what has been gone through holds it not -/
def HdX (w : World) (T : Wd) (n d m r K : Nat) (D : DataW Unit) (wr : World) : Prop :=
  ∃ left cnt, wr.ranges Tryz.prog 9 nodeElem m r K D left cnt ∧ Below w.heap.size w wr ∧ ∀ nm c, child T n nm = some c → left (.string nm) = false → ¬ Under T c d

set_option maxRecDepth 100000 in
set_option maxHeartbeats 4000000 in
theorem holds_any (T : Wd) (hw : WF T) (B0 : Nat) (hB : ∀ i, i < T.length → ∀ k, Dep T i k → k ≤ B0) (tb : Nat) (f : Rl) (p : Nat → Nat) (K d : Nat) (hd : Live T d) (hkd : (nd T d).kind = 1) : ∀ (j n : Nat) (w : World), Live T n → (nd T n).kind = 1 → (∃ k, Dep T n k ∧ B0 ≤ k + j) → TreeIs w tb T f p K →
    Calls Tryz.prog 160 #[.pointer (some ⟨p n, 0, none⟩), .pointer (some ⟨p d, 0, none⟩)] w (RetH w T n d) := by
  intro j
  induction j using Nat.strongRecOn with
  | ind j ih =>
  intro n w hn hk hj h
  have H := Lib.hid h
  have hUD := Lib.hid (under_down (n := n) hw hd)
  by_cases hnd : n = d
  · subst hnd
    clear ih
    have hpe := ptr_same (p n) w
    go_enter Tryz.func160, Tryz.ntmps160
    go_wp2_with fail
    go_ret
    exact ⟨true, rfl, Lib.hid ⟨fun _ => .refl, fun _ => rfl⟩, Lib.hid (Below.refl _ _)⟩
  · have hpn : ¬ p n = p d := fun e => hnd (h.inj hn hd e)
    obtain ⟨m, hfm, -, hbx, D, hown, hsays⟩ := h.dir hn hk
    obtain ⟨md, -, -, hbd, -⟩ := h.dir hd hkd
    have hpe := ptr_other hpn hbx hbd
    obtain ⟨l0, l1⟩ := hbx.one
    clear hbd
    have HSD := Lib.hid hsays
    have HOWN := Lib.hid hown
    have HN := Lib.hid hn
    have HND := Lib.hid hnd
    have HJ := Lib.hid hj
    have HIH := Lib.hid ih
    have hm1 : ∀ w x, (method 200 68 (.pointer (some ⟨x, 0, none⟩)) "packthread/nodes.holds").run Tryz.prog w = .ok (160, .pointer (some ⟨x, 0, none⟩)) w := fun w x => by kernel_rfl
    clear h hbx hown hsays hn hnd hj ih hfm
    go_enter Tryz.func160, Tryz.ntmps160
    go_wp2_with (at_range; refine wpList_range_own _ rfl (.tmp 13) 105 rfl 9 109 lawS Tryz.underlying105 nodeElem m K D rfl HOWN.out ?_; intro w0 hrg0 hg0 hs0; have HRG0 := Lib.hid hrg0; have HG0 := Lib.hid hg0; clear hrg0 hg0 hs0)
    go_frame
    obtain ⟨r, hr⟩ : ∃ r, r = w.heap.size := ⟨_, rfl⟩
    have HR := Lib.hid hr
    rw [← hr] at HRG0 ⊢
    clear hr
    go_loopw [6] (fun _ wr => HdX w T n d m r K D wr) (fun _ wr => wr.rangeLeft m r)
    case atStart =>
      refine ⟨_, _, HRG0.out, grown_below HG0.out, fun nm c hc hl => ?_⟩
      have hs := (HSD.out nm).1
      unfold namesM at hs
      rw [hl, hc] at hs
      cases hs
    case round =>
      obtain ⟨left, cnt, hrg, hbw, hdone⟩ := hrel
      have HRG := Lib.hid hrg
      have HBW := Lib.hid hbw
      have HDONE := Lib.hid hdone
      clear hdone
      go_wp2_with (at_next; refine wpList_next_ranges _ rfl (.tmp 14) rfl 9 lawS nodeElem (fun s : Byt => .string (tx s)) mkV (fun key kl hkey => by obtain ⟨s, rfl, -, -⟩ := WideMaps.string_of_keyOf Tryz.underlying9 hkey; exact ⟨s.data.toList, by rw [← tx_of]⟩) (fun v y hv => (by obtain ⟨c, rfl, -⟩ := nodeElem_inv hv; exact ⟨c, rfl⟩)) m r K D left cnt rfl HRG.out ?_ ?_)
      · intro hc0 hl0
        go_wp2_with fail
        go_ret
        refine ⟨false, rfl, Lib.hid ⟨fun g => (by cases g), fun g => ?_⟩, Lib.hid HBW.out⟩
        rcases hUD.out.1 g with g | ⟨c, c0, c1, c2, c3⟩
        · exact absurd g.symm HND.out
        · exact absurd c3 (HDONE.out _ c ((child_some hw).2 ⟨c0, c1, c2, rfl⟩) (hl0 _))
      · intro x cv kl y1 y2 w1 cnt1 hkey hlk hR hat hrg1 hlt hg1 hs1 hen
        obtain ⟨hkl, c, hcv, hch⟩ : kl = .string x ∧ ∃ c, cv = some (vtx T p c) ∧ child T n x = some c := by
          obtain ⟨s, hs1, hs2, -⟩ := WideMaps.string_of_keyOf Tryz.underlying9 hkey
          injection hs1 with hs1
          have hkl : kl = .string x := by rw [hs2, ← hs1, tx_list]
          refine ⟨hkl, ?_⟩
          subst hkl
          rw [nodeElem_mk] at hR
          injection hR with hR
          injection hR with hR
          have hhas := has_true_of_atKey hat
          have hs := HSD.out x
          rw [hhas] at hs
          unfold namesM at hs
          rcases hcc : child T n x with _ | c
          · rw [hcc] at hs; cases hs.1
          · rw [hcc] at hs
            have h2 := hs.2 _ rfl
            rw [hat, ← hR] at h2
            exact ⟨c, datV_inj h2, rfl⟩
        subst hkl
        subst hcv
        obtain ⟨c0, c1, c2, -⟩ := child_is hw hch
        have HCH := Lib.hid hch
        have HRG1 := Lib.hid hrg1
        have HLT := Lib.hid hlt
        have hbw1 : Below w.heap.size w w1 := ((grown_only hg1).below (B := w.heap.size) (fun k hk => by rw [hk, HR.out]; exact Nat.le_refl _) hbw.size).mono (Nat.le_refl _) |> fun h => hbw.trans h
        have HBW1 := Lib.hid hbw1
        have HT1 := Lib.hid (H.out.new hbw1)
        have HC1 := Lib.hid c1
        have HC0 := Lib.hid c0
        have HC2 := Lib.hid c2
        obtain ⟨kn, hkn, hknj⟩ := HJ.out
        have hdc : Dep T c (kn + 1) := .step c0 c1 (c2 ▸ hkn)
        have hkb := hB c c1.1 _ hdc
        have hstep : (∀ b, Hid (b = true ↔ Under T c d) → b = false → ∀ nm c', child T n nm = some c' → (left (.string nm) && !(Lit.string nm).sameKey (.string x)) = false → ¬ Under T c' d) := fun b hb hbf nm c' hc' hl hu => by
          by_cases g : left (.string nm) = false
          · exact HDONE.out nm c' hc' g hu
          · have : (Lit.string nm).sameKey (.string x) = true := by
              rcases hsk : (Lit.string nm).sameKey (.string x) with _ | _
              · rw [hsk] at hl; simp at hl; exact absurd hl g
              · rfl
            have hne : nm = x := Classical.byContradiction fun hn => by rw [sameKey_ne (ne_s hn)] at this; cases this
            subst hne
            rw [HCH.out] at hc'
            injection hc' with hc'
            subst hc'
            have := hb.out.2 hu
            rw [hbf] at this; cases this
        have HSTEP := Lib.hid hstep
        have hvv : mkV (some (vtx T p c)) = .iface (tyK (nd T c).kind) (.pointer (some ⟨p c, 0, none⟩)) := rfl
        have huU : Under T c d → Under T n d := fun g => hUD.out.2 (.inr ⟨c, c0, c1, c2, g⟩)
        have HUU := Lib.hid huU
        clear hstep hkey hlk hR hat hrg hrg1 hlt hbw hbw1 hg1 hs1 hch c2 huU
        rcases hw.kin c c1 with k1 | k1 | k1
        · rw [tyK_1 k1] at hvv
          rw [hvv] at hen ⊢
          have HCALL := Lib.hid (HIH.out (j - 1) (by omega) c w1 c1 k1 ⟨kn + 1, hdc, by omega⟩ HT1.out)
          clear hvv k1 hdc hkn hknj hkb c0 c1
          go_wp2_with (go_at_call 160; refine HCALL.out.mono ?_; rintro e w2 ⟨b, rfl, hbu, HB2⟩; have HBU := Lib.hid hbu.out; clear hbu)
          · have hbt : b = true := by assumption
            go_ret
            exact ⟨true, rfl, Lib.hid ⟨fun _ => HUU.out (HBU.out.1 hbt), fun _ => rfl⟩, Lib.hid (bthen HBW1.out HB2.out)⟩
          · have hbf : b = false := by first | assumption | simpa using (by assumption : ¬ b = true)
            have hrg2 := HRG1.out.kept (below_grown HB2.out) (by simp) (by simp)
            refine ⟨⟨_, _, hrg2, bthen HBW1.out HB2.out, HSTEP.out b (Lib.hid HBU.out) hbf⟩, ?_⟩
            rw [hrg2.left_eq, HRG.out.left_eq]; exact HLT.out
        · rw [tyK_2 k1] at hvv
          rw [hvv] at hen ⊢
          have hm2 : ∀ w x, (method 200 73 (.pointer (some ⟨x, 0, none⟩)) "packthread/nodes.holds").run Tryz.prog w = .ok (161, .pointer (some ⟨x, 0, none⟩)) w := fun w x => by kernel_rfl
          have HNU : Hid (false = true ↔ Under T c d) := Lib.hid ⟨fun g => (by cases g), fun g => by
            rcases (under_down (n := c) hw hd).1 g with e | ⟨c', c'0, c'1, c'2, -⟩
            · rw [e, k1] at hkd; cases hkd
            · have := (hw.par c' c'0 c'1).2; rw [c'2, k1] at this; cases this⟩
          clear hvv k1 hdc hkn hknj hkb c0 c1
          go_wp2_with (go_at_call 161; refine (holdsF_any _ _ _).mono ?_; rintro e w2 ⟨rfl, rfl⟩)
          refine ⟨⟨_, _, HRG1.out, HBW1.out, HSTEP.out false HNU rfl⟩, ?_⟩
          rw [HRG1.out.left_eq, HRG.out.left_eq]; exact HLT.out
        · rw [tyK_3 k1] at hvv
          rw [hvv] at hen ⊢
          have hm3 : ∀ w x, (method 200 112 (.pointer (some ⟨x, 0, none⟩)) "packthread/nodes.holds").run Tryz.prog w = .ok (162, .pointer (some ⟨x, 0, none⟩)) w := fun w x => by kernel_rfl
          have HNU : Hid (false = true ↔ Under T c d) := Lib.hid ⟨fun g => (by cases g), fun g => by
            rcases (under_down (n := c) hw hd).1 g with e | ⟨c', c'0, c'1, c'2, -⟩
            · rw [e, k1] at hkd; cases hkd
            · have := (hw.par c' c'0 c'1).2; rw [c'2, k1] at this; cases this⟩
          clear hvv k1 hdc hkn hknj hkb c0 c1
          go_wp2_with (go_at_call 162; refine (holdsL_any _ _ _).mono ?_; rintro e w2 ⟨rfl, rfl⟩)
          refine ⟨⟨_, _, HRG1.out, HBW1.out, HSTEP.out false HNU rfl⟩, ?_⟩
          rw [HRG1.out.left_eq, HRG.out.left_eq]; exact HLT.out

end Go.Proofs.YthjpighlcalocaaGreatDoor
