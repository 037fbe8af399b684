/-
  packthreadkeep.sameLists: where they are the same.
-/
import Derived.Test.YtmeppeedbnnmjaaSameKeep
import Derived.Test.YtmeppeedbnnmjaaLists
namespace Go.Proofs.Ytmeppeedbnnmjaa
open Go.RowKit
set_option linter.unusedVariables false
set_option linter.unusedSimpArgs false

theorem lists_keepq (A : Option Addr) (n c : Nat) (B : Option Addr) (d : Nat) (l m : List Lv) (ts : List (List Int)) (w : World) (S T : Nat → Prop) (ha : Ls lvS w A l) (hb : Ls lvS w B m) (hla : LI w S l) (hlb : LI w T m) (h1 : l.map Lv.l = ts) (h2 : m.map Lv.l = ts) (hn : ts.length = n) (h47 : n ≤ 5864062014634) (hfew : ∀ t ∈ ts, t.length ≤ 140737488355328) :
    Calls Try.prog 16 #[.slice A n c, .slice B n d] w fun e w' => e = .returned (.bool true) ∧ ∃ m, w' = w.drewN m := by
  have HA := Lib.hid ha
  have HB := Lib.hid hb
  have HLA := Lib.hid hla
  have HLB := Lib.hid hlb
  have H1 := Lib.hid h1
  have H2 := Lib.hid h2
  have HN := Lib.hid hn
  have HF := Lib.hid hfew
  clear ha hb hla hlb h1 h2 hn hfew
  go_enter Try.func16, Try.ntmps16
  go_wp2
  go_loopw [5] (fun i wr => ∃ k m : Nat, k ≤ n ∧ i = .int .i64 k ∧ wr = w.drewN m) (fun i _ => n - (intOf i).toNat)
  case atStart => exact ⟨0, 0, Nat.zero_le _, rfl, rfl⟩
  case round =>
    obtain ⟨k, q, hk, rfl, hq⟩ := hrel
    have hb1 : Below w.heap.size w wr := by rw [hq]; exact below_drewN (Below.refl _ _) q
    have HQ := Lib.hid hq
    clear hq
    by_cases hlt : k < n
    · obtain ⟨x, hx⟩ : ∃ x, ts[k]? = some x := ⟨_, List.getElem?_eq_getElem (by rw [HN.out]; exact hlt)⟩
      obtain ⟨X, cx, ⟨b, o, rfl, hc1, g1⟩, f1⟩ := LI.at (HA.out.below hb1) H1.out (HLA.out.new hb1) k x hx
      obtain ⟨Y, cy, ⟨b', o', rfl, hc2, g2⟩, f2⟩ := LI.at (HB.out.below hb1) H2.out (HLB.out.new hb1) k x hx
      have hxl := HF.out x (List.mem_of_getElem? hx)
      obtain ⟨xl, hxe⟩ : ∃ v, v = x.length := ⟨_, rfl⟩
      rw [← hxe] at g1 g2 hxl
      have HS : Hid (∀ r, Calls Try.prog 17 #[.slice X xl cx, .slice Y xl cy] (World.drewN wr r) fun e w' => e = .returned (.bool true) ∧ ∃ m, w' = (World.drewN wr r).drewN m) := Lib.hid (fun r => same_keepq X xl cx Y cy x (World.drewN wr r) (f1.below (below_drewN (Below.refl _ _) r)) (f2.below (below_drewN (Below.refl _ _) r)) hxe.symm hxl)
      clear hx hxe f1 f2 hb1
      go_wp2
      go_quiet ((go_at_call 17; exact Calls.quiet_of (HS.out _)))
      go_wp2
      go_roundw
      case rel => exact ⟨k + 1, _, by omega, by go_num, by rw [HQ.out, World.drewN_drewN]⟩
      case measure => simp [intOf]; omega
    · go_wp2
      go_ret
      exact ⟨rfl, q, HQ.out⟩
theorem lists_keep (A : Option Addr) (n c : Nat) (B : Option Addr) (d : Nat) (l m : List Lv) (ts : List (List Int)) (w : World) (S T : Nat → Prop) (ha : Ls lvS w A l) (hb : Ls lvS w B m) (hla : LI w S l) (hlb : LI w T m) (h1 : l.map Lv.l = ts) (h2 : m.map Lv.l = ts) (hn : ts.length = n) (h47 : n ≤ 5864062014634) (hfew : ∀ t ∈ ts, t.length ≤ 140737488355328) :
    Calls Try.prog 16 #[.slice A n c, .slice B n d] w fun e w' => e = .returned (.bool true) ∧ Below w.heap.size w w' :=
  (lists_keepq A n c B d l m ts w S T ha hb hla hlb h1 h2 hn h47 hfew).mono fun e w' h => ⟨h.1, by obtain ⟨m, hm⟩ := h.2; rw [hm]; exact below_drewN (Below.refl _ _) m⟩

end Go.Proofs.Ytmeppeedbnnmjaa
