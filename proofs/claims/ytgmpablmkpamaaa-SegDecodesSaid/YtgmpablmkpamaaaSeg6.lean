/-
  Contracts of bytes.Clone and seg.bareSum.
-/
import Derived.Test.YtgmpablmkpamaaaSeg4
import Derived.Lib.SliceRun
namespace Go.Proofs.Ytgmpablmkpamaaa
open Go.RowKit
set_option linter.unusedVariables false
set_option linter.unusedSimpArgs false

theorem ownB_new (w : World) (base : Nat) (hb : base ≤ w.heap.size) (zs : List Int) (n : Nat) (cs : Array Value) (h0 : ∀ z ∈ zs, 0 ≤ z ∧ z ≤ 255) (hcs : cs = (zs.map (Value.int .u8)).toArray) (hn : zs.length = n) (hm : n ≤ 1000000) (b : Nat) (hbb : b = w.heap.size) :
    OwnB (w.alloc (.cells cs 5)) base (some ⟨b, 0, none⟩) n n zs := by
  subst hbb; subst hcs
  refine ⟨h0, hn, ?_⟩
  have := World.ownsRow_lit (base := base) (e := 5) (size := 1) w (zs.map (Value.int .u8)).toArray n hb (by simp only [maxLen]; omega) (by simp [hn])
  simpa using this

theorem OwnB.cap {w : World} {base : Nat} {A : Option Addr} {n c : Nat} {zs : List Int} (h : OwnB w base A n c zs) : n ≤ c := by
  rcases h.2.2.2 with ⟨hv, hn⟩ | ⟨g, cap, cur, hv, hg, hh, hx⟩
  · injection hv with hA h1 hcc
    omega
  · injection hv with hA _ hcc
    omega

theorem clone_some (b o n c : Nat) (zs : List Int) (w : World) (hb : Bs w (some ⟨b, o, none⟩) zs) (hn : zs.length = n) (hm : n ≤ 140737488355328) :
    Calls Try.prog 43 #[.slice (some ⟨b, o, none⟩) n c] w fun e w' => ∃ A c', e = .returned (.slice A n c') ∧ OwnB w' w.heap.size A n c' zs ∧ Below w.heap.size w w' := by
  have HB := Lib.hid hb
  have HN := Lib.hid hn
  clear hb hn
  go_enter Try.func43, Try.ntmps43
  have hnil : ∀ w : World, (binOp .eql 23 (.slice (some ⟨b, o, none⟩) n c) (.slice none 0 0)).run Try.prog w = .ok (.bool false) w := fun w => Lib.run_eql_slice_nil w 23 5 (some ⟨b, o, none⟩) n c 0 0 Try.underlying23
  go_wp2_with (at_builtin; refine wpList_appB rfl _ (.tmp 5) (.tmp 6) rfl w.heap.size (some ⟨w.heap.size, 0, none⟩) 0 0 [] rfl (ownB_new w w.heap.size (Nat.le_refl _) [] 0 _ (by simp) rfl rfl (by omega) _ rfl) (some ⟨b, o, none⟩) n c zs rfl (HB.out.below (ba1 _ _)) HN.out n (by omega) (by omega) (by simp) ?_; intro A5 c5 w5 ho5 hb5 _; have O5 := Lib.hid ho5; have HB5 := Lib.hid ((ba1 w (.cells #[] 5)).trans hb5); clear ho5 hb5)
  go_ret
  exact ⟨A5, c5, rfl, by simpa using O5.out, HB5.out⟩

theorem run_clear2 (w : World) (g o c : Nat) {x y : Int} (y0 : w.cell? ⟨g, o, none⟩ = some (.int .u8 x)) (y1 : w.cell? ⟨g, o + 1, none⟩ = some (.int .u8 y)) (y2 : w.frozen? ⟨g, o, none⟩ = false) (y3 : w.frozen? ⟨g, o + 1, none⟩ = false) (ty : TypeId) :
    (Builtin.clear_ #[23] ty #[.slice (some ⟨g, o, none⟩) 2 c]).run Try.prog w = .ok (.tuple #[]) ((w.setCell ⟨g, o, none⟩ (.int .u8 0)).setCell ⟨g, o + 1, none⟩ (.int .u8 0)) := by
  have := Lib.run_clear_slice (P := Try.prog) w 23 5 ty (.int .u8 0) Try.underlying23 (fun _ => by kernel_rfl) rfl rfl g o 2 c (by omega)
    (by intro j hj; match j, hj with | 0, _ => simp [y0] | 1, _ => simp [y1]) (by intro j hj; match j, hj with | 0, _ => simp [y2] | 1, _ => simp [y3])
  rw [this]
  rfl

/-- what a byte list is with the two bytes of its sum as 0 -/
theorem bare_any (b o n c : Nat) (zs : List Int) (w : World) (hb : Bs w (some ⟨b, o, none⟩) zs) (hn : zs.length = n) (h10 : 10 ≤ n) (hm : n ≤ 140737488355328) :
    Calls Try.prog 30 #[.slice (some ⟨b, o, none⟩) n c] w fun e w' => e = .returned (.int .i64 (65535 - fo (tot 0 (bare zs)))) ∧ Below w.heap.size w w' := by
  have HB := Lib.hid hb
  have HN := Lib.hid hn
  obtain ⟨v, hv⟩ : ∃ v, v = 65535 - fo (tot 0 (bare zs)) := ⟨_, rfl⟩
  rw [← hv]
  have HV := Lib.hid hv
  clear hb hn hv
  go_enter Try.func30, Try.ntmps30
  go_wp2_with (first
    | (go_at_call 43; refine (clone_some b o n c zs _ HB.out HN.out hm).mono ?_; rintro e w2 ⟨A2, c2, rfl, ho2, hb2⟩; obtain ⟨g, rfl, hg0, hg1⟩ := ho2.some_ (by omega); have y0 := ho2.cell 8 (by omega); have y1 := ho2.cell 9 (by omega); have y2 := ho2.soft 8; have y3 := ho2.soft 9; have hcp := ho2.cap; have q1 : ¬ c2 = 8 := (by omega); have q2 : 10 ≤ c2 := (by omega); have hcl := run_clear2 w2 g 8 (c2 - 8) y0 y1 y2 y3; have O2 := Lib.hid ho2; have HB2 := Lib.hid hb2; have hbare : Hid (OwnB ((w2.setCell ⟨g, 8, none⟩ (.int .u8 0)).setCell ⟨g, 9, none⟩ (.int .u8 0)) w.heap.size (some ⟨g, 0, none⟩) n c2 (bare zs)) := Lib.hid (((ho2.put 8 0 (by omega)).1.put 9 0 (by omega)).1); clear ho2 hb2)
    | (go_at_call 25; refine (sum_any _ n c2 (bare zs) _ hbare.out.bs hbare.out.2.1 (by omega)).mono ?_; rw [← HV.out]; rintro e w' ⟨rfl, rfl⟩))
  go_ret
  exact ⟨rfl, (HB2.out.setCell hg0 _).setCell hg0 _⟩

end Go.Proofs.Ytgmpablmkpamaaa
