/-
  Parts that are wiped.
-/
import Derived.Test.YtelfnlocgknpjaaMReq
namespace Go.Proofs.Ytelfnlocgknpjaa
open Go.RowKit
set_option linter.unusedVariables false
set_option linter.unusedSimpArgs false

def zeroOf : Pt → PV
  | .num _ _ => .n 0
  | .txt _ => .t []
  | .dat _ => .d none 0 0 []
def wpF : Pt → Nat
  | .num _ _ => 99
  | .txt _ => 103
  | .dat _ => 109
def RetWp (T : Nat → Prop) (I : World → (Nat → PV) → Prop) (w : World) (σ : Nat → PV) (e : Ending) (w' : World) : Prop := e = .returned (.tuple #[]) ∧ Only T w w' ∧ I w' σ
set_option maxHeartbeats 4000000 in
theorem wipe_any {T : Nat → Prop} {ps : List Pt} {I : World → (Nat → PV) → Prop} (fm : Fm T ps I) (i : Nat) (p : Pt) (hp : ps[i]? = some p) (w : World) (σ : Nat → PV) (hI : I w σ) :
    Calls Try.prog (wpF p) #[tkG p] w (RetWp T I w (upd σ i (zeroOf p))) := by
  have hsp := (fm.mem i p hp).2
  have hTq := (fm.mem i p hp).1
  have HTQ := Lib.hid hTq
  have HP := Lib.hid hp
  have HFM := Lib.hid fm
  have hqs := (fm.get w σ i p hI hp).1
  have HI := Lib.hid hI
  clear fm hp hTq hI
  rcases p with ⟨⟨q, o, sp⟩, k⟩ | ⟨q, o, sp⟩ | ⟨q, o, sp⟩
  · obtain rfl : sp = none := hsp
    show Calls Try.prog 99 #[.agg #[.pointer (some ⟨q, o, none⟩), .int .i64 k]] w _
    obtain ⟨w1, hw1⟩ : ∃ w1, w1 = w.alloc (.cells #[.pointer (some ⟨q, o, none⟩), .int .i64 k] 68) := ⟨_, rfl⟩
    obtain ⟨B, hB⟩ : ∃ B, B = w.heap.size := ⟨_, rfl⟩
    have HB1 : Hid (Below w.heap.size w w1) := Lib.hid (by rw [hw1]; exact ba1 _ _)
    have HX : Hid (Bx 68 w1 B #[.pointer (some ⟨q, o, none⟩), .int .i64 k]) := Lib.hid (by rw [hw1, hB]; exact bx_new _ _ _)
    have HBV := Lib.hid hB
    have HI1 := Lib.hid (HFM.out.new _ _ _ HI.out HB1.out)
    have b0 : w1.cell? ⟨B, 0, none⟩ = some (.pointer (some ⟨q, o, none⟩)) := HX.out.cell 0 _ rfl
    obtain ⟨g1, g2, g3, -⟩ := HFM.out.get w1 σ i _ HI1.out HP.out
    simp only [Pt.adr] at g1 g2 g3
    clear hB hqs
    go_enter Try.func99, Try.ntmps99
    go_upto_region 1 with fail
    rw [← hw1, ← HBV.out]
    clear hw1
    go_wp2_with fail
    go_end0
    exact ⟨rfl, (only_new HB1.out).setCell (.inl HTQ.out) _, HFM.out.put w1 σ i _ (.n 0) HI1.out HP.out trivial trivial⟩
  · obtain rfl : sp = none := hsp
    show Calls Try.prog 103 #[.agg #[.pointer (some ⟨q, o, none⟩)]] w _
    obtain ⟨w1, hw1⟩ : ∃ w1, w1 = w.alloc (.cells #[.pointer (some ⟨q, o, none⟩)] 78) := ⟨_, rfl⟩
    obtain ⟨B, hB⟩ : ∃ B, B = w.heap.size := ⟨_, rfl⟩
    have HB1 : Hid (Below w.heap.size w w1) := Lib.hid (by rw [hw1]; exact ba1 _ _)
    have HX : Hid (Bx 78 w1 B #[.pointer (some ⟨q, o, none⟩)]) := Lib.hid (by rw [hw1, hB]; exact bx_new _ _ _)
    have HBV := Lib.hid hB
    have HI1 := Lib.hid (HFM.out.new _ _ _ HI.out HB1.out)
    have b0 : w1.cell? ⟨B, 0, none⟩ = some (.pointer (some ⟨q, o, none⟩)) := HX.out.cell 0 _ rfl
    obtain ⟨g1, g2, g3, -⟩ := HFM.out.get w1 σ i _ HI1.out HP.out
    simp only [Pt.adr] at g1 g2 g3
    clear hB hqs
    go_enter Try.func103, Try.ntmps103
    go_upto_region 1 with fail
    rw [← hw1, ← HBV.out]
    clear hw1
    go_wp2_with fail
    go_end0
    exact ⟨rfl, (only_new HB1.out).setCell (.inl HTQ.out) _, HFM.out.put w1 σ i _ (.t []) HI1.out HP.out trivial trivial⟩
  · obtain rfl : sp = none := hsp
    show Calls Try.prog 109 #[.agg #[.pointer (some ⟨q, o, none⟩)]] w _
    obtain ⟨w1, hw1⟩ : ∃ w1, w1 = w.alloc (.cells #[.pointer (some ⟨q, o, none⟩)] 81) := ⟨_, rfl⟩
    obtain ⟨B, hB⟩ : ∃ B, B = w.heap.size := ⟨_, rfl⟩
    have HB1 : Hid (Below w.heap.size w w1) := Lib.hid (by rw [hw1]; exact ba1 _ _)
    have HX : Hid (Bx 81 w1 B #[.pointer (some ⟨q, o, none⟩)]) := Lib.hid (by rw [hw1, hB]; exact bx_new _ _ _)
    have HBV := Lib.hid hB
    have HI1 := Lib.hid (HFM.out.new _ _ _ HI.out HB1.out)
    have b0 : w1.cell? ⟨B, 0, none⟩ = some (.pointer (some ⟨q, o, none⟩)) := HX.out.cell 0 _ rfl
    obtain ⟨g1, g2, g3, -⟩ := HFM.out.get w1 σ i _ HI1.out HP.out
    simp only [Pt.adr] at g1 g2 g3
    clear hB hqs
    go_enter Try.func109, Try.ntmps109
    go_upto_region 1 with fail
    rw [← hw1, ← HBV.out]
    clear hw1
    go_wp2_with fail
    go_end0
    exact ⟨rfl, (only_new HB1.out).setCell (.inl HTQ.out) _, HFM.out.put w1 σ i _ (.d none 0 0 []) HI1.out HP.out trivial ⟨Ls.nil _ _, rfl, .inl rfl⟩⟩
end Go.Proofs.Ytelfnlocgknpjaa
