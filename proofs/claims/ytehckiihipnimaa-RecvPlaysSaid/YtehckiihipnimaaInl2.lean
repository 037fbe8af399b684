/-
  The document's Inlet: a new one; the first place that did not come.
-/
import Derived.Test.YtehckiihipnimaaInl1
namespace Go.Proofs.Ytehckiihipnimaa
open Go.RowKit Go.Maps
set_option linter.unusedVariables false
set_option linter.unusedSimpArgs false

def inC (room : Int) (bm : Nat) (taken stop : Int) (ended : Bool) : Array Value := #[.int .i64 room, .map (some bm), .int .i64 taken, .int .i64 stop, .bool ended]
theorem newInlet (room : Int) (w : World) :
    Calls Try.prog 44 #[.int .i64 room] w fun e w' => ∃ B bm, e = .returned (.pointer (some ⟨B, 0, none⟩)) ∧ Bx 121 w' B (inC room bm 0 0 false) ∧ MapIs w' bm 0 (fun _ => none) ∧ bm ≠ B ∧ w.heap.size ≤ bm ∧ w.heap.size ≤ B ∧ Below w.heap.size w w' := by
  have hmm := @run_makeMap Try.prog
  go_enter Try.func44, Try.ntmps44
  go_wp2
  go_ret
  refine ⟨w.heap.size + 1, w.heap.size, rfl, ?_, (mapIs_made w).below (ba1 _ _), by omega, Nat.le_refl _, by omega, ba2 _ _ _⟩
  have := bx_new (w.alloc (.map #[] 0)) 121 (inC room w.heap.size 0 0 false)
  rw [show (w.alloc (.map #[] 0)).heap.size = w.heap.size + 1 by simp] at this
  exact this

set_option maxHeartbeats 1000000 in
theorem low_any (w : World) (B bm K : Nat) (room taken stop : Int) (ended : Bool) (M : Int → Option Int) (d : Int) (hx : Bx 121 w B (inC room bm taken stop ended)) (hm : MapIs w bm K M) (h0 : 0 ≤ taken) (h1 : taken ≤ d) (h2 : d ≤ 1048576)
    (hin : ∀ x, taken ≤ x → x < d → (M x).isSome = true) (hout : M d = none) :
    Calls Try.prog 61 #[.pointer (some ⟨B, 0, none⟩)] w fun e w' => e = .returned (.int .i64 d) ∧ w = w' := by
  have c1 := hx.cell 1 (.map (some bm)) rfl
  have c2 := hx.cell 2 (.int .i64 taken) rfl
  have lB := hx.lt
  have HM := Lib.hid hm
  have HIN := Lib.hid hin
  have HOUT := Lib.hid hout
  clear hm hin hout hx
  go_enter Try.func61, Try.ntmps61
  go_wp2
  go_loopw [3] (fun i wr => ∃ n : Int, taken ≤ n ∧ n ≤ d ∧ i = .int .i64 n ∧ w = wr) (fun i _ => (d - intOf i).toNat)
  case atStart => exact ⟨taken, Int.le_refl _, h1, rfl, rfl⟩
  case round =>
    obtain ⟨n, g1, g2, rfl, rfl⟩ := hrel
    have hi : i64in n := ⟨by omega, by omega⟩
    have e1 : IntKind.i64.wrap (n + 1) = n + 1 := by rw [IntKind.wrap_i64]; omega
    by_cases hlt : n < d
    · have hs := HIN.out n g1 hlt
      go_wp2_with (at_lookup; refine wpList_look _ rfl _ _ rfl bm K M rfl HM.out n hi rfl ?_; intro c hc; rw [hs]; clear hc)
      exact ⟨⟨n + 1, by omega, by omega, rfl, by first | rfl | trivial⟩, by simp [intOf]; omega⟩
    · obtain rfl : n = d := by omega
      have hs := HOUT.out
      go_wp2_with (at_lookup; refine wpList_look _ rfl _ _ rfl bm K M rfl HM.out n hi rfl ?_; intro c hc; rw [hs]; clear hc)
      go_ret
      exact ⟨rfl, rfl⟩

end Go.Proofs.Ytehckiihipnimaa
