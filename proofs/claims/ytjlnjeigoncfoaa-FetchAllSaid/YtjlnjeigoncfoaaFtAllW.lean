/-
  packthreadkeep.FetchAll.
-/
import Derived.Test.YtjlnjeigoncfoaaFtAll
namespace Go.Proofs.Ytjlnjeigoncfoaa
open Go.RowKit
set_option linter.unusedVariables false
set_option linter.unusedSimpArgs false

set_option maxHeartbeats 2000000 in
theorem walkFetchAll (seed size : Int) (A : Option Addr) (n c : Nat) (l : List Int) (w : World) (s1 : -9223372036854775808 ≤ seed) (s2 : seed ≤ 9223372036854775807) (z1 : -9223372036854775808 ≤ size) (z2 : size ≤ 9223372036854775807)
    (hb : Ls inS w A l) (hn : l.length = n) (hc : n ≤ c) (hr : c ≤ 17592186043904) (hi : ∀ z ∈ l, i64in z) :
    Calls Try.prog 4 #[.int .i64 seed, .int .i64 size, .slice A n c] w fun e w' => e = .returned (.bool true) ∧ Below w.heap.size w w' := by
  have HL := Lib.hid hb
  have HN := Lib.hid hn
  have HI := Lib.hid hi
  obtain ⟨sz, hsz, hsz2⟩ := pick_nat size 900 (by omega)
  have HST := Lib.hid (stream_any seed sz w s1 s2 (by omega))
  clear hb hn hi
  go_enter Try.func4, Try.ntmps4
  go_upto_region 2 with (first
    | (go_at_call 10; (with_reducible refine (picked_n size 900 sz _ hsz z1 z2 (by omega) (by omega)).mono ?_); rintro e w' ⟨rfl, rfl⟩)
    | (go_at_call 9; (with_reducible refine HST.out.mono ?_); rintro e w1 ⟨F, cf, zs, rfl, hof, hzz, hb1⟩; have HF := Lib.hid hof; have HB1 := Lib.hid hb1; clear hof hzz hb1))
  have HFD := Lib.hid (fetched_any F sz cf zs A n c l w1 (HF.out.base (Nat.zero_le _)) (by omega) (HL.out.below HB1.out) HN.out hc hr HI.out)
  have HSM : Hid (∀ (w2 : World) (A2 : Option Addr) (n2 c2 : Nat), Ls byS w2 A2 zs → zs.length = n2 → Below w1.heap.size w1 w2 → Calls Try.prog 12 #[.slice A2 n2 c2, .slice F sz cf] w2 fun e w' => e = .returned (.bool true) ∧ Below w2.heap.size w2 w') := Lib.hid (fun w2 A2 n2 c2 h1 h2 h3 => by
    have e : n2 = sz := by rw [← h2]; exact HF.out.1
    rw [e]
    exact same_keep A2 sz c2 F cf zs w2 h1 (HF.out.below h3).ls HF.out.1 (by omega))
  go_wp2_with (first
    | (go_at_call 11; (with_reducible refine HFD.out.mono ?_); rintro e w2 ⟨A2, n2, c2, rfl, hl2, hn2, hb2⟩; have HL2 := Lib.hid hl2; have HN2 := Lib.hid hn2; have HB2 := Lib.hid hb2; clear hl2 hn2 hb2)
    | (go_at_call 12; (with_reducible refine (HSM.out _ _ _ _ HL2.out HN2.out HB2.out).mono ?_); rintro e w3 ⟨rfl, hb3⟩; have HB3 := Lib.hid hb3; clear hb3))
  go_ret
  exact ⟨rfl, bthen (bthen HB1.out HB2.out) HB3.out⟩

end Go.Proofs.Ytjlnjeigoncfoaa
