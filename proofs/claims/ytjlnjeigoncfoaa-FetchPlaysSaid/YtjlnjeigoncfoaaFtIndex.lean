/-
  slices.Index of a want; slices.Delete of one want.
-/
import Derived.Test.YtjlnjeigoncfoaaFtOn
namespace Go.Proofs.Ytjlnjeigoncfoaa
open Go.RowKit
set_option linter.unusedVariables false
set_option linter.unusedSimpArgs false

/-- the first place of x in l, or none -/
def IdxIs (l : List Wt) (x : Wt) (i : Int) : Prop := (x ∉ l ∧ i = -1) ∨ (∃ k : Nat, i = k ∧ k < l.length ∧ x ∈ l ∧ l.erase x = l.take k ++ l.drop (k + 1))
theorem idx_at {l : List Wt} {x : Wt} {k : Nat} (h : l[k]? = some x) (hn : x ∉ l.take k) : IdxIs l x k := by
  have hlt := (List.getElem?_eq_some_iff.1 h).1
  refine .inr ⟨k, rfl, hlt, List.mem_of_getElem? h, ?_⟩
  have hd : l.drop k = x :: l.drop (k + 1) := by rw [List.drop_eq_getElem_cons hlt]; congr 1; simpa [List.getElem?_eq_getElem hlt] using h
  conv => lhs; rw [← List.take_append_drop k l, hd]
  rw [List.erase_append_right _ hn, List.erase_cons_head]
set_option maxHeartbeats 2000000 in
theorem index_any (A : Option Addr) (n c : Nat) (l : List Wt) (a b : Int) (w : World) (hb : Ls wtS w A l) (hn : l.length = n) (h47 : n ≤ 1000) :
    Calls Try.prog 20 #[.slice A n c, .agg #[.int .i64 a, .int .i64 b]] w fun e w' => (∃ i : Int, e = .returned (.int .i64 i) ∧ IdxIs l (a, b) i) ∧ Below w.heap.size w w' := by
  have HN := Lib.hid hn
  obtain ⟨Q, hQ⟩ : ∃ Q, Q = w.heap.size := ⟨_, rfl⟩
  obtain ⟨w1, hw1⟩ : ∃ w1, w1 = w.alloc (.cells #[.int .i64 a, .int .i64 b] 33) := ⟨_, rfl⟩
  have HB1 : Hid (Below w.heap.size w w1) := Lib.hid (by rw [hw1]; exact ba1 _ _)
  have HX : Hid (Bx 33 w1 Q #[.int .i64 a, .int .i64 b]) := Lib.hid (by rw [hw1, hQ]; exact bx_new _ _ _)
  have HB := Lib.hid (hb.below HB1.out)
  clear hb hn
  go_enter Try.func20, Try.ntmps20
  go_upto_region 1 with fail
  rw [← hw1, ← hQ]
  clear hw1 hQ
  go_wp2
  go_loopw [8] (fun i wr => ∃ k : Nat, k ≤ n ∧ i = .int .i64 k ∧ (a, b) ∉ l.take k ∧ Below w1.heap.size w1 wr) (fun i _ => n - (intOf i).toNat)
  case atStart => exact ⟨0, Nat.zero_le _, rfl, by simp, Below.refl _ _⟩
  case round =>
    obtain ⟨k, hk, rfl, hy, hb3⟩ := hrel
    have HY := Lib.hid hy
    have HB3 := Lib.hid hb3
    obtain ⟨x0, x1, x2⟩ : wr.cell? ⟨Q, 0, none⟩ = some (.int .i64 a) ∧ wr.cell? ⟨Q, 1, none⟩ = some (.int .i64 b) ∧ Q < wr.heap.size := by
      have := HX.out.below hb3
      exact ⟨this.cell 0 _ rfl, this.cell 1 _ rfl, this.lt⟩
    clear hy hb3
    by_cases hlt : k < n
    · obtain ⟨⟨p, q⟩, hx⟩ : ∃ x, l[k]? = some x := ⟨_, List.getElem?_eq_getElem (by rw [HN.out]; exact hlt)⟩
      obtain ⟨bb, o, rfl, hbs, hcc⟩ := (HB.out.below HB3.out).at k _ hx
      have hc1 := hcc 0 (.int .i64 p) rfl
      have hc2 := hcc 1 (.int .i64 q) rfl
      simp only [wtS, Nat.add_zero] at hc1 hc2
      have hki : (k : Int) < (n : Int) := by omega
      have HXX := Lib.hid hx
      clear hcc hx
      by_cases hab : a = p ∧ b = q
      · obtain ⟨rfl, rfl⟩ := hab
        have heq : ∀ ww : World, (binOp .eql 33 (.agg #[.int .i64 a, .int .i64 b]) (.agg #[.int .i64 a, .int .i64 b])).run Try.prog ww = .ok (.bool true) ww := fun ww => by simp [go_sem]
        go_upto_region 4 with fail
        go_quiet (fail)
        go_wp2_with fail
        go_ret
        exact ⟨⟨k, rfl, idx_at HXX.out HY.out⟩, bthen HB1.out (below_drewN HB3.out _)⟩
      · have heq : ∀ ww : World, (binOp .eql 33 (.agg #[.int .i64 a, .int .i64 b]) (.agg #[.int .i64 p, .int .i64 q])).run Try.prog ww = .ok (.bool false) ww := fun ww => by simp [go_sem]; exact fun h1 h2 => hab ⟨h1, h2⟩
        have HAB := Lib.hid hab
        clear hab
        go_upto_region 4 with fail
        go_quiet (fail)
        go_wp2_with fail
        exact ⟨⟨k + 1, by omega, by go_num, by
          rw [List.take_add_one, HXX.out]
          simp only [Option.toList, List.mem_append, List.mem_singleton, Prod.mk.injEq]
          exact fun h => h.elim HY.out HAB.out, below_drewN HB3.out _⟩, by simp [intOf]; omega⟩
    · have hall : (a, b) ∉ l := by
        have := HY.out
        rwa [List.take_of_length_le (by rw [HN.out]; omega)] at this
      have HA := Lib.hid hall
      clear hall
      go_wp2
      go_ret
      exact ⟨⟨-1, rfl, .inl ⟨HA.out, rfl⟩⟩, bthen HB1.out HB3.out⟩

end Go.Proofs.Ytjlnjeigoncfoaa
