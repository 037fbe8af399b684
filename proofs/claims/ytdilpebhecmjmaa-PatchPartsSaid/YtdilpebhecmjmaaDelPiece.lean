/-
  packthreadkeep.PatchParts's closure: a piece that may be.
-/
import Derived.Test.YtdilpebhecmjmaaDelTell
import Derived.Test.YtdilpebhecmjmaaDelBackMath
import Derived.Test.YtdilpebhecmjmaaStream
namespace Go.Proofs.Ytdilpebhecmjmaa
open Go.RowKit
set_option linter.unusedVariables false
set_option linter.unusedSimpArgs false

/-- a piece that may be, of not many bytes -/
def Good (old : List Int) (x : Pv) : Prop := (madeT old x.p).1 = 0 ∧ (madeT old x.p).2.length ≤ 200 ∧ i64in x.p.from_ ∧ i64in x.p.len ∧ x.n ≤ 2
/-- a piece whose bytes are new -/
theorem PL.push {w w1 w' : World} {base : Nat} {A A' : Option Addr} {n c N c' : Nat} {l : List Pv} {x : Pv} {o : Obj} (h : PL w base A n c l) (hbase : base ≤ w.heap.size) (hx : OwnL byS 5 w1 w.heap.size x.A x.n x.c x.p.data) (hb1 : Below w.heap.size w w1)
    (ho : OwnL pcS 39 w' base A' N c' (l ++ [x])) (hb : Below base (w1.alloc o) w') (hs : Beside (.slice A n c) (.slice A' N c') (w1.alloc o) w') : PL w' base A' N c' (l ++ [x]) := by
  have hb2 : Below w.heap.size w (w1.alloc o) := bthen hb1 (ba1 _ _)
  have hnew : ∀ g, x.v.ownBlock = some g → w.heap.size ≤ g ∧ g < w1.heap.size := fun g hg => hx.lt g hg
  have hxd : Diff x.v (.slice A n c) := fun g hg e => by have := (h.row.lt g e).2; have := (hnew g hg).1; omega
  refine ⟨ho, fun y hy => ?_, fun y hy => ?_, ?_⟩
  · rcases List.mem_append.1 hy with hy | hy
    · exact ((h.each y hy).below hb2).only (hs.only hb) (fun g hg e => h.off y hy g hg e)
    · simp at hy; subst hy
      exact ((hx.below (ba1 _ _)).only (hs.only hb) (fun g hg e => hxd g hg e)).base hbase
  · rcases List.mem_append.1 hy with hy | hy
    · exact diff_new ((h.each y hy).below hb2) (h.off y hy) hs
    · simp at hy; subst hy
      exact diff_new (hx.below (ba1 _ _)) hxd hs
  · rw [List.pairwise_append]
    refine ⟨h.apart, by simp, fun y hy z hz => ?_⟩
    simp at hz; subst hz
    exact fun g hg e => by have := ((h.each y hy).lt g hg).2; have := (hnew g e).1; omega

/-- what the closure answers -/
def RetPc (w : World) (old : List Int) (e : Ending) (w' : World) : Prop :=
  ∃ x : Pv, e = .returned (.agg #[.bool x.p.copy, .int .i64 x.p.from_, .int .i64 x.p.len, .slice x.A x.n x.c]) ∧ OwnL byS 5 w' w.heap.size x.A x.n x.c x.p.data ∧ Good old x ∧ Below w.heap.size w w'

set_option maxHeartbeats 4000000 in
theorem piece_any (v : Int) (q : Nat) (A : Option Addr) (m c : Nat) (old : List Int) (w : World) (h1 : -9223372036854775808 ≤ v) (h2 : v ≤ 9223372036854775807) (hq : w.cell? ⟨q, 0, none⟩ = some (.slice A m c)) (hm : old.length = m) (h200 : m ≤ 200) :
    Calls Try.prog 19 #[.int .i64 v, .pointer (some ⟨q, 0, none⟩)] w (RetPc w old) := by
  obtain ⟨p3, hp3, hp3'⟩ := pick_nat v 3 (by omega)
  have HM := Lib.hid hm
  have hql := World.block_lt_of_cell? w _ hq
  obtain ⟨h, hh⟩ : ∃ h, h = w.heap.size := ⟨_, rfl⟩
  clear hm
  by_cases h0 : p3 = 0
  · subst h0
    have HG : Hid (∀ z : Int, Good old ⟨⟨false, 0, 0, [z, 1]⟩, some ⟨h + 1, 0, none⟩, 2, 2⟩) := Lib.hid fun z => by
      have hmd : madeT old ⟨false, 0, 0, [z, 1]⟩ = (0, [z, 1]) := by simp [madeT]
      refine ⟨by rw [hmd], by rw [hmd]; simp, ?_, ?_, Nat.le_refl _⟩ <;> (unfold i64in; simp only; omega)
    go_enter Try.func19, Try.ntmps19
    go_wp2_with (go_at_call 18; (with_reducible refine (picked_n v 3 _ _ hp3 h1 h2 (by omega) (by omega)).mono ?_); rintro e w' ⟨rfl, hw'⟩; subst hw')
    refine end_ret (v := .agg #[.bool false, .int .i64 0, .int .i64 0, .slice (some ⟨w.heap.size + 1, 0, none⟩) 2 2]) (by simp [results, Try.results19, go_sem]; try rfl) ?_
    refine ⟨⟨⟨false, 0, 0, [v % 256, 1]⟩, some ⟨h + 1, 0, none⟩, 2, 2⟩, by rw [hh], ?_, HG.out _, ba2 _ _ _⟩
    exact ownL_new (F := byS) (w.alloc _) w.heap.size (by simp) [v % 256, 1] 2 _ rfl rfl (by omega) _ (by rw [hh]; simp)
  · have h0i : ¬ (p3 : Int) = 0 := by omega
    have h0b : ((p3 : Int) == 0) = false := by simpa using h0i
    obtain ⟨f, hf, hf'⟩ := pick_nat (v.tdiv 3) ((m : Int) + 1) (by omega)
    have hfm : f ≤ m := by omega
    obtain ⟨mf, hmf⟩ : ∃ mf, mf = m - f + 1 := ⟨_, rfl⟩
    obtain ⟨g, hg, hg'⟩ := pick_nat (v.tdiv 601) (mf : Int) (by omega)
    have hgm : f + g ≤ m := by omega
    obtain ⟨d1, d2⟩ := tdiv_in (k := 3) (by omega) ⟨h1, h2⟩
    obtain ⟨d3, d4⟩ := tdiv_in (k := 601) (by omega) ⟨h1, h2⟩
    have w1 := wrap_in ⟨d1, d2⟩
    have w2 := wrap_in ⟨d3, d4⟩
    have w3 : IntKind.i64.wrap ((m : Int) + 1) = (m : Int) + 1 := by rw [IntKind.wrap_i64]; omega
    have w4 : IntKind.i64.wrap ((m : Int) - (f : Int)) = (m : Int) - (f : Int) := by rw [IntKind.wrap_i64]; omega
    have w5 : IntKind.i64.wrap ((m : Int) - (f : Int) + 1) = (mf : Int) := by rw [IntKind.wrap_i64]; omega
    have hmf1 : 0 < mf := by omega
    have hmf2 : mf ≤ 201 := by omega
    have HG : Hid (Good old ⟨⟨true, (f : Nat), (g : Nat), []⟩, none, 0, 0⟩) := Lib.hid (by
      have hmd := madeT_copy old f g (by rw [HM.out]; exact hgm)
      refine ⟨by rw [hmd], by rw [hmd]; simp only [List.length_take, List.length_drop]; omega, ?_, ?_, Nat.zero_le _⟩ <;> (unfold i64in; simp only; omega))
    clear hmf hf' hg' h0i
    go_enter Try.func19, Try.ntmps19
    go_wp2_with (first
      | (go_at_call 18; (with_reducible refine (picked_n v 3 _ _ hp3 h1 h2 (by omega) (by omega)).mono ?_); rintro e w' ⟨rfl, hw'⟩; subst hw')
      | (go_at_call 18; (with_reducible refine (picked_n (v.tdiv 3) ((m : Int) + 1) f _ hf d1 d2 (by omega) (by omega)).mono ?_); rintro e w' ⟨rfl, hw'⟩; subst hw')
      | (go_at_call 18; (with_reducible refine (picked_n (v.tdiv 601) (mf : Int) g _ hg d3 d4 (by omega) (by omega)).mono ?_); rintro e w' ⟨rfl, hw'⟩; subst hw'))
    refine end_ret (v := .agg #[.bool true, .int .i64 (f : Nat), .int .i64 (g : Nat), .slice none 0 0]) (by simp [results, Try.results19, go_sem]; try rfl) ?_
    exact ⟨⟨⟨true, (f : Nat), (g : Nat), []⟩, none, 0, 0⟩, rfl, OwnL.nil _ _, HG.out, ba1 _ _⟩

end Go.Proofs.Ytdilpebhecmjmaa
