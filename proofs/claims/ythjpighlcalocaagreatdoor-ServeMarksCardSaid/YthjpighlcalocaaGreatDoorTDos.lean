/-
  The program's tree: what is done to a file, whatever it is; Put, Get, Cut.
  The program's tree: a directory's names, ascending.
  The program's tree: Put, Get, Cut at a path; Stat; List.
  The program's tree: Stat and List.
  The program's tree: link; a new directory.
  The program's tree: what one more act comes to.
-/
import Derived.Test.YthjpighlcalocaaGreatDoorTFileB
import Derived.Test.YthjpighlcalocaaGreatDoorTActs
import Derived.Test.YthjpighlcalocaaGreatDoorIter
import Derived.Test.YthjpighlcalocaaGreatDoorDirKids
import Derived.Test.YthjpighlcalocaaGreatDoorRetN
namespace Go.Proofs.YthjpighlcalocaaGreatDoor
open Go.RowKit
set_option linter.unusedVariables false
set_option linter.unusedSimpArgs false

/-- an act with the address of its bytes -/
structure Acv where
  a : Ac
  D : Option Addr
  m : Nat
  d : Nat
def acV (x : Acv) : Array Value := #[.int .i64 x.a.kind, .string (tx x.a.path), .string (tx x.a.to), .int .i64 x.a.at_, .int .i64 x.a.count, .slice x.D x.m x.d]

/-- an answer that lay in a box of the call's own -/
theorem RetF.box {w w1 w3 : World} {pn : Nat} {A : Option Addr} {n c : Nat} {r : List Int × Sn} {e : Ending} {q : Nat} (h : RetF w1 pn A n c r e w3) (hb : Below w.heap.size w w1) (hq : w.heap.size ≤ q) (hq1 : q < w1.heap.size) (hpn : pn < w.heap.size) (hA : ∀ k, (Value.slice A n c).ownBlock = some k → k < w.heap.size)
    (hz : Bx 31 w1 q zeroS) :
    ∃ x : Sv, e = .returned (.agg (snV x)) ∧ Hid (Bx 31 w3 q zeroS) ∧ Hid (∀ v0 v1 v2 v3 v4, RetF w pn A n c r (.returned (.agg (snV x))) (((((w3.setCell ⟨q, 0, none⟩ v0).setCell ⟨q, 1, none⟩ v1).setCell ⟨q, 2, none⟩ v2).setCell ⟨q, 3, none⟩ v3).setCell ⟨q, 4, none⟩ v4)) := by
  obtain ⟨x, A', c', s, h1, h2, h3, h4, h5, h6, h7, h8⟩ := h
  have hs := hb.size
  have hpq : ¬ pn = q := by omega
  have hqA : ¬ (Value.slice A n c).ownBlock = some q := fun e => by have := hA q e; omega
  refine ⟨x, h2, Lib.hid (hz.only h7 (fun hs => by rcases hs with e | e; exact hpq e.symm; exact hqA e)), Lib.hid fun v0 v1 v2 v3 v4 => ?_⟩
  have hxq : ∀ k, SvB x k → w1.heap.size ≤ k := fun k hk => (h3.lt k hk).1
  refine ⟨x, A', c', s, h1, rfl, ⟨(h3.1.base (by omega)).set5 (fun k hk e => ?_) _ _ _ _ _, (h3.2.base (by omega)).set5 (fun k hk e => ?_) _ _ _ _ _⟩, h4, h5.other5 hpq _ _ _ _ _, h6.set5 (fun k hk e => ?_) _ _ _ _ _, only_store5 ((only_new hb).trans h7 (fun j hj => .inl hj)) (.inr hq) _ _ _ _ _, fun k hk => ⟨?_, (h8 k hk).2⟩⟩
  · have := hxq k (.inl hk); omega
  · have := hxq k (.inr hk); omega
  · subst e
    rcases (h8 k hk).1 with g | g
    · exact hqA g
    · omega
  · rcases (h8 k hk).1 with g | g
    · exact .inl g
    · exact .inr (by omega)

set_option maxRecDepth 100000 in
set_option maxHeartbeats 4000000 in
theorem do_file (pn : Nat) (a : Ac) (D : Option Addr) (m dd : Nat) (A : Option Addr) (n c : Nat) (l : List Int) (w : World) (hbx : Bx 75 w pn #[.slice A n c]) (ho : OwnL byS 5 w 0 A n c l) (hoff : Off pn (.slice A n c)) (hn : n ≤ 2048)
    (hD : Ls byS w D a.data) (hm : a.data.length = m) (hcl : 0 < m → Clear (fun k => k = pn ∨ (Value.slice A n c).ownBlock = some k) D) :
    Calls Tryz.prog 51 #[.pointer (some ⟨pn, 0, none⟩), .agg (acV ⟨a, D, m, dd⟩)] w (RetF w pn A n c (fileP l a)) := by
  unfold acV
  simp only []
  obtain ⟨q3, hq3⟩ : ∃ q, q = w.heap.size := ⟨_, rfl⟩
  obtain ⟨q4, hq4⟩ : ∃ q, q = w.heap.size + 1 := ⟨_, rfl⟩
  obtain ⟨w1, hw1⟩ : ∃ w1, w1 = (w.alloc (Obj.cells #[.int .i64 a.kind, .string (tx a.path), .string (tx a.to), .int .i64 a.at_, .int .i64 a.count, .slice D m dd] 55)).alloc (Obj.cells zeroS 31) := ⟨_, rfl⟩
  have HB1 : Hid (Below w.heap.size w w1) := Lib.hid (by rw [hw1]; exact ba2 _ _ _)
  have HX3 : Hid (Bx 55 w1 q3 #[.int .i64 a.kind, .string (tx a.path), .string (tx a.to), .int .i64 a.at_, .int .i64 a.count, .slice D m dd]) := Lib.hid (by rw [hw1, hq3]; exact (bx_new _ _ _).below (ba1 _ _))
  have HX4 : Hid (Bx 31 w1 q4 zeroS) := Lib.hid (by rw [hw1, hq4]; have := bx_new (w.alloc (Obj.cells #[.int .i64 a.kind, .string (tx a.path), .string (tx a.to), .int .i64 a.at_, .int .i64 a.count, .slice D m dd] 55)) 31 zeroS; simpa using this)
  have hpl := hbx.lt
  have HAO := Lib.hid (fun k hk => (ho.lt k hk).2)
  have hb1 := hbx.below HB1.out
  have ho1 := ho.below HB1.out
  have HBOX : Hid (∀ e w3, RetF w1 pn A n c (fileP l a) e w3 → ∃ x : Sv, e = .returned (.agg (snV x)) ∧ Hid (Bx 31 w3 q4 zeroS) ∧ Hid (∀ v0 v1 v2 v3 v4, RetF w pn A n c (fileP l a) (.returned (.agg (snV x))) (((((w3.setCell ⟨q4, 0, none⟩ v0).setCell ⟨q4, 1, none⟩ v1).setCell ⟨q4, 2, none⟩ v2).setCell ⟨q4, 3, none⟩ v3).setCell ⟨q4, 4, none⟩ v4))) := Lib.hid (fun e w3 h => h.box HB1.out (by omega) HX4.out.lt hpl HAO.out HX4.out)
  have h0 := HX3.out.cell 0 _ rfl
  have h3 := HX3.out.cell 3 _ rfl
  have h4 := HX3.out.cell 4 _ rfl
  have h5 := HX3.out.cell 5 _ rfl
  have hl3 := HX3.out.lt
  obtain ⟨g, hg⟩ : ∃ g, g = fileP l a := ⟨_, rfl⟩
  have HP : Hid (a.kind = 3 → Calls Tryz.prog 69 #[.pointer (some ⟨pn, 0, none⟩), .int .i64 a.at_, .slice D m dd] w1 (RetF w1 pn A n c g)) := Lib.hid (fun hk => by rw [hg]; exact put_any pn a hk D m dd A n c l w1 hb1 ho1 hoff hn (hD.below HB1.out) hm hcl)
  have HG : Hid (a.kind = 4 → Calls Tryz.prog 70 #[.pointer (some ⟨pn, 0, none⟩), .int .i64 a.at_, .int .i64 a.count] w1 (RetF w1 pn A n c g)) := Lib.hid (fun hk => by rw [hg]; exact get_any pn a hk A n c l w1 hb1 ho1 hn)
  have HC : Hid (a.kind ≠ 3 ∧ a.kind ≠ 4 → Calls Tryz.prog 71 #[.pointer (some ⟨pn, 0, none⟩), .int .i64 a.count] w1 (RetF w1 pn A n c g)) := Lib.hid (fun hk => by rw [hg]; exact cut_any pn a hk A n c l w1 hb1 ho1 hoff hn)
  rw [← hg] at HBOX ⊢
  obtain ⟨kd, hkd⟩ : ∃ k, k = a.kind := ⟨_, rfl⟩
  rw [← hkd] at HP HG HC h0 hw1 ⊢
  unfold zeroS at hw1
  clear hg hkd hbx ho hoff hD hm hcl hb1 ho1 hpl HAO
  by_cases h3' : kd = 3
  · have HCALL := Lib.hid (HP.out h3')
    have hk3 : (kd == 3) = true := by simpa using h3'
    clear h3' HP HG HC
    go_enter Tryz.func51, Tryz.ntmps51
    go_upto_region 1 with fail
    rw [← hw1, ← hq4, ← hq3]
    clear hw1 hq4 hq3
    go_wp2_with (go_at_call 69; (with_reducible refine HCALL.out.mono ?_); intro e w3 hr3; obtain ⟨x, rfl, HZ3, HR3⟩ := HBOX.out e w3 hr3; clear hr3; unfold snV; obtain ⟨d0, e0, e1, e2, e3, e4, f0, f1, f2, f3, f4⟩ := HZ3.out.all5; clear h0 h3 h4 h5 hl3)
    refine end_ret (v := .agg (snV x)) (by unfold snV; simp [results, Tryz.results51, go_sem, d0, e0, e1, e2, e3, e4, f0, f1, f2, f3, f4]; try rfl) ?_
    exact HR3.out _ _ _ _ _
  · have hk3 : (kd == 3) = false := by simpa using h3'
    by_cases h4' : kd = 4
    · have HCALL := Lib.hid (HG.out h4')
      have hk4 : (kd == 4) = true := by simpa using h4'
      clear h3' h4' HP HG HC
      go_enter Tryz.func51, Tryz.ntmps51
      go_upto_region 1 with fail
      rw [← hw1, ← hq4, ← hq3]
      clear hw1 hq4 hq3
      go_wp2_with (go_at_call 70; (with_reducible refine HCALL.out.mono ?_); intro e w3 hr3; obtain ⟨x, rfl, HZ3, HR3⟩ := HBOX.out e w3 hr3; clear hr3; unfold snV; obtain ⟨d0, e0, e1, e2, e3, e4, f0, f1, f2, f3, f4⟩ := HZ3.out.all5; clear h0 h3 h4 h5 hl3)
      refine end_ret (v := .agg (snV x)) (by unfold snV; simp [results, Tryz.results51, go_sem, d0, e0, e1, e2, e3, e4, f0, f1, f2, f3, f4]; try rfl) ?_
      exact HR3.out _ _ _ _ _
    · have HCALL := Lib.hid (HC.out ⟨h3', h4'⟩)
      have hk4 : (kd == 4) = false := by simpa using h4'
      clear h3' h4' HP HG HC
      go_enter Tryz.func51, Tryz.ntmps51
      go_upto_region 1 with fail
      rw [← hw1, ← hq4, ← hq3]
      clear hw1 hq4 hq3
      go_wp2_with (go_at_call 71; (with_reducible refine HCALL.out.mono ?_); intro e w3 hr3; obtain ⟨x, rfl, HZ3, HR3⟩ := HBOX.out e w3 hr3; clear hr3; unfold snV; obtain ⟨d0, e0, e1, e2, e3, e4, f0, f1, f2, f3, f4⟩ := HZ3.out.all5; clear h0 h3 h4 h5 hl3)
      refine end_ret (v := .agg (snV x)) (by unfold snV; simp [results, Tryz.results51, go_sem, d0, e0, e1, e2, e3, e4, f0, f1, f2, f3, f4]; try rfl) ?_
      exact HR3.out _ _ _ _ _

/-! ### what an act answers, and the tree then -/
def RetDo (w : World) (tb : Nat) (f : Rl) (K : Nat) (r : Wd × Sn) (e : Ending) (w' : World) : Prop :=
  ∃ (x : Sv) (f' : Rl) (p' : Nat → Nat), x.s = r.2 ∧ e = .returned (.agg (snV x)) ∧ SvOwn w' w.heap.size x ∧ TreeIs w' tb r.1 f' p' (K + 1) ∧ Only (fun b => f b ≠ none) w w' ∧ (∀ b, f' b ≠ none → f b ≠ none ∨ w.heap.size ≤ b) ∧ ∀ b, f' b ≠ none → ¬ SvB x b
theorem RetDo.same {w w' : World} {tb : Nat} {f : Rl} {p : Nat → Nat} {T : Wd} {K : Nat} {r : Wd × Sn} {s : Sn} (h : TreeIs w tb T f p K) (hr : r = (T, s)) (h1 : s.data = []) (h2 : s.names = []) (hb : Below w.heap.size w w') : RetDo w tb f K r (.returned (.agg (snV (svP s)))) w' := by
  subst hr
  exact ⟨svP s, f, p, rfl, rfl, svOwn_p _ _ s h1 h2, (h.new hb).mono (Nat.le_succ K), only_new hb, fun b hb => .inl hb, fun b _ => svB_p s b⟩
/-- an answer that lay in a box of the call's own -/
theorem RetDo.box {w w1 w3 : World} {tb : Nat} {f : Rl} {K : Nat} {r : Wd × Sn} {e : Ending} {q : Nat} (h : RetDo w1 tb f K r e w3) (hf : ∀ b, f b ≠ none → b < w.heap.size) (hb : Below w.heap.size w w1) (hq : w.heap.size ≤ q) (hz : Bx 31 w1 q zeroS) :
    ∃ x : Sv, e = .returned (.agg (snV x)) ∧ Hid (Bx 31 w3 q zeroS) ∧ Hid (∀ v0 v1 v2 v3 v4, RetDo w tb f K r (.returned (.agg (snV x))) (((((w3.setCell ⟨q, 0, none⟩ v0).setCell ⟨q, 1, none⟩ v1).setCell ⟨q, 2, none⟩ v2).setCell ⟨q, 3, none⟩ v3).setCell ⟨q, 4, none⟩ v4)) := by
  obtain ⟨x, f', p', h1, h2, h3, h4, h5, h6, h7⟩ := h
  have hs := hb.size
  have hq1 := hz.lt
  have hfq : f q = none := by
    rcases hfq : f q with _ | r
    · rfl
    · have := hf q (by rw [hfq]; simp); omega
  have hfq' : f' q = none := by
    rcases hfq' : f' q with _ | r
    · rfl
    · rcases h6 q (by rw [hfq']; simp) with g | g
      · exact absurd hfq g
      · omega
  refine ⟨x, h2, Lib.hid (hz.only h5 (fun hs => hs hfq)), Lib.hid fun v0 v1 v2 v3 v4 => ?_⟩
  have hxq : ∀ k, SvB x k → ¬ k = q := fun k hk e => by have := (h3.lt k hk).1; omega
  have hst : Only (fun k => k = q) w3 (((((w3.setCell ⟨q, 0, none⟩ v0).setCell ⟨q, 1, none⟩ v1).setCell ⟨q, 2, none⟩ v2).setCell ⟨q, 3, none⟩ v3).setCell ⟨q, 4, none⟩ v4) := only_store5 (S := fun k => k = q) (Only.refl _ _) (.inl rfl) _ _ _ _ _
  refine ⟨x, f', p', h1, rfl, (h3.keep hst (fun k hk hs => hxq k hs hk)).base (by omega), h4.only hst (fun b hb => by rw [hb]; exact hfq'), only_store5 ((only_new hb).trans h5 (fun j hj => .inl hj)) (.inr hq) _ _ _ _ _, fun b hb => ?_, h7⟩
  rcases h6 b hb with g | g
  · exact .inl g
  · exact .inr (by omega)

end Go.Proofs.YthjpighlcalocaaGreatDoor

namespace Go.Proofs.YthjpighlcalocaaGreatDoor
open Go.RowKit Go.Maps Go.Sort Go.Shelf
set_option linter.unusedVariables false
set_option linter.unusedSimpArgs false

theorem flat_st (l : List Byt) : stS.flat l = l.map encStr := by
  induction l with
  | nil => rfl
  | cons x t ih => show stS.cells x ++ stS.flat t = _; rw [ih]; rfl

set_option maxHeartbeats 1000000 in
theorem dlist_any (w : World) (tb : Nat) (T : Wd) (f : Rl) (p : Nat → Nat) (K n : Nat) (h : TreeIs w tb T f p K) (hn : Live T n) (hk : (nd T n).kind = 1) (hK : K ≤ 1000000) :
    Calls Tryz.prog 52 #[.pointer (some ⟨p n, 0, none⟩)] w fun e w' => ∃ A m c, e = .returned (.slice A m c) ∧ OwnL stS 9 w' w.heap.size A m c (sorted (kids T n)) ∧ Below w.heap.size w w' := by
  obtain ⟨b, -, -, hbx, D0, hown, hsays⟩ := h.dir hn hk
  obtain ⟨l0, l1⟩ := hbx.one
  have hsz := hown.size_le
  have hmax : Maps.size D0 ≤ maxLen := by unfold maxLen; omega
  have hbytes : Maps.size D0 * 16 ≤ 140737488355328 := by omega
  have HP := Lib.hid (kids_perm h.wf hown hsays)
  have HOWN := Lib.hid hown
  have HMAX := Lib.hid hmax
  have HBY := Lib.hid hbytes
  clear h hbx hown hsays hsz hmax hbytes
  refine (callsIn_wide (n := 6)).1 ?_
  have hfK : Fence.wide.fn 73 := trivial
  have hfS : Fence.wide.fn 72 := trivial
  refine callsIn_of_wp Tryz.func52 rfl trivial ?_ rfl
  simp only [Tryz.ntmps52, List.size_toArray, List.length_cons, List.length_nil, Nat.reduceAdd, Nat.reduceSub, Array.replicate_succ, Array.replicate_zero, List.push_toArray, List.append_toArray, List.nil_append, List.cons_append]
  gi_wp2_with (first
    | (gi_at_call 73; refine (Tryz.maps_Keys_73 _ _).mono ?_; rintro e w' ⟨rfl, rfl⟩)
    | (gi_at_call 72; refine (Tryz.slices_Sorted_keys_72_73 b K D0 nodeElem w HOWN.out HMAX.out HBY.out).mono ?_; rintro e w' ⟨v, ss, rfl, hS, hrow, hnil, hb⟩; have HS := Lib.hid hS; have HROW := Lib.hid hrow; have HB := Lib.hid hb; clear hS hrow hnil hb))
  go_ret
  have hl : ss.mergeSort (fun x y => decide (x ≤ y)) = sorted (kids T n) := mergeSort_of_perm (HS.out.trans HP.out.symm)
  have hlen : (sorted (kids T n)).length = ss.length := by rw [← hl, List.length_mergeSort]
  have hrow := ownsRow_base_a HROW.out (show w.heap.size ≤ _ by simp)
  rw [hl, ← flat_st] at hrow
  have hbel := ((Below.refl _ w).alloc (Nat.le_refl _) (.cells #[.map (some b)] 105)).trans (HB.out.mono (by simp))
  obtain ⟨hr1, hr2⟩ := hrow
  rcases hr2 with ⟨hv, h0⟩ | ⟨g, cap, cur, hv, hr⟩
  · have h1 : sorted (kids T n) = [] := List.eq_nil_of_length_eq_zero (by rw [hlen, h0])
    exact ⟨none, 0, 0, by rw [← hv]; rfl, by rw [h1]; exact OwnL.nil _ _, hbel⟩
  · exact ⟨some ⟨g, 0, none⟩, ss.length, cap, by rw [← hv]; rfl, ⟨hlen, by rw [← hv]; exact ⟨hr1, .inr ⟨g, cap, cur, hv, hr⟩⟩⟩, hbel⟩

end Go.Proofs.YthjpighlcalocaaGreatDoor

namespace Go.Proofs.YthjpighlcalocaaGreatDoor
open Go.RowKit Go.Maps
set_option linter.unusedVariables false
set_option linter.unusedSimpArgs false

section
variable {w w' : World} {f f' : Rl} {p p' : Nat → Nat} {T T' : Wd} {K K' i d n tb : Nat} {S : Nat → Prop}
theorem treeIs_data2 {b : List Int} {A : Option Addr} {c : Nat} (h : TreeIs w tb T f p K) (hn : Live T n) (hk : (nd T n).kind = 2) (hb : b.length ≤ 2048 ∧ ∀ z ∈ b, 0 ≤ z ∧ z ≤ 255)
    (ho : Only (fun k => f k = some (.str n) ∨ f k = some (.row n)) w w') (hbx : Bx 75 w' (p n) #[.slice A b.length c]) (hown : OwnL byS 5 w' 0 A b.length c b) (B : Nat) (hrow : ∀ k, (Value.slice A b.length c).ownBlock = some k → f k = some (.row n) ∨ (f k = none ∧ B ≤ k)) :
    ∃ f', TreeIs w' tb (setI T n { nd T n with data := b }) f' p K ∧ ∀ k, f' k ≠ none → f k ≠ none ∨ (B ≤ k ∧ (Value.slice A b.length c).ownBlock = some k) := by
  have hw := wf_data h.wf hn hb
  have k := fun i => nd_data (T := T) n b i hn.1
  have hch := fun e m => child_data h.wf hw hn e m
  have hv : ∀ c, Live T c → vtx (setI T n { nd T n with data := b }) p c = vtx T p c := fun c _ => by unfold vtx; rw [(k c).1]
  have hfo : ∀ j r, f j = some r → (if (Value.slice A b.length c).ownBlock = some j then some (Role.row n) else f j) = some r := fun j r hj => by
    split
    · rename_i e
      rcases hrow j e with g | g
      · rw [← hj, g]
      · rw [g.1] at hj; cases hj
    · exact hj
  refine ⟨fun j => if (Value.slice A b.length c).ownBlock = some j then some (.row n) else f j, ⟨hw, ?_, hfo _ _ h.ftop, ?_, ?_⟩, ?_⟩
  · rw [liveN_data hn]
    exact h.top.only ho (fun hs => by rcases hs with e | e <;> rw [h.ftop] at e <;> cases e)
  · intro j hj
    by_cases e : (Value.slice A b.length c).ownBlock = some j
    · exact (hown.lt j e).2
    · simp only [if_neg e] at hj
      exact Nat.lt_of_lt_of_le (h.lt j hj) ho.size
  · intro i hi
    have g := (live_data (b := b) hn.1 i).1 hi
    by_cases hin : i = n
    · subst hin
      have hdd : (nd (setI T i { nd T i with data := b }) i).data = b := by rw [nd_set_same hn.1]
      refine ⟨hfo _ _ (h.node i g).1, .inr (.inl ⟨(k i).1.trans hk, A, c, ?_, ?_, ?_⟩)⟩
      · rw [hdd]; exact hbx
      · rw [hdd]; exact hown
      · rw [hdd]; intro j hj; exact if_pos hj
    · refine (h.node i g).conv ho ?_ hfo rfl (k i).1 ((k i).2.2.2.2.2 hin) (k i).2.2.2.2.1 (fun m => namesM_eq h.wf (hch i m) hv) (Nat.le_refl K)
      rintro b' (e | e) <;> rw [e]
      · exact ⟨fun e' => hin (by injection e' with e'; injection e' with e'; exact e'.symm), by simp, by simp⟩
      · exact ⟨by simp, by simp, fun e' => hin (by injection e' with e'; injection e' with e'; exact e'.symm)⟩
  · intro j hj
    by_cases e : (Value.slice A b.length c).ownBlock = some j
    · rcases hrow j e with g | g
      · left; rw [g]; simp
      · exact .inr ⟨g.2, e⟩
    · simp only [if_neg e] at hj
      exact .inl hj

end

/-- what comes of a file's bytes comes of the tree -/
theorem RetF.tree {w w1 w' : World} {tb : Nat} {f : Rl} {p : Nat → Nat} {T : Wd} {K n : Nat} {A : Option Addr} {c : Nat} {a : Ac} {e : Ending} (h : TreeIs w tb T f p K) (hb : Below w.heap.size w w1) (hn : Live T n) (hk : (nd T n).kind = 2) (hfp : f (p n) = some (.str n)) (hrow : ∀ k, (Value.slice A (nd T n).data.length c).ownBlock = some k → f k = some (.row n))
    (hd : ∀ z ∈ a.data, 0 ≤ z ∧ z ≤ 255) (hr : RetF w1 (p n) A (nd T n).data.length c (fileP (nd T n).data a) e w') : RetDo w tb f K (fileT T n a) e w' := by
  obtain ⟨x, A', c', s, h1, h2, h3, h4, h5, h6, h7, h8⟩ := hr
  have hT1 := h.new hb
  rw [fileT_eq hn.1]
  have hgood : (fileP (nd T n).data a).1.length ≤ 2048 ∧ ∀ z ∈ (fileP (nd T n).data a).1, 0 ≤ z ∧ z ≤ 255 := by
    have hdat := h.wf.dat n hn
    have hz : ∀ k, ∀ z ∈ resized (nd T n).data k, 0 ≤ z ∧ z ≤ 255 := fun k z hz => by
      unfold resized zeros at hz
      rcases List.mem_append.1 hz with g | g
      · exact hdat.2 z (List.mem_of_mem_take g)
      · have := (List.mem_replicate.1 g).2; omega
    unfold fileP
    split
    · split
      · exact hdat
      · split
        · exact hdat
        · rename_i g1 g2
          have hf : fits a.at_ = true := by simpa using g1
          unfold fits at hf
          simp at hf
          refine ⟨?_, ?_⟩
          · show (laid _ _ _).length ≤ 2048
            unfold laid
            simp only [List.length_append, List.length_take, List.length_drop, resized_len]
            omega
          · intro z hz'
            unfold laid at hz'
            rcases List.mem_append.1 hz' with g | g
            · rcases List.mem_append.1 g with g | g
              · exact hz _ z (List.mem_of_mem_take g)
              · exact hd z g
            · exact hz _ z (List.mem_of_mem_drop g)
    · split
      · split
        · exact hdat
        · exact hdat
      · split
        · exact hdat
        · rename_i g1
          have hf : fits a.count = true := by simpa using g1
          unfold fits at hf
          simp at hf
          exact ⟨by rw [resized_len]; omega, hz _⟩
  subst h4
  have hsz := hb.size
  obtain ⟨f', hti, hfb⟩ := treeIs_data2 (w' := w') (B := w1.heap.size) hT1 hn hk hgood (h7.mono (fun k hk => by
    rcases hk with e | e
    · left; rw [e]; exact hfp
    · exact .inr (hrow k e))) h5 h6 (fun k hk => by
    rcases (h8 k hk).1 with g | g
    · exact .inl (hrow k g)
    · right
      refine ⟨?_, g⟩
      rcases hfk : f k with _ | r
      · rfl
      · have := hT1.lt k (by rw [hfk]; simp); omega)
  refine ⟨x, f', p, h1, h2, ⟨h3.1.base hsz, h3.2.base hsz⟩, hti.mono (Nat.le_succ K), (only_new hb).trans (T := fun b => f b ≠ none) (h7.mono (fun k hk => by
    rcases hk with e | e
    · rw [e, hfp]; simp
    · rw [hrow k e]; simp)) (fun j hj => .inl hj), fun b hb' => ?_, fun b hb' hs => ?_⟩
  · rcases hfb b hb' with g | g
    · exact .inl g
    · exact .inr (by omega)
  · have hbx := (h3.lt b hs).1
    rcases hfb b hb' with g | g
    · have := hT1.lt b g; omega
    · exact (h8 b g.2).2 hs

def zeroSv : Array Value := zeroS
set_option maxRecDepth 100000 in
set_option maxHeartbeats 4000000 in
theorem work_any (a : Ac) (D : Option Addr) (m dd : Nat) (w : World) (tb : Nat) (T : Wd) (f : Rl) (p : Nat → Nat) (K : Nat) (h : TreeIs w tb T f p K) (hD : Ls byS w D a.data) (hm : a.data.length = m) (hcl : 0 < m → Clear (fun k => f k ≠ none) D) (hd : ∀ z ∈ a.data, 0 ≤ z ∧ z ≤ 255) :
    Calls Tryz.prog 35 #[.pointer (some ⟨tb, 0, none⟩), .agg (acV ⟨a, D, m, dd⟩)] w (RetDo w tb f K (workT T a)) := by
  unfold acV
  simp only []
  have H := Lib.hid h
  obtain ⟨cs, hcs⟩ : ∃ cs : Array Value, cs = #[.int .i64 a.kind, .string (tx a.path), .string (tx a.to), .int .i64 a.at_, .int .i64 a.count, .slice D m dd] := ⟨_, rfl⟩
  obtain ⟨q3, hq3⟩ : ∃ q, q = w.heap.size := ⟨_, rfl⟩
  obtain ⟨q4, hq4⟩ : ∃ q, q = w.heap.size + 1 := ⟨_, rfl⟩
  obtain ⟨w1, hw1⟩ : ∃ w1, w1 = (w.alloc (Obj.cells cs 55)).alloc (Obj.cells zeroS 31) := ⟨_, rfl⟩
  have HB1 : Hid (Below w.heap.size w w1) := Lib.hid (by rw [hw1]; exact ba2 _ _ _)
  have HX3 : Hid (Bx 55 w1 q3 cs) := Lib.hid (by rw [hw1, hq3]; exact (bx_new _ _ _).below (ba1 _ _))
  have HX4 : Hid (Bx 31 w1 q4 zeroS) := Lib.hid (by rw [hw1, hq4]; have := bx_new (w.alloc (Obj.cells cs 55)) 31 zeroS; simpa using this)
  have HQ4 : Hid (w.heap.size ≤ q4) := Lib.hid (by omega)
  have hT1 := H.out.new HB1.out
  have HO := Lib.hid (open_any a.path w1 tb T f p K hT1)
  obtain ⟨g, hg⟩ : ∃ g, g = workT T a := ⟨_, rfl⟩
  rw [← hg]
  unfold workT at hg
  obtain ⟨r, hr⟩ : ∃ r, r = openT T a.path := ⟨_, rfl⟩
  rw [← hr] at HO hg
  have HR := Lib.hid hr
  have HG := Lib.hid hg
  have HDD := Lib.hid (And.intro hD (And.intro hm (And.intro hcl hd)))
  have HLT := Lib.hid H.out.lt
  have HBOX : Hid (∀ e w3, RetDo w1 tb f K g e w3 → ∃ x : Sv, e = .returned (.agg (snV x)) ∧ Hid (Bx 31 w3 q4 zeroS) ∧ Hid (∀ v0 v1 v2 v3 v4, RetDo w tb f K g (.returned (.agg (snV x))) (((((w3.setCell ⟨q4, 0, none⟩ v0).setCell ⟨q4, 1, none⟩ v1).setCell ⟨q4, 2, none⟩ v2).setCell ⟨q4, 3, none⟩ v3).setCell ⟨q4, 4, none⟩ v4))) := Lib.hid (fun e w3 h => h.box HLT.out HB1.out (by omega) HX4.out)
  have HB1s : Hid (∀ w2 (s : Sn), Below w1.heap.size w1 w2 → g = (T, s) → s.data = [] → s.names = [] → RetDo w1 tb f K g (.returned (.agg (snV (svP s)))) w2) := Lib.hid (fun w2 s hb hgs h1 h2 => RetDo.same (H.out.new HB1.out) hgs h1 h2 hb)
  have x3 : Bx 55 w1 q3 #[.int .i64 a.kind, .string (tx a.path), .string (tx a.to), .int .i64 a.at_, .int .i64 a.count, .slice D m dd] := by rw [← hcs]; exact HX3.out
  have HX3' := Lib.hid x3
  have c0 := x3.cell 0 _ rfl
  have c1 := x3.cell 1 _ rfl
  have hl3 := x3.lt
  have tn := fun w => ta_nil 73 w (.inr (.inl rfl))
  have th := fun x w => ta_hit 73 x w (.inr (.inl rfl))
  have tm := fun x w => ta_miss 68 73 x w (.inr (.inl rfl)) (by decide)
  rw [hcs] at hw1
  unfold zeroS at hw1
  have HT1 := Lib.hid hT1
  clear h hD hm hcl hd hr hg hcs x3 hT1
  go_enter Tryz.func35, Tryz.ntmps35
  go_upto_region 1 with fail
  rw [← hw1, ← hq4, ← hq3]
  clear hw1 hq4 hq3
  go_upto_region 2 with (go_at_call 50; (with_reducible refine HO.out.mono ?_); intro e w2 h2; obtain ⟨HB2, ⟨x, hx, rfl, HE⟩ | ⟨n, rfl, HE⟩ | ⟨n, rfl, HE⟩⟩ := h2.is HR.out H.out.wf; clear h2)
  · have hgs : Hid (g = (T, snE x)) := Lib.hid (by rw [HG.out, HE.out])
    obtain ⟨d0, e0, e1, e2, e3, e4, f0, f1, f2, f3, f4⟩ := (show Bx 31 w2 q4 zeroS from HX4.out.below HB2.out).all5
    go_wp2_with fail
    refine end_ret (v := .agg (snV (svP (snE x)))) (by unfold snV svP snE; simp [results, Tryz.results35, go_sem, d0, e0, e1, e2, e3, e4, f0, f1, f2, f3, f4]; try rfl) ?_
    exact RetDo.same H.out hgs.out rfl rfl (below_store5 (bthen HB1.out HB2.out) HQ4.out _ _ _ _ _)
  · have hgs : Hid (g = (T, snE 14)) := Lib.hid (by rw [HG.out, HE.out.1]; exact if_neg (by rw [HE.out.2.2]; decide))
    obtain ⟨d0, e0, e1, e2, e3, e4, f0, f1, f2, f3, f4⟩ := (show Bx 31 w2 q4 zeroS from HX4.out.below HB2.out).all5
    go_wp2_with fail
    refine end_ret (v := .agg (snV (svP (snE 14)))) (by unfold snV svP snE; simp [results, Tryz.results35, go_sem, d0, e0, e1, e2, e3, e4, f0, f1, f2, f3, f4]; try rfl) ?_
    exact RetDo.same H.out hgs.out rfl rfl (below_store5 (bthen HB1.out HB2.out) HQ4.out _ _ _ _ _)
  · obtain ⟨he, hlv, hk⟩ := HE.out
    have hgs : Hid (g = fileT T n a) := Lib.hid (by rw [HG.out, he]; exact if_pos hk)
    obtain ⟨A, c, hfp, hbx, hown, hrow⟩ := (HT1.out.new HB2.out).file hlv hk
    obtain ⟨hD, hm, hcl, hd⟩ := HDD.out
    have hcl2 : 0 < m → Clear (fun k => k = p n ∨ (Value.slice A (nd T n).data.length c).ownBlock = some k) D := fun h0 => (hcl h0).mono (fun k hk' => by
      rcases hk' with e | e
      · rw [e, hfp]; simp
      · rw [hrow k e]; simp)
    have hoff : Off (p n) (.slice A (nd T n).data.length c) := fun k hk' e => by rw [← e, hrow k hk'] at hfp; cases hfp
    have HCALL := Lib.hid (do_file (p n) a D m dd A (nd T n).data.length c (nd T n).data w2 hbx hown hoff (H.out.wf.dat n hlv).1 ((hD.below HB1.out).below HB2.out) hm hcl2)
    have HTREE : Hid (∀ e w3, RetF w2 (p n) A (nd T n).data.length c (fileP (nd T n).data a) e w3 → RetDo w1 tb f K g e w3) := Lib.hid (fun e w3 h => by
      rw [hgs.out]
      exact h.tree HT1.out HB2.out hlv hk hfp hrow hd)
    have x3 := HX3'.out.below HB2.out
    have y0 := x3.cell 0 _ rfl
    have y1 := x3.cell 1 _ rfl
    have y2 := x3.cell 2 _ rfl
    have y3 := x3.cell 3 _ rfl
    have y4 := x3.cell 4 _ rfl
    have y5 := x3.cell 5 _ rfl
    have yl := x3.lt
    unfold acV at HCALL
    clear he hlv hk hfp hbx hown hrow hD hm hcl hd hcl2 hoff x3
    go_wp2_with (go_at_call 51; (with_reducible refine HCALL.out.mono ?_); intro e w3 hr3; obtain ⟨x, rfl, HZ3, HR3⟩ := HBOX.out e w3 (HTREE.out e w3 hr3); clear hr3; unfold snV; obtain ⟨d0, e0, e1, e2, e3, e4, f0, f1, f2, f3, f4⟩ := HZ3.out.all5; clear y0 y1 y2 y3 y4 y5 yl c0 c1 hl3)
    refine end_ret (v := .agg (snV x)) (by unfold snV; simp [results, Tryz.results35, go_sem, d0, e0, e1, e2, e3, e4, f0, f1, f2, f3, f4]; try rfl) ?_
    exact HR3.out _ _ _ _ _

end Go.Proofs.YthjpighlcalocaaGreatDoor

namespace Go.Proofs.YthjpighlcalocaaGreatDoor
open Go.RowKit Go.Maps
set_option linter.unusedVariables false
set_option linter.unusedSimpArgs false

set_option maxRecDepth 100000 in
set_option maxHeartbeats 4000000 in
theorem stat_any (q : Byt) (w : World) (tb : Nat) (T : Wd) (f : Rl) (p : Nat → Nat) (K : Nat) (h : TreeIs w tb T f p K) :
    Calls Tryz.prog 36 #[.pointer (some ⟨tb, 0, none⟩), .string (tx q)] w (RetDo w tb f K (T, statT T q)) := by
  have H := Lib.hid h
  obtain ⟨q4, hq4⟩ : ∃ q, q = w.heap.size := ⟨_, rfl⟩
  obtain ⟨w1, hw1⟩ : ∃ w1, w1 = w.alloc (Obj.cells zeroS 31) := ⟨_, rfl⟩
  have HB1 : Hid (Below w.heap.size w w1) := Lib.hid (by rw [hw1]; exact ba1 _ _)
  have HX4 : Hid (Bx 31 w1 q4 zeroS) := Lib.hid (by rw [hw1, hq4]; exact bx_new _ _ _)
  have HQ4 : Hid (w.heap.size ≤ q4) := Lib.hid (by omega)
  have hT1 := H.out.new HB1.out
  have HT1 := Lib.hid hT1
  have HO := Lib.hid (open_any q w1 tb T f p K hT1)
  obtain ⟨g, hg⟩ : ∃ g, g = statT T q := ⟨_, rfl⟩
  rw [← hg]
  unfold statT at hg
  obtain ⟨r, hr⟩ : ∃ r, r = openT T q := ⟨_, rfl⟩
  rw [← hr] at HO hg
  have HR := Lib.hid hr
  have HG := Lib.hid hg
  have tn := fun w => ta_nil 68 w (.inl rfl)
  have th := fun x w => ta_hit 68 x w (.inl rfl)
  have tm := fun x w => ta_miss 73 68 x w (.inl rfl) (by decide)
  have tn2 := fun w => ta_nil 73 w (.inr (.inl rfl))
  have th2 := fun x w => ta_hit 73 x w (.inr (.inl rfl))
  unfold zeroS at hw1
  clear h hr hg hT1
  go_enter Tryz.func36, Tryz.ntmps36
  go_upto_region 1 with fail
  rw [← hw1, ← hq4]
  clear hw1 hq4
  go_upto_region 2 with (go_at_call 50; (with_reducible refine HO.out.mono ?_); intro e w2 h2; obtain ⟨HB2, ⟨x, hx, rfl, HE⟩ | ⟨n, rfl, HE⟩ | ⟨n, rfl, HE⟩⟩ := h2.is HR.out H.out.wf; clear h2)
  · have hgs : Hid (g = snE x) := Lib.hid (by rw [HG.out, HE.out])
    obtain ⟨d0, e0, e1, e2, e3, e4, f0, f1, f2, f3, f4⟩ := (show Bx 31 w2 q4 zeroS from HX4.out.below HB2.out).all5
    go_wp2_with fail
    refine end_ret (v := .agg (snV (svP (snE x)))) (by unfold snV svP snE; simp [results, Tryz.results36, go_sem, d0, e0, e1, e2, e3, e4, f0, f1, f2, f3, f4]; try rfl) ?_
    exact RetDo.same H.out (by rw [hgs.out]) rfl rfl (below_store5 (bthen HB1.out HB2.out) HQ4.out _ _ _ _ _)
  · obtain ⟨he, hlv, hk⟩ := HE.out
    have hgs : Hid (g = ⟨0, 1, ((kids T n).length : Nat), [], []⟩) := Lib.hid (by rw [HG.out, he]; exact if_pos hk)
    obtain ⟨m, -, -, hbx, hdir⟩ := (HT1.out.new HB2.out).dir hlv hk
    obtain ⟨l0, l1⟩ := hbx.one
    have hlen := fun ty => hdir.len H.out.wf ty
    obtain ⟨ln, hln⟩ : ∃ ln, ln = (kids T n).length := ⟨_, rfl⟩
    rw [← hln] at hlen hgs
    obtain ⟨d0, e0, e1, e2, e3, e4, f0, f1, f2, f3, f4⟩ := (show Bx 31 w2 q4 zeroS from HX4.out.below HB2.out).all5
    clear he hlv hk hbx hdir hln
    go_wp2_with fail
    refine end_ret (v := .agg (snV (svP ⟨0, 1, (ln : Nat), [], []⟩))) (by unfold snV svP; simp [results, Tryz.results36, go_sem, d0, e0, e1, e2, e3, e4, f0, f1, f2, f3, f4]; try rfl) ?_
    exact RetDo.same H.out (by rw [hgs.out]) rfl rfl (below_store5 (bthen HB1.out HB2.out) HQ4.out _ _ _ _ _)
  · obtain ⟨he, hlv, hk⟩ := HE.out
    have hgs : Hid (g = ⟨0, 2, ((nd T n).data.length : Nat), [], []⟩) := Lib.hid (by rw [HG.out, he]; exact if_neg (by omega))
    obtain ⟨A, c, -, hbx, -, -⟩ := (HT1.out.new HB2.out).file hlv hk
    obtain ⟨l0, l1⟩ := hbx.one
    obtain ⟨ln, hln⟩ : ∃ ln, ln = (nd T n).data.length := ⟨_, rfl⟩
    rw [← hln] at l1 hgs
    obtain ⟨d0, e0, e1, e2, e3, e4, f0, f1, f2, f3, f4⟩ := (show Bx 31 w2 q4 zeroS from HX4.out.below HB2.out).all5
    clear he hlv hk hbx hln
    go_wp2_with fail
    refine end_ret (v := .agg (snV (svP ⟨0, 2, (ln : Nat), [], []⟩))) (by unfold snV svP; simp [results, Tryz.results36, go_sem, d0, e0, e1, e2, e3, e4, f0, f1, f2, f3, f4]; try rfl) ?_
    exact RetDo.same H.out (by rw [hgs.out]) rfl rfl (below_store5 (bthen HB1.out HB2.out) HQ4.out _ _ _ _ _)

set_option maxRecDepth 100000 in
set_option maxHeartbeats 4000000 in
theorem list_any (q : Byt) (w : World) (tb : Nat) (T : Wd) (f : Rl) (p : Nat → Nat) (K : Nat) (h : TreeIs w tb T f p K) (hK : K ≤ 1000000) :
    Calls Tryz.prog 37 #[.pointer (some ⟨tb, 0, none⟩), .string (tx q)] w (RetDo w tb f K (T, listT T q)) := by
  have H := Lib.hid h
  obtain ⟨q4, hq4⟩ : ∃ q, q = w.heap.size := ⟨_, rfl⟩
  obtain ⟨w1, hw1⟩ : ∃ w1, w1 = w.alloc (Obj.cells zeroS 31) := ⟨_, rfl⟩
  have HB1 : Hid (Below w.heap.size w w1) := Lib.hid (by rw [hw1]; exact ba1 _ _)
  have HX4 : Hid (Bx 31 w1 q4 zeroS) := Lib.hid (by rw [hw1, hq4]; exact bx_new _ _ _)
  have HQ4 : Hid (w.heap.size ≤ q4) := Lib.hid (by omega)
  have hT1 := H.out.new HB1.out
  have HT1 := Lib.hid hT1
  have HO := Lib.hid (open_any q w1 tb T f p K hT1)
  obtain ⟨g, hg⟩ : ∃ g, g = listT T q := ⟨_, rfl⟩
  rw [← hg]
  unfold listT at hg
  obtain ⟨r, hr⟩ : ∃ r, r = openT T q := ⟨_, rfl⟩
  rw [← hr] at HO hg
  have HR := Lib.hid hr
  have HG := Lib.hid hg
  have tn := fun w => ta_nil 68 w (.inl rfl)
  have th := fun x w => ta_hit 68 x w (.inl rfl)
  have tm := fun x w => ta_miss 73 68 x w (.inl rfl) (by decide)
  unfold zeroS at hw1
  clear h hr hg hT1
  go_enter Tryz.func37, Tryz.ntmps37
  go_upto_region 1 with fail
  rw [← hw1, ← hq4]
  clear hw1 hq4
  go_upto_region 2 with (go_at_call 50; (with_reducible refine HO.out.mono ?_); intro e w2 h2; obtain ⟨HB2, ⟨x, hx, rfl, HE⟩ | ⟨n, rfl, HE⟩ | ⟨n, rfl, HE⟩⟩ := h2.is HR.out H.out.wf; clear h2)
  · have hgs : Hid (g = snE x) := Lib.hid (by rw [HG.out, HE.out])
    obtain ⟨d0, e0, e1, e2, e3, e4, f0, f1, f2, f3, f4⟩ := (show Bx 31 w2 q4 zeroS from HX4.out.below HB2.out).all5
    go_wp2_with fail
    refine end_ret (v := .agg (snV (svP (snE x)))) (by unfold snV svP snE; simp [results, Tryz.results37, go_sem, d0, e0, e1, e2, e3, e4, f0, f1, f2, f3, f4]; try rfl) ?_
    exact RetDo.same H.out (by rw [hgs.out]) rfl rfl (below_store5 (bthen HB1.out HB2.out) HQ4.out _ _ _ _ _)
  · obtain ⟨he, hlv, hk⟩ := HE.out
    have hgs : Hid (g = ⟨0, 0, 0, [], sorted (kids T n)⟩) := Lib.hid (by rw [HG.out, he]; exact if_pos hk)
    have HT2 := Lib.hid (HT1.out.new HB2.out)
    have HCALL := Lib.hid (dlist_any w2 tb T f p K n HT2.out hlv hk hK)
    clear he hlv hk
    go_wp2_with (go_at_call 52; (with_reducible refine HCALL.out.mono ?_); rintro e w3 ⟨A3, m3, c3, rfl, ho3, hb3⟩; have HO3 := Lib.hid ho3; have HB3 := Lib.hid hb3; obtain ⟨d0, e0, e1, e2, e3, e4, f0, f1, f2, f3, f4⟩ := (show Bx 31 w3 q4 zeroS from (HX4.out.below HB2.out).below hb3).all5; clear ho3 hb3)
    refine end_ret (v := .agg (snV ⟨⟨0, 0, 0, [], sorted (kids T n)⟩, none, 0, 0, A3, m3, c3⟩)) (by unfold snV; simp [results, Tryz.results37, go_sem, d0, e0, e1, e2, e3, e4, f0, f1, f2, f3, f4]; try rfl) ?_
    have hb13 := bthen (bthen HB1.out HB2.out) HB3.out
    have hsz := HB2.out.size
    have hsz1 := HB1.out.size
    have hqo : Off q4 (.slice A3 m3 c3) := fun k hk e => by have := (HO3.out.lt k hk).1; have := HX4.out.lt; omega
    refine ⟨⟨⟨0, 0, 0, [], sorted (kids T n)⟩, none, 0, 0, A3, m3, c3⟩, f, p, hgs.out.symm, rfl, ⟨OwnL.nil _ _, (HO3.out.base (by omega)).set5 hqo _ _ _ _ _⟩, (H.out.new (below_store5 hb13 HQ4.out _ _ _ _ _)).mono (Nat.le_succ K), only_new (below_store5 hb13 HQ4.out _ _ _ _ _), fun b hb => .inl hb, fun b hb hs => ?_⟩
    rcases hs with hs | hs
    · cases hs
    · have h1 := (HO3.out.lt b hs).1
      have h2 := H.out.lt b hb
      omega
  · have hgs : Hid (g = snE 15) := Lib.hid (by rw [HG.out, HE.out.1]; exact if_neg (by rw [HE.out.2.2]; decide))
    obtain ⟨d0, e0, e1, e2, e3, e4, f0, f1, f2, f3, f4⟩ := (show Bx 31 w2 q4 zeroS from HX4.out.below HB2.out).all5
    go_wp2_with fail
    refine end_ret (v := .agg (snV (svP (snE 15)))) (by unfold snV svP snE; simp [results, Tryz.results37, go_sem, d0, e0, e1, e2, e3, e4, f0, f1, f2, f3, f4]; try rfl) ?_
    exact RetDo.same H.out (by rw [hgs.out]) rfl rfl (below_store5 (bthen HB1.out HB2.out) HQ4.out _ _ _ _ _)

end Go.Proofs.YthjpighlcalocaaGreatDoor

namespace Go.Proofs.YthjpighlcalocaaGreatDoor
open Go.RowKit Go.Maps
set_option linter.unusedVariables false
set_option linter.unusedSimpArgs false

theorem RetA.lift {w w1 w' : World} {tb : Nat} {f : Rl} {K B : Nat} {r : Wd × Int} {e : Ending} (h : RetA w1 tb f K B r e w') (hb : Below w.heap.size w w1) : RetA w tb f K B r e w' := by
  obtain ⟨f', p', h1, h2, h3, h4⟩ := h
  exact ⟨f', p', h1, h2, (only_new hb).trans h3 (fun j hj => .inl hj), h4⟩

def linkT (T : Wd) (q to_ : Byt) : Wd × Int := if to_ = [] ∨ 200 < to_.length then (T, 1) else addT T q ⟨3, 0, [], [], to_, false⟩

set_option maxHeartbeats 2000000 in
theorem link_any (q to_ : Byt) (w : World) (tb : Nat) (T : Wd) (f : Rl) (p : Nat → Nat) (K : Nat) (h : TreeIs w tb T f p K) (hK : K < 1000000) :
    Calls Tryz.prog 34 #[.pointer (some ⟨tb, 0, none⟩), .string (tx q), .string (tx to_)] w (RetA w tb f K w.heap.size (linkT T q to_)) := by
  have H := Lib.hid h
  have htl := tx_toList to_
  have hts := tx_size to_
  by_cases hbad : to_ = [] ∨ 200 < to_.length
  · have HG : Hid (linkT T q to_ = (T, 1)) := Lib.hid (if_pos hbad)
    obtain ⟨g, hg⟩ : ∃ g, g = linkT T q to_ := ⟨_, rfl⟩
    rw [← hg] at HG ⊢
    have hfin := Lib.hid (RetA.same (B := w.heap.size) H.out HG.out (Below.refl w.heap.size w))
    have hway : (to_ = []) ∨ ((to_ == []) = false ∧ to_ ≠ [] ∧ (200 : Int) < (to_.length : Int)) := by
      by_cases h0 : to_ = []
      · exact .inl h0
      · rcases hbad with g | g
        · exact absurd g h0
        · exact .inr ⟨by simpa using h0, h0, by omega⟩
    clear hbad h hg
    rcases hway with rfl | ⟨h1, h1', h2⟩
    · go_enter Tryz.func34, Tryz.ntmps34
      go_wp2_with fail
      go_ret
      exact hfin.out
    · go_enter Tryz.func34, Tryz.ntmps34
      go_wp2_with fail
      go_ret
      exact hfin.out
  · have HG : Hid (linkT T q to_ = addT T q ⟨3, 0, [], [], to_, false⟩) := Lib.hid (if_neg hbad)
    rw [HG.out]
    have h0 : to_ ≠ [] := fun e => hbad (.inl e)
    have h1 : (to_ == []) = false := by simpa using h0
    have h2 : ¬ (200 : Int) < (to_.length : Int) := by have : ¬ 200 < to_.length := fun e => hbad (.inr e); omega
    obtain ⟨w1, hw1⟩ : ∃ w1, w1 = w.alloc (Obj.cells #[.string (tx to_)] 114) := ⟨_, rfl⟩
    have HB1 : Hid (Below w.heap.size w w1) := Lib.hid (by rw [hw1]; exact ba1 _ _)
    have hfr : Fresh w1 f w.heap.size ⟨3, 0, [], [], to_, false⟩ w.heap.size := ⟨Nat.le_refl _, by rw [hw1]; simp, by
      rcases hf : f w.heap.size with _ | r
      · rfl
      · have := h.lt w.heap.size (by rw [hf]; simp); omega, .inr (.inr ⟨rfl, by rw [hw1]; exact bx_new _ _ _⟩)⟩
    have HADD := Lib.hid ((add_any q ⟨3, 0, [], [], to_, false⟩ w.heap.size w.heap.size w1 tb T f p K (h.new HB1.out) hK (.inr (.inr rfl)) rfl (by show to_.length ≤ 200; omega) rfl hfr 112 rfl))
    obtain ⟨g, hg⟩ : ∃ g, g = addT T q ⟨3, 0, [], [], to_, false⟩ := ⟨_, rfl⟩
    obtain ⟨q18, hq18⟩ : ∃ q, q = w.heap.size := ⟨_, rfl⟩
    rw [← hg] at HADD ⊢
    have HQ := Lib.hid hq18
    have HADD' : Hid (Calls Tryz.prog 33 #[.pointer (some ⟨tb, 0, none⟩), .string (tx q), .iface 112 (.pointer (some ⟨q18, 0, none⟩))] w1 (RetA w1 tb f K w.heap.size g)) := Lib.hid (by rw [hq18]; exact HADD.out)
    clear hbad hfr h hg HADD
    go_enter Tryz.func34, Tryz.ntmps34
    go_wp2_with (go_at_call 33; rw [← hw1, ← hq18]; (with_reducible refine HADD'.out.mono ?_); intro e w3 hr3; have HR3 := Lib.hid (hr3.lift HB1.out); obtain ⟨f3, p3, rfl, -⟩ := hr3)
    go_ret
    exact HR3.out

/-- a new directory -/
theorem newDir_any (w : World) : Calls Tryz.prog 32 #[] w fun e w' => ∃ bn, e = .returned (.pointer (some ⟨bn, 0, none⟩)) ∧ Hid (Below w.heap.size w w' ∧ ∀ f : Rl, (∀ b, f b ≠ none → b < w.heap.size) → Fresh w' f w.heap.size ⟨1, 0, [], [], [], false⟩ bn) := by
  have hmm := @run_makeMap Tryz.prog
  go_enter Tryz.func32, Tryz.ntmps32
  go_wp2_with fail
  go_ret
  refine ⟨w.heap.size + 1, by first | rfl | simp, Lib.hid ⟨ba2 _ _ _, fun f hf => ⟨by omega, by simp, ?_, .inl ⟨rfl, w.heap.size, Nat.le_refl _, by omega, ?_, ?_, ?_⟩⟩⟩⟩
  · rcases h : f (w.heap.size + 1) with _ | r
    · rfl
    · have := hf _ (by rw [h]; simp); omega
  · rcases h : f w.heap.size with _ | r
    · rfl
    · have := hf _ (by rw [h]; simp); omega
  · have := bx_new (w.alloc (.map #[] 0)) 107 #[.map (some w.heap.size)]
    simpa using this
  · exact (dirIs_made w).below (ba1 _ _)

end Go.Proofs.YthjpighlcalocaaGreatDoor

namespace Go.Proofs.YthjpighlcalocaaGreatDoor
open Go.RowKit Go.Maps
set_option linter.unusedVariables false
set_option linter.unusedSimpArgs false

/-- a code that lay in a box of the call's own -/
theorem RetA.box {w w1 w3 : World} {tb : Nat} {f : Rl} {K B : Nat} {r : Wd × Int} {e : Ending} {q : Nat} (h : RetA w1 tb f K B r e w3) (hf : ∀ b, f b ≠ none → b < w.heap.size) (hb : Below w.heap.size w w1) (hq : w.heap.size ≤ q) (hz : Bx 31 w1 q zeroS) (hB : w1.heap.size ≤ B) :
    ∃ x : Int, e = .returned (.int .i64 x) ∧ Hid (Bx 31 w3 q zeroS) ∧ Hid (∀ v0 v1 v2 v3 v4, RetDo w tb f K (snC r) (.returned (.agg (snV (svP (snE x))))) (((((w3.setCell ⟨q, 0, none⟩ v0).setCell ⟨q, 1, none⟩ v1).setCell ⟨q, 2, none⟩ v2).setCell ⟨q, 3, none⟩ v3).setCell ⟨q, 4, none⟩ v4)) := by
  obtain ⟨f', p', h1, h2, h3, h4⟩ := h
  have hs := hb.size
  have hq1 := hz.lt
  have hfq : f q = none := by
    rcases hfq : f q with _ | r
    · rfl
    · have := hf q (by rw [hfq]; simp); omega
  have hfq' : f' q = none := by
    rcases hfq' : f' q with _ | r
    · rfl
    · rcases h4 q (by rw [hfq']; simp) with g | g
      · exact absurd hfq g
      · omega
  refine ⟨r.2, h1, Lib.hid (hz.only h3 (fun hs => hs hfq)), Lib.hid fun v0 v1 v2 v3 v4 => ?_⟩
  have hst : Only (fun k => k = q) w3 (((((w3.setCell ⟨q, 0, none⟩ v0).setCell ⟨q, 1, none⟩ v1).setCell ⟨q, 2, none⟩ v2).setCell ⟨q, 3, none⟩ v3).setCell ⟨q, 4, none⟩ v4) := only_store5 (S := fun k => k = q) (Only.refl _ _) (.inl rfl) _ _ _ _ _
  refine ⟨svP (snE r.2), f', p', rfl, rfl, svOwn_p _ _ _ rfl rfl, h2.only hst (fun b hb => by rw [hb]; exact hfq'), only_store5 ((only_new hb).trans h3 (fun j hj => .inl hj)) (.inr hq) _ _ _ _ _, fun b hb => ?_, fun b _ => svB_p _ b⟩
  rcases h4 b hb with g | g
  · exact .inl g
  · exact .inr (by omega)

set_option maxRecDepth 100000 in
set_option maxHeartbeats 8000000 in
theorem do_any (a : Ac) (D : Option Addr) (m dd : Nat) (w : World) (tb : Nat) (T : Wd) (f : Rl) (p : Nat → Nat) (K : Nat) (h : TreeIs w tb T f p K) (hK : K < 1000000) (hl40 : liveN T ≤ 1000000) (hD : Ls byS w D a.data) (hm : a.data.length = m) (hcl : 0 < m → Clear (fun k => f k ≠ none) D) (hd : ∀ z ∈ a.data, 0 ≤ z ∧ z ≤ 255) :
    Calls Tryz.prog 21 #[.pointer (some ⟨tb, 0, none⟩), .agg (acV ⟨a, D, m, dd⟩)] w (RetDo w tb f K (actT T a)) := by
  unfold acV
  simp only []
  have H := Lib.hid h
  obtain ⟨cs, hcs⟩ : ∃ cs : Array Value, cs = #[.int .i64 a.kind, .string (tx a.path), .string (tx a.to), .int .i64 a.at_, .int .i64 a.count, .slice D m dd] := ⟨_, rfl⟩
  obtain ⟨q3, hq3⟩ : ∃ q, q = w.heap.size := ⟨_, rfl⟩
  obtain ⟨q4, hq4⟩ : ∃ q, q = w.heap.size + 1 := ⟨_, rfl⟩
  obtain ⟨w1, hw1⟩ : ∃ w1, w1 = (w.alloc (Obj.cells cs 55)).alloc (Obj.cells zeroS 31) := ⟨_, rfl⟩
  have HB1 : Hid (Below w.heap.size w w1) := Lib.hid (by rw [hw1]; exact ba2 _ _ _)
  have HX3 : Hid (Bx 55 w1 q3 cs) := Lib.hid (by rw [hw1, hq3]; exact (bx_new _ _ _).below (ba1 _ _))
  have HX4 : Hid (Bx 31 w1 q4 zeroS) := Lib.hid (by rw [hw1, hq4]; have := bx_new (w.alloc (Obj.cells cs 55)) 31 zeroS; simpa using this)
  have HQ4 : Hid (w.heap.size ≤ q4) := Lib.hid (by omega)
  have hT1 := H.out.new HB1.out
  have HT1 := Lib.hid hT1
  have HDD := Lib.hid (And.intro hD (And.intro hm (And.intro hcl hd)))
  have HLT := Lib.hid H.out.lt
  obtain ⟨g, hg⟩ : ∃ g, g = actT T a := ⟨_, rfl⟩
  rw [← hg]
  have HBOX : Hid (∀ r e w3, RetDo w1 tb f K r e w3 → ∃ x : Sv, e = .returned (.agg (snV x)) ∧ Hid (Bx 31 w3 q4 zeroS) ∧ Hid (∀ v0 v1 v2 v3 v4, RetDo w tb f K r (.returned (.agg (snV x))) (((((w3.setCell ⟨q4, 0, none⟩ v0).setCell ⟨q4, 1, none⟩ v1).setCell ⟨q4, 2, none⟩ v2).setCell ⟨q4, 3, none⟩ v3).setCell ⟨q4, 4, none⟩ v4))) := Lib.hid (fun r e w3 h => h.box HLT.out HB1.out HQ4.out HX4.out)
  have HBOXA : Hid (∀ r B e w3, w1.heap.size ≤ B → RetA w1 tb f K B r e w3 → ∃ x : Int, e = .returned (.int .i64 x) ∧ Hid (Bx 31 w3 q4 zeroS) ∧ Hid (∀ v0 v1 v2 v3 v4, RetDo w tb f K (snC r) (.returned (.agg (snV (svP (snE x))))) (((((w3.setCell ⟨q4, 0, none⟩ v0).setCell ⟨q4, 1, none⟩ v1).setCell ⟨q4, 2, none⟩ v2).setCell ⟨q4, 3, none⟩ v3).setCell ⟨q4, 4, none⟩ v4))) := Lib.hid (fun r B e w3 hB h => h.box HLT.out HB1.out HQ4.out HX4.out hB)
  have x3 : Bx 55 w1 q3 #[.int .i64 a.kind, .string (tx a.path), .string (tx a.to), .int .i64 a.at_, .int .i64 a.count, .slice D m dd] := by rw [← hcs]; exact HX3.out
  have y0 := x3.cell 0 _ rfl
  have y1 := x3.cell 1 _ rfl
  have y2 := x3.cell 2 _ rfl
  have y3 := x3.cell 3 _ rfl
  have y4 := x3.cell 4 _ rfl
  have y5 := x3.cell 5 _ rfl
  have yl := x3.lt
  have HX3' := Lib.hid x3
  -- each act's call
  have HW : Hid (a.kind = 3 ∨ a.kind = 4 ∨ a.kind = 5 → Calls Tryz.prog 35 #[.pointer (some ⟨tb, 0, none⟩), .agg (acV ⟨a, D, m, dd⟩)] w1 (RetDo w1 tb f K g)) := Lib.hid (fun hk => by
    have : g = workT T a := by
      rw [hg]; unfold actT
      rw [if_neg (by omega), if_neg (by omega), if_neg (by omega), if_pos hk]
    rw [this]
    exact work_any a D m dd w1 tb T f p K hT1 (hD.below HB1.out) hm hcl hd)
  have HS : Hid (a.kind = 6 → Calls Tryz.prog 36 #[.pointer (some ⟨tb, 0, none⟩), .string (tx a.path)] w1 (RetDo w1 tb f K g)) := Lib.hid (fun hk => by
    have : g = (T, statT T a.path) := by
      rw [hg]; unfold actT
      rw [if_neg (by omega), if_neg (by omega), if_neg (by omega), if_neg (by omega), if_pos hk]
    rw [this]
    exact stat_any a.path w1 tb T f p K hT1)
  have HL : Hid (a.kind = 7 → Calls Tryz.prog 37 #[.pointer (some ⟨tb, 0, none⟩), .string (tx a.path)] w1 (RetDo w1 tb f K g)) := Lib.hid (fun hk => by
    have : g = (T, listT T a.path) := by
      rw [hg]; unfold actT
      rw [if_neg (by omega), if_neg (by omega), if_neg (by omega), if_neg (by omega), if_neg (by omega), if_pos hk]
    rw [this]
    exact list_any a.path w1 tb T f p K hT1 (by omega))
  have HRM : Hid (a.kind = 8 → g = snC (removeT T a.path) ∧ Calls Tryz.prog 38 #[.pointer (some ⟨tb, 0, none⟩), .string (tx a.path)] w1 (RetA w1 tb f K w1.heap.size (removeT T a.path))) := Lib.hid (fun hk => by
    have : g = snC (removeT T a.path) := by
      rw [hg]; unfold actT
      rw [if_neg (by omega), if_neg (by omega), if_neg (by omega), if_neg (by omega), if_neg (by omega), if_neg (by omega), if_pos hk]
    exact ⟨this, remove_any a.path w1.heap.size w1 tb T f p K hT1 hl40⟩)
  have HRN : Hid (a.kind = 9 → g = snC (renameT T a.path a.to) ∧ Calls Tryz.prog 39 #[.pointer (some ⟨tb, 0, none⟩), .string (tx a.path), .string (tx a.to)] w1 (RetA w1 tb f K w1.heap.size (renameT T a.path a.to))) := Lib.hid (fun hk => by
    have : g = snC (renameT T a.path a.to) := by
      rw [hg]; unfold actT
      rw [if_neg (by omega), if_neg (by omega), if_neg (by omega), if_neg (by omega), if_neg (by omega), if_neg (by omega), if_neg (by omega), if_pos hk]
    exact ⟨this, rename_any a.path a.to w1.heap.size w1 tb T f p K hT1 hK⟩)
  have HLK : Hid (a.kind = 10 → g = snC (linkT T a.path a.to) ∧ Calls Tryz.prog 34 #[.pointer (some ⟨tb, 0, none⟩), .string (tx a.path), .string (tx a.to)] w1 (RetA w1 tb f K w1.heap.size (linkT T a.path a.to))) := Lib.hid (fun hk => by
    have : g = snC (linkT T a.path a.to) := by
      rw [hg]; unfold actT linkT
      rw [if_neg (by omega), if_neg (by omega), if_pos hk]
      split
      · rfl
      · rfl
    exact ⟨this, link_any a.path a.to w1 tb T f p K hT1 hK⟩)
  have HMK : Hid (a.kind = 2 → g = snC (addT T a.path ⟨2, 0, [], [], [], false⟩)) := Lib.hid (fun hk => by
    rw [hg]; unfold actT
    rw [if_neg (by omega), if_pos hk])
  have HMD : Hid (a.kind = 1 → g = snC (addT T a.path ⟨1, 0, [], [], [], false⟩)) := Lib.hid (fun hk => by
    rw [hg]; unfold actT
    rw [if_pos hk])
  have HNO : Hid (a.kind < 1 ∨ 10 < a.kind → g = (T, snE 3)) := Lib.hid (fun hk => by
    rw [hg]; unfold actT
    rw [if_neg (by omega), if_neg (by omega), if_neg (by omega), if_neg (by omega), if_neg (by omega), if_neg (by omega), if_neg (by omega), if_neg (by omega)])
  unfold acV at HW
  simp only [] at HW
  rw [hcs] at hw1
  unfold zeroS at hw1
  have HKK := Lib.hid hK
  obtain ⟨kd, hkd⟩ : ∃ k, k = a.kind := ⟨_, rfl⟩
  rw [← hkd] at HW HS HL HRM HRN HLK HMK HMD HNO y0 hw1 ⊢
  have HCS : Hid (cs = #[.int .i64 kd, .string (tx a.path), .string (tx a.to), .int .i64 a.at_, .int .i64 a.count, .slice D m dd]) := Lib.hid (by rw [hkd]; exact hcs)
  clear hg hkd h hD hm hcl hd hcs hT1 x3 hK hl40
  have hway : kd = 1 ∨ kd = 2 ∨ kd = 10 ∨ (kd = 3 ∨ kd = 4 ∨ kd = 5) ∨ kd = 6 ∨ kd = 7 ∨ kd = 8 ∨ kd = 9 ∨ (kd < 1 ∨ 10 < kd) := by omega
  rcases hway with rfl | rfl | rfl | hk | rfl | rfl | rfl | rfl | hk
  · -- Mkdir
    have HGS := Lib.hid (HMD.out rfl)
    clear HW HS HL HRM HRN HLK HMK HMD HNO
    have HADD : Hid (∀ w2 bn, Below w1.heap.size w1 w2 → Fresh w2 f w1.heap.size ⟨1, 0, [], [], [], false⟩ bn → Calls Tryz.prog 33 #[.pointer (some ⟨tb, 0, none⟩), .string (tx a.path), .iface 68 (.pointer (some ⟨bn, 0, none⟩))] w2 (RetA w1 tb f K w1.heap.size (addT T a.path ⟨1, 0, [], [], [], false⟩))) := Lib.hid (fun w2 bn hb hf =>
      (add_any a.path ⟨1, 0, [], [], [], false⟩ w1.heap.size bn w2 tb T f p K (HT1.out.new hb) HKK.out (.inl rfl) rfl (by simp) rfl hf 68 rfl).mono fun e w' h => h.lift hb)
    have HLT1 := Lib.hid HT1.out.lt
    have HCELL : Hid (∀ w2, Below w1.heap.size w1 w2 → w2.cell? ⟨q3, 1, none⟩ = some (.string (tx a.path))) := Lib.hid (fun w2 hb => (hb.cell (p := ⟨q3, 1, none⟩) HX3'.out.lt).trans (HX3'.out.cell 1 _ rfl))
    go_enter Tryz.func21, Tryz.ntmps21
    go_upto_region 1 with fail
    rw [← hw1, ← hq4, ← hq3]
    clear hw1 hq4 hq3
    go_upto_region 3 with fail
    clear y0 y2 y3 y4 y5
    go_region_law (first
      | (go_simp; go_at_call 32; (with_reducible refine (newDir_any w1.drew).mono ?_); rintro e w2 ⟨bn, rfl, HN2⟩; have HBN : Hid (Below w1.heap.size w1 w2) := Lib.hid (((Below.refl w1.heap.size w1).drew).trans HN2.out.1); have HFN : Hid (Fresh w2 f w1.heap.size ⟨1, 0, [], [], [], false⟩ bn) := Lib.hid (HN2.out.2 f HLT1.out); have z1 := HCELL.out w2 HBN.out; have zl := Nat.lt_of_lt_of_le yl HBN.out.size)
      | (go_simp; go_at_call 33; (with_reducible refine (HADD.out w2 bn HBN.out HFN.out).mono ?_); intro e w3 hr3; obtain ⟨x, rfl, HZ3, HR3⟩ := HBOXA.out _ _ e w3 (Nat.le_refl _) hr3; clear hr3; obtain ⟨d0, e0, e1, e2, e3, e4, f0, f1, f2, f3, f4⟩ := HZ3.out.all5))
    all_goals
      go_wp2_with fail
    all_goals
      refine end_ret (v := .agg (snV (svP (snE x)))) (by unfold snV svP snE; simp [results, Tryz.results21, go_sem, d0, e0, e1, e2, e3, e4, f0, f1, f2, f3, f4]; try rfl) ?_
    all_goals
      rw [HGS.out]
      exact HR3.out _ _ _ _ _
  · -- Make
    have HGS := Lib.hid (HMK.out rfl)
    clear HW HS HL HRM HRN HLK HMK HMD HNO
    obtain ⟨q22, hq22⟩ : ∃ q, q = w1.heap.size := ⟨_, rfl⟩
    obtain ⟨w2, hw2⟩ : ∃ w2, w2 = w1.alloc (Obj.cells #[.slice none 0 0] 75) := ⟨_, rfl⟩
    have HB2 : Hid (Below w1.heap.size w1 w2) := Lib.hid (by rw [hw2]; exact ba1 _ _)
    have hfr : Fresh w2 f w1.heap.size ⟨2, 0, [], [], [], false⟩ q22 := ⟨by omega, by rw [hw2, hq22]; simp, by
      rcases hf : f q22 with _ | r
      · rfl
      · have := HT1.out.lt q22 (by rw [hf]; simp); omega, .inr (.inl ⟨rfl, rfl, by rw [hw2, hq22]; exact bx_new _ _ _⟩)⟩
    have HCALL := Lib.hid (add_any a.path ⟨2, 0, [], [], [], false⟩ w1.heap.size q22 w2 tb T f p K (HT1.out.new HB2.out) HKK.out (.inr (.inl rfl)) rfl (by simp) rfl hfr 73 rfl)
    clear hfr
    go_enter Tryz.func21, Tryz.ntmps21
    go_upto_region 1 with fail
    rw [← hw1, ← hq4, ← hq3]
    clear hw1 hq4 hq3
    go_wp2_with (go_at_call 33; rw [← hw2, ← hq22]; (with_reducible refine HCALL.out.mono ?_); intro e w3 hr3; obtain ⟨x, rfl, HZ3, HR3⟩ := HBOXA.out _ _ e w3 (Nat.le_refl _) (hr3.lift HB2.out); clear hr3; obtain ⟨d0, e0, e1, e2, e3, e4, f0, f1, f2, f3, f4⟩ := HZ3.out.all5; clear y0 y1 y2 y3 y4 y5 yl)
    refine end_ret (v := .agg (snV (svP (snE x)))) (by unfold snV svP snE; simp [results, Tryz.results21, go_sem, d0, e0, e1, e2, e3, e4, f0, f1, f2, f3, f4]; try rfl) ?_
    rw [HGS.out]
    exact HR3.out _ _ _ _ _
  · -- Link
    have HGS := Lib.hid (HLK.out rfl).1
    have HCALL := Lib.hid (HLK.out rfl).2
    clear HW HS HL HRM HRN HLK HMK HMD HNO
    go_enter Tryz.func21, Tryz.ntmps21
    go_upto_region 1 with fail
    rw [← hw1, ← hq4, ← hq3]
    clear hw1 hq4 hq3
    go_wp2_with (go_at_call 34; (with_reducible refine HCALL.out.mono ?_); intro e w3 hr3; obtain ⟨x, rfl, HZ3, HR3⟩ := HBOXA.out _ _ e w3 (Nat.le_refl _) hr3; clear hr3; obtain ⟨d0, e0, e1, e2, e3, e4, f0, f1, f2, f3, f4⟩ := HZ3.out.all5; clear y0 y1 y2 y3 y4 y5 yl)
    refine end_ret (v := .agg (snV (svP (snE x)))) (by unfold snV svP snE; simp [results, Tryz.results21, go_sem, d0, e0, e1, e2, e3, e4, f0, f1, f2, f3, f4]; try rfl) ?_
    rw [HGS.out]
    exact HR3.out _ _ _ _ _
  · -- Put, Get, Cut
    have HCALL := Lib.hid (HW.out hk)
    clear HW HS HL HRM HRN HLK HMK HMD HNO
    rcases hk with rfl | rfl | rfl
    all_goals
      go_enter Tryz.func21, Tryz.ntmps21
      go_upto_region 1 with fail
      rw [← hw1, ← hq4, ← hq3]
      clear hw1 hq4 hq3
      go_wp2_with (go_at_call 35; (with_reducible refine HCALL.out.mono ?_); intro e w3 hr3; obtain ⟨x, rfl, HZ3, HR3⟩ := HBOX.out g e w3 hr3; clear hr3; unfold snV; obtain ⟨d0, e0, e1, e2, e3, e4, f0, f1, f2, f3, f4⟩ := HZ3.out.all5; clear y0 y1 y2 y3 y4 y5 yl)
      refine end_ret (v := .agg (snV x)) (by unfold snV; simp [results, Tryz.results21, go_sem, d0, e0, e1, e2, e3, e4, f0, f1, f2, f3, f4]; try rfl) ?_
      exact HR3.out _ _ _ _ _
  · -- Stat
    have HCALL := Lib.hid (HS.out rfl)
    clear HW HS HL HRM HRN HLK HMK HMD HNO
    go_enter Tryz.func21, Tryz.ntmps21
    go_upto_region 1 with fail
    rw [← hw1, ← hq4, ← hq3]
    clear hw1 hq4 hq3
    go_wp2_with (go_at_call 36; (with_reducible refine HCALL.out.mono ?_); intro e w3 hr3; obtain ⟨x, rfl, HZ3, HR3⟩ := HBOX.out g e w3 hr3; clear hr3; unfold snV; obtain ⟨d0, e0, e1, e2, e3, e4, f0, f1, f2, f3, f4⟩ := HZ3.out.all5; clear y0 y1 y2 y3 y4 y5 yl)
    refine end_ret (v := .agg (snV x)) (by unfold snV; simp [results, Tryz.results21, go_sem, d0, e0, e1, e2, e3, e4, f0, f1, f2, f3, f4]; try rfl) ?_
    exact HR3.out _ _ _ _ _
  · -- List
    have HCALL := Lib.hid (HL.out rfl)
    clear HW HS HL HRM HRN HLK HMK HMD HNO
    go_enter Tryz.func21, Tryz.ntmps21
    go_upto_region 1 with fail
    rw [← hw1, ← hq4, ← hq3]
    clear hw1 hq4 hq3
    go_wp2_with (go_at_call 37; (with_reducible refine HCALL.out.mono ?_); intro e w3 hr3; obtain ⟨x, rfl, HZ3, HR3⟩ := HBOX.out g e w3 hr3; clear hr3; unfold snV; obtain ⟨d0, e0, e1, e2, e3, e4, f0, f1, f2, f3, f4⟩ := HZ3.out.all5; clear y0 y1 y2 y3 y4 y5 yl)
    refine end_ret (v := .agg (snV x)) (by unfold snV; simp [results, Tryz.results21, go_sem, d0, e0, e1, e2, e3, e4, f0, f1, f2, f3, f4]; try rfl) ?_
    exact HR3.out _ _ _ _ _
  · -- Remove
    have HGS := Lib.hid (HRM.out rfl).1
    have HCALL := Lib.hid (HRM.out rfl).2
    clear HW HS HL HRM HRN HLK HMK HMD HNO
    go_enter Tryz.func21, Tryz.ntmps21
    go_upto_region 1 with fail
    rw [← hw1, ← hq4, ← hq3]
    clear hw1 hq4 hq3
    go_wp2_with (go_at_call 38; (with_reducible refine HCALL.out.mono ?_); intro e w3 hr3; obtain ⟨x, rfl, HZ3, HR3⟩ := HBOXA.out _ _ e w3 (Nat.le_refl _) hr3; clear hr3; obtain ⟨d0, e0, e1, e2, e3, e4, f0, f1, f2, f3, f4⟩ := HZ3.out.all5; clear y0 y1 y2 y3 y4 y5 yl)
    refine end_ret (v := .agg (snV (svP (snE x)))) (by unfold snV svP snE; simp [results, Tryz.results21, go_sem, d0, e0, e1, e2, e3, e4, f0, f1, f2, f3, f4]; try rfl) ?_
    rw [HGS.out]
    exact HR3.out _ _ _ _ _
  · -- Rename
    have HGS := Lib.hid (HRN.out rfl).1
    have HCALL := Lib.hid (HRN.out rfl).2
    clear HW HS HL HRM HRN HLK HMK HMD HNO
    go_enter Tryz.func21, Tryz.ntmps21
    go_upto_region 1 with fail
    rw [← hw1, ← hq4, ← hq3]
    clear hw1 hq4 hq3
    go_wp2_with (go_at_call 39; (with_reducible refine HCALL.out.mono ?_); intro e w3 hr3; obtain ⟨x, rfl, HZ3, HR3⟩ := HBOXA.out _ _ e w3 (Nat.le_refl _) hr3; clear hr3; obtain ⟨d0, e0, e1, e2, e3, e4, f0, f1, f2, f3, f4⟩ := HZ3.out.all5; clear y0 y1 y2 y3 y4 y5 yl)
    refine end_ret (v := .agg (snV (svP (snE x)))) (by unfold snV svP snE; simp [results, Tryz.results21, go_sem, d0, e0, e1, e2, e3, e4, f0, f1, f2, f3, f4]; try rfl) ?_
    rw [HGS.out]
    exact HR3.out _ _ _ _ _
  · -- no such kind
    have HGS := Lib.hid (HNO.out hk)
    clear HW HS HL HRM HRN HLK HMK HMD HNO
    have k1 : (kd == 1) = false := by simp; omega
    have k2 : (kd == 2) = false := by simp; omega
    have k3 : (kd == 3) = false := by simp; omega
    have k4 : (kd == 4) = false := by simp; omega
    have k5 : (kd == 5) = false := by simp; omega
    have k6 : (kd == 6) = false := by simp; omega
    have k7 : (kd == 7) = false := by simp; omega
    have k8 : (kd == 8) = false := by simp; omega
    have k9 : (kd == 9) = false := by simp; omega
    have k10 : (kd == 10) = false := by simp; omega
    clear hk
    obtain ⟨d0, e0, e1, e2, e3, e4, f0, f1, f2, f3, f4⟩ := (show Bx 31 w1 q4 zeroS from HX4.out).all5
    go_enter Tryz.func21, Tryz.ntmps21
    go_upto_region 1 with fail
    rw [← hw1, ← hq4, ← hq3]
    clear hw1 hq4 hq3
    go_wp2_with fail
    refine end_ret (v := .agg (snV (svP (snE 3)))) (by unfold snV svP snE; simp [results, Tryz.results21, go_sem, d0, e0, e1, e2, e3, e4, f0, f1, f2, f3, f4]; try rfl) ?_
    exact RetDo.same H.out HGS.out rfl rfl (below_store5 HB1.out HQ4.out _ _ _ _ _)

end Go.Proofs.YthjpighlcalocaaGreatDoor
