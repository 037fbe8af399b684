/-
  Contract of hole.Sacks.
-/
import Derived.Test.YtehckiihipnimaaSBack
import Derived.Test.YtehckiihipnimaaSInsert
import Derived.Test.YtehckiihipnimaaSHole
import Derived.Test.YtehckiihipnimaaSackMath
namespace Go.Proofs.Ytehckiihipnimaa
open Go.RowKit Go.Shelf
set_option linter.unusedVariables false
set_option linter.unusedSimpArgs false
attribute [local go_sem] Oper.semAt_some

/-- What is told: at most k of the ranges. -/
def RetSk (W : World) (L : List Rg) (e : Ending) (w' : World) : Prop :=
  ∃ A c, e = .returned (.tuple #[.slice A L.length c, .int .i64 0]) ∧ Rs w' A L ∧ (∀ a, A = some a → W.heap.size ≤ a.block ∧ a.block < w'.heap.size) ∧ Below W.heap.size W w'

theorem bthenS {w w1 w2 : World} (h : Below w.heap.size w w1) (k : Below w1.heap.size w1 w2) : Below w.heap.size w w2 := h.trans (k.mono h.size)
theorem OwnR.cap' {w : World} {base : Nat} {A : Option Addr} {n c : Nat} {l : List Rg} (h : OwnR w base A n c l) : n ≤ c := by
  rcases h.2.2 with ⟨hv, h0⟩ | ⟨g, cap, cur, hv, hg, hh, hc, hcm, hcs, ht⟩
  · omega
  · injection hv with hA _ hcc; omega

theorem beside_keeps {A B : World} {base : Nat} {Ad : Option Addr} {n c : Nat} {l : List Rg} {v' : Value} (h : OwnR A base Ad n c l) (hs : Beside (.slice Ad n c) v' A B) (hsz : A.heap.size ≤ B.heap.size) : KeepsOthers A B :=
  ⟨hsz, fun k o hk ho => (hs.block k (lt_of_block hk) (fun j hj e => by
    rcases h.2.2 with ⟨hv, _⟩ | ⟨g, cap, cur, hv, _, hh, _⟩
    · rw [hv] at hj; cases hj
    · rw [hv] at hj; injection hj with hj; simp only at hj; subst hj; subst e
      rw [hh] at hk; cases hk; cases ho)).trans hk⟩
theorem own_cells {A : World} {base : Nat} {v : Value} {n : Nat} {xs : List Value} {e : TypeId} {size : Nat} (h : A.ownsRow base e size v n xs) : ∀ (j : Nat) (o : Obj), v.ownBlock = some j → A.heap[j]? = some o → o.isCells = true := fun j o hj ho => by
  rcases h.2 with ⟨hv, _⟩ | ⟨g, cap, cur, hv, _, hh, _⟩
  · rw [hv] at hj; cases hj
  · rw [hv] at hj; injection hj with hj; simp only at hj; subst hj
    rw [hh] at ho; cases ho; rfl
theorem OwnR.setLow {w : World} {base : Nat} {A : Option Addr} {n c : Nat} {l : List Rg} (h : OwnR w base A n c l) (B : Nat) (hB : B < base) (u : Value) : OwnR (w.setCell ⟨B, 0, none⟩ u) base A n c l :=
  ⟨h.1, ownsRow_setCell_below h.2 (a := ⟨B, 0, none⟩) hB u⟩

def SackI (W0 : World) (S1 : Nat) (last : Int) (pre : List (Nat × Rg)) (W : World) : Prop :=
  ∃ Ao no co, Boxed W S1 37 (.slice Ao no co) ∧ OwnR W (S1 + 2) Ao no co ((pre.map (·.2)).foldl (sackStep last) []) ∧ Below S1 W0 W
def SackK (S1 : Nat) (A B : World) : Prop := Below S1 A B ∧ B.heap[S1 + 1]? = A.heap[S1 + 1]?
theorem sackK_keeping (S1 : Nat) : Keeping (SackK S1) S1 (S1 + 1) :=
  ⟨fun A => ⟨Below.refl _ _, rfl⟩, fun A B C h k => ⟨h.1.trans k.1, k.2.trans h.2⟩, fun A B h => h.1, fun A B h => World.cell?_of_block (a := ⟨S1 + 1, 0, none⟩) h.2⟩
theorem sackI_own (W0 : World) (S1 : Nat) (last : Int) (hS : S1 + 2 = W0.heap.size) : OwnFrom W0.heap.size (SackI W0 S1 last) := by
  rintro pre X Y row ⟨Ao, no, co, hb, ho, hbel⟩ hg hr
  refine ⟨Ao, no, co, hb.kept hg (fun e => ?_), ⟨ho.1, ho.2.kept hg ?_⟩, hbel.grown hg (by have := hbel.size; omega) (fun k e => by have := (hr k e).1; omega)⟩
  · obtain ⟨_, o, h1, h2⟩ := hr _ e.symm
    rw [show X.heap[S1]? = _ from hb] at h1; cases h1; cases h2
  · rcases ho.2.2 with ⟨hv, _⟩ | ⟨g, cap, cur, hv, hg', hh, _⟩
    · left; rw [hv]; rfl
    · right
      rw [hv]
      intro e
      obtain ⟨_, o, h1, h2⟩ := hr g e.symm
      rw [hh] at h1; cases h1; cases h2

set_option maxRecDepth 100000 in
set_option maxHeartbeats 4000000 in
theorem sacks_ok (d : Int) (A : Option Addr) (n c : Nat) (l : List Rg) (last : Int) (m : Nat) (w : World) (hb : Rs w A l) (hn : l.length = n) (hm : mayB d l = true) (hk : m ≤ 16) :
    Calls Try.prog 59 #[.int .i64 d, .slice A n c, .int .i64 last, .int .i64 (m : Int)] w (RetSk w ((sackAll last l).take m)) := by
  obtain ⟨g0, g1, g2, g3⟩ : 0 ≤ d ∧ d ≤ 1048576 ∧ l.length ≤ 16 ∧ okB d l = true := by simpa [mayB, Bool.and_eq_true, decide_eq_true_eq] using hm
  rw [hn] at g2
  have HB := Lib.hid hb; have HN := Lib.hid hn; have HM := Lib.hid hm
  clear hb hn hm g3
  refine (callsIn_wide (n := 8)).1 ?_
  refine callsIn_of_wp_marks Try.func59 rfl trivial ?_ rfl
  simp only [Try.ntmps59, List.size_toArray, List.length_cons, List.length_nil, Nat.reduceAdd, Nat.reduceSub, Array.replicate_succ, Array.replicate_zero, List.push_toArray, List.append_toArray, List.nil_append, List.cons_append]
  gi_wp2_with (first
    | (refine ⟨trivial, ?_⟩; gi_at_call 76; refine (callsIn_wide.2 (may_any d A n c l _ (HB.out.below (ba1 _ _)) HN.out (by omega))).mono ?_; rw [HM.out]; rintro e w1 ⟨rfl, hb1⟩)
    | (refine ⟨trivial, ?_⟩; gi_at_call 77; refine (bw_in Fence.wide _ trivial rfl _ _ _ _).mono ?_; rintro e w' ⟨rfl, rfl⟩)
    | (gi_at_call 76; refine (callsIn_wide.2 (may_any d A n c l _ (HB.out.below (ba1 _ _)) HN.out (by omega))).mono ?_; rw [HM.out]; rintro e w1 ⟨rfl, hb1⟩)
    | (gi_at_call 77; refine (bw_in Fence.wide _ trivial rfl _ _ _ _).mono ?_; rintro e w' ⟨rfl, rfl⟩))
  have hRS := (HB.out.below (ba1 w (.cells #[.int .i64 last] 3))).below hb1
  have hbL := (Boxed.new w 3 (.int .i64 last))
  obtain ⟨S1, hS1⟩ : ∃ S1, S1 = w1.heap.size := ⟨_, rfl⟩
  have hLt : w.heap.size < S1 := by rw [hS1]; have := hb1.size; simp at this; omega
  have hbL1 : Boxed w1 w.heap.size 3 (.int .i64 last) := (hb1.block w.heap.size (by simp)).trans hbL
  have bO := (Boxed.new w1 37 (.slice none 0 0)).alloc (.cells #[.slice A n c] 37)
  have bS := Boxed.new (w1.alloc (.cells #[.slice none 0 0] 37)) 37 (.slice A n c)
  have hB0 : Below w1.heap.size w1 ((w1.alloc (.cells #[.slice none 0 0] 37)).alloc (.cells #[.slice A n c] 37)) := ba2 _ _ _
  have hsz : ((w1.alloc (.cells #[.slice none 0 0] 37)).alloc (.cells #[.slice A n c] 37)).heap.size = w1.heap.size + 2 := by simp
  simp only [World.size_alloc] at bS
  obtain ⟨W0, hW0⟩ : ∃ W0, (w1.alloc (.cells #[.slice none 0 0] 37)).alloc (.cells #[.slice A n c] 37) = W0 := ⟨_, rfl⟩
  rw [hW0] at bO bS hB0 hsz ⊢
  rw [← hS1] at bO bS hB0 hsz ⊢
  have hA : ∀ k x, l[k]? = some x → ∃ b o, A = some ⟨b, o, none⟩ ∧ b < S1 ∧ W0.cell? ⟨b, o + k * 2, none⟩ = some (.int .i64 x.1) ∧ W0.cell? ⟨b, o + k * 2 + 1, none⟩ = some (.int .i64 x.2) := by
    intro k x hx
    obtain ⟨b, o, e, hlt, h1, h2⟩ := hRS.at k x hx
    exact ⟨b, o, e, by omega, (hB0.cell (p := ⟨b, o + k * 2, none⟩) (by simp only; omega)).trans h1, (hB0.cell (p := ⟨b, o + k * 2 + 1, none⟩) (by simp only; omega)).trans h2⟩
  have hbL0 : W0.cell? ⟨w.heap.size, 0, none⟩ = some (.int .i64 last) := (hB0.cell (p := ⟨w.heap.size, 0, none⟩) hLt).trans hbL1.cell
  have HS1 := Lib.hid hS1
  have hbS := bS.cell
  clear hW0 hS1 hRS hbL hbL1 bS
  refine wpIn_rangeFunc_ownH (F := Fence.wide) (n := 8) rfl (by omega) (gf := 90) (lb := #[.pointer (some ⟨S1 + 1, 0, none⟩)]) rfl trivial (enters_of Try.func90 (by kernel_rfl) rfl)
    (bw_stops Fence.wide 7 trivial rfl (by omega) (S1 + 1) S1 n c A l HN.out (by omega) (SackK S1) (sackK_keeping S1) W0 (by omega) (by omega) hbS hA)
    (fun h k => (sackK_keeping S1).trans _ _ _ h k)
    (fun W l o o' hl h ho hw => ⟨belowK_b (w := W0) (by omega) W l o o' hl h ho hw, (grownBy_putObj' W l o').block (S1 + 1) (by have := (Array.getElem?_eq_some_iff.1 h).1; omega) (fun e => by cases e; omega)⟩)
    (Below.refl _ _) (fun _ => rfl)
    (SackI W0 S1 last) (fun _ _ _ => False) (sackI_own W0 S1 last (by omega)) (fun _ _ _ _ _ hs _ _ => hs)
    ⟨none, 0, 0, bO, OwnR.nil _ _, Below.refl _ _⟩
    (fun x a' W => ∃ Bx, S1 + 1 < Bx ∧ W.heap[Bx]? = some (.cells #[.int .i64 x.2.1, .int .i64 x.2.2] 44 (0, 0)) ∧ a' = { tmps := #[.int .i64 d, .slice A n c, .int .i64 last, .int .i64 (m : Int), undef, undef, .pointer (some ⟨w.heap.size, 0, none⟩), undef, .slice none 0 0, .int .i64 0, .pointer (some ⟨S1, 0, none⟩), undef, .pointer (some ⟨Bx, 0, none⟩), .int .i64 d, .slice A n c, .bool true, .bool false, .int .i64 (m : Int), .bool (decide ((m : Int) < 0)), .bool (decide ((m : Int) < 0)), .int .i64 (m : Int), .bool (decide ((16 : Int) < (m : Int))), .bool (decide ((m : Int) < 0) || decide ((16 : Int) < (m : Int))), .slice A n c, .func (.func 90) #[] #[.pointer (some ⟨S1 + 1, 0, none⟩)], .int .i64 (x.1 : Int), .agg #[.int .i64 x.2.1, .int .i64 x.2.2], undef, undef, undef, undef, undef, undef, undef, undef, undef, undef, undef, undef, undef, undef, undef, undef, undef, undef, undef, undef, undef, undef, undef, undef], defers := [] })
    (fun x a' _ X Y row hs hg hr => by
      obtain ⟨Bx, h1, h2, h3⟩ := hs
      refine ⟨Bx, h1, (hg.block Bx (lt_of_block h2) (fun e => ?_)).trans h2, h3⟩
      obtain ⟨_, o, k1, k2⟩ := hr Bx e.symm
      rw [h2] at k1; cases k1; cases k2)
    ?assign ?body ?done ?stop
  case assign =>
    rintro lp pre ⟨ix, x1, x2⟩ W K ⟨Ao, no, co, hb, ho, hbel⟩ hK
    dsimp only [encB] at hK ⊢
    gi_wp2
    have hWs := hbel.size
    exact hK _ _ ((KeepsOthers.alloc _ _).from _) ⟨(Below.refl _ W).alloc (by omega) _, Below.heap_alloc _ _ _ (by omega)⟩ ⟨Ao, no, co, hb.alloc _, ho.below (ba1 _ _), hbel.alloc (by omega) _⟩ ⟨W.heap.size, by omega, heap_alloc_new W _, rfl⟩
  case body =>
    rintro lp pre ⟨ix, x1, x2⟩ a' W hl hrec ⟨Ao, no, co, hb, ho, hbel⟩ ⟨Bx, hBx, hX, rfl⟩ hlt
    have hWs := hbel.size
    have hno : no ≤ 16 := by
      have h1 := ho.1
      rw [sack_fold] at h1
      have h2 := filter_two (hitB last) (pre.map (·.2))
      simp at h1 h2
      omega
    have hcO := hb.cell; have hfO := hb.frozen
    have hcL := (hbel.cell (p := ⟨w.heap.size, 0, none⟩) hLt).trans hbL0
    have hc0 : W.cell? ⟨Bx, 0, none⟩ = some (.int .i64 x1) := by simp [World.cell?, hX]
    have hc1 : W.cell? ⟨Bx, 1, none⟩ = some (.int .i64 x2) := by simp [World.cell?, hX]
    have l1 : Bx < W.heap.size := lt_of_block hX
    have l2 : S1 < W.heap.size := hb.lt
    have l3 : w.heap.size < W.heap.size := by omega
    have HBX := Lib.hid hb; have HO := Lib.hid ho; have HX := Lib.hid hX; have HBL := Lib.hid hbel
    clear hb ho hX hrec hbL0 hA hbS bO
    by_cases hin : x1 ≤ last ∧ last < x2
    · have hst : Hid (((pre ++ [(ix, x1, x2)]).map (·.2)).foldl (sackStep last) [] = (x1, x2) :: (pre.map (·.2)).foldl (sackStep last) []) := Lib.hid (by
        rw [List.map_append, List.foldl_append]; simp [sackStep, hitB, hin.1, hin.2])
      obtain ⟨i1, i2⟩ := hin
      gi_wp2_with (first
        | (refine ⟨trivial, ?_⟩; gi_at_call 78; refine (CallsIn.inRound lp (callsIn_wide.2 (insert_any (S1 + 2) Ao no co x1 x2 ((pre.map (·.2)).foldl (sackStep last) []) W.heap.size _ (HO.out.below (ba1 W (.cells #[.int .i64 x1, .int .i64 x2] 44))) (by simp; omega) (heap_alloc_new W _) (fun k hk => by have := (HO.out.lt k hk).2; omega) (by omega)))).mono ?_; rintro e W2 ⟨A2, c2, rfl, ho2, hb2, hs2⟩; have hH2 := (hb2.block S1 (by omega)).trans (HBX.out.alloc (.cells #[.int .i64 x1, .int .i64 x2] 44)); have hcO2 := cell_of_one hH2; have hfO2 := free_of_one hH2)
        | (gi_at_call 78; refine (CallsIn.inRound lp (callsIn_wide.2 (insert_any (S1 + 2) Ao no co x1 x2 ((pre.map (·.2)).foldl (sackStep last) []) W.heap.size _ (HO.out.below (ba1 W (.cells #[.int .i64 x1, .int .i64 x2] 44))) (by simp; omega) (heap_alloc_new W _) (fun k hk => by have := (HO.out.lt k hk).2; omega) (by omega)))).mono ?_; rintro e W2 ⟨A2, c2, rfl, ho2, hb2, hs2⟩; have hH2 := (hb2.block S1 (by omega)).trans (HBX.out.alloc (.cells #[.int .i64 x1, .int .i64 x2] 44)); have hcO2 := cell_of_one hH2; have hfO2 := free_of_one hH2))
      have hz2 := hb2.size
      simp at hz2
      refine ⟨(((KeepsOthers.alloc W _).trans (beside_keeps (HO.out.below (ba1 W (.cells #[.int .i64 x1, .int .i64 x2] 44))) hs2 (by simp; omega))).trans (KeepsOthers.setCell _ _ _)).from _,
        ⟨(((Below.refl S1 W).alloc (by omega) _).trans (hb2.mono (by omega))).setCell (Nat.le_refl _) _, ?_⟩, ⟨A2, no + 1, c2, one_setCell hH2, by rw [hst.out]; exact ho2.setLow S1 (by omega) _, ((HBL.out.alloc (by omega) _).trans (hb2.mono (by omega))).setCell (Nat.le_refl _) _⟩⟩
      rw [Below.heap_setCell _ _ _ _ (by simp), hb2.block (S1 + 1) (by omega)]
      exact Below.heap_alloc _ _ _ (by omega)
    · have hst : Hid (((pre ++ [(ix, x1, x2)]).map (·.2)).foldl (sackStep last) [] = (pre.map (·.2)).foldl (sackStep last) [] ++ [(x1, x2)]) := Lib.hid (by
        rw [List.map_append, List.foldl_append]
        have : hitB last (x1, x2) = false := by simp [hitB]; omega
        simp [sackStep, this])
      obtain ⟨i0, hi0, hz0, hzs, hzb⟩ := info_parts rgInfo
      have hcx : ∀ j u, [Value.int .i64 x1, Value.int .i64 x2][j]? = some u → (W.alloc (.cells #[.int .i64 x1, .int .i64 x2] 44)).cell? ((⟨W.heap.size, 0, none⟩ : Addr).add j) = some u := fun j u hu => by
        have hv' : (W.alloc (.cells #[.int .i64 x1, .int .i64 x2] 44)).heap[W.heap.size]? = some (.cells [Value.int .i64 x1, Value.int .i64 x2].toArray 44 (0, 0)) := heap_alloc_new W _
        rw [cells_at hv' 0 j, Nat.zero_add]; exact hu
      have HCX := Lib.hid hcx
      clear hcx
      have parts : last < x1 ∨ (x1 ≤ last ∧ x2 ≤ last) := by omega
      rcases parts with i1 | ⟨i1, i2⟩
      all_goals
        gi_wp2_with (gi_at_builtin; refine wpListIn_append_own _ rfl (.tmp 41) (.tmp 43) 37 rfl (S1 + 2) 44 i0 _ 2 16 Try.underlying37 hi0 hz0 hzs hzb rfl (by decide) (.slice Ao no co) no (rcells ((pre.map (·.2)).foldl (sackStep last) [])) rfl (HO.out.below (ba1 W (.cells #[.int .i64 x1, .int .i64 x2] 44))).2 ⟨W.heap.size, 0, none⟩ 1 1 [.int .i64 x1, .int .i64 x2] rfl rfl HCX.out (by intro u hu; simp at hu; rcases hu with rfl | rfl <;> rfl) (by simp only [maxLen]; omega) (by omega) (by simp; omega) ?_; intro v2 W2 ho2 hg2 _; obtain ⟨g2, c2, rfl⟩ := ownsRow_succ ho2; have hH2 := (hg2.block S1 (by simp; omega) (fun e => by have := (HO.out.lt S1 e.symm).1; omega)).trans (HBX.out.alloc (.cells #[.int .i64 x1, .int .i64 x2] 44)); have hcO2 := cell_of_one hH2; have hfO2 := free_of_one hH2)
        have hB2 : Below S1 (W.alloc (.cells #[.int .i64 x1, .int .i64 x2] 44)) W2 := (Below.refl _ _).grown hg2 (by simp; omega) (fun k e => by have := (HO.out.lt k e).1; omega)
        have hz2 := hB2.size
        simp at hz2
        refine ⟨(((KeepsOthers.alloc W _).trans (KeepsOthers.of_grownBy hg2 (own_cells (HO.out.below (ba1 W (.cells #[.int .i64 x1, .int .i64 x2] 44))).2))).trans (KeepsOthers.setCell _ _ _)).from _,
          ⟨(((Below.refl S1 W).alloc (by omega) _).trans hB2).setCell (Nat.le_refl _) _, ?_⟩, ⟨some ⟨g2, 0, none⟩, no + 1, c2, one_setCell hH2, ?_, ((HBL.out.alloc (by omega) _).trans hB2).setCell (Nat.le_refl _) _⟩⟩
        · rw [Below.heap_setCell _ _ _ _ (by simp), hg2.block (S1 + 1) (by simp; omega) (fun e => by have := (HO.out.lt (S1 + 1) e.symm).1; omega)]
          exact Below.heap_alloc _ _ _ (by omega)
        · rw [hst.out]
          refine OwnR.setLow ⟨by rw [List.length_append, HO.out.1]; rfl, ?_⟩ S1 (by omega) _
          rw [rcells_app]; exact ho2
  case done =>
    rintro D xs W hD rfl ⟨Ao, no, co, hb, ho, hbel⟩ hKd
    have hup := upto_rev l
    rw [HN.out] at hup
    rw [hup] at ho
    change OwnR W (S1 + 2) Ao no co (sackAll last l) at ho
    have hnn : no = n := by rw [← ho.1, sackAll_len, HN.out]
    have hcap := ho.cap'
    have hcO := hb.cell
    have HO := Lib.hid ho; have HBL := Lib.hid hbel; have HKd := Lib.hid hKd; have HNN := Lib.hid hnn
    have hB1 : Below w.heap.size w w1 := bthenS (ba1 w (.cells #[.int .i64 last] 3)) hb1
    have hBW : Below w.heap.size w W := ((hB1.trans (hB0.mono (by have := HS1.out; omega))).trans (hbel.mono (by omega)))
    have hBD : Below S1 W (W.putObj D (.deferred none)) := belowK_b (w := W0) (by omega) W D _ _ hD hKd rfl rfl
    have hRW : Rs (W.putObj D (.deferred none)) Ao (sackAll last l) := by
      have hk := ho.2.kept (grownBy_putObj' W D (.deferred none)) (by
        rcases ho.2.2 with ⟨hv, _⟩ | ⟨g, cap, cur, hv, hg', hh, _⟩
        · left; rw [hv]; rfl
        · right
          rw [hv]
          intro e
          injection e with e
          simp only at e
          subst e
          rw [hh] at hKd; cases hKd)
      exact own_cs hk
    have HBW := Lib.hid hBW; have HBD := Lib.hid hBD; have HRW := Lib.hid hRW
    have HCL : Hid (∀ a, Ao = some a → w.heap.size ≤ a.block ∧ a.block < (W.putObj D (.deferred none)).heap.size) := Lib.hid (fun a ha => by have h1 := ho.lt a.block (by rw [ha]; rfl); have h2 := hBD.size; omega)
    clear hb ho hbel hup hKd hBW hBD hRW hB1 hb1 hB0 hnn
    by_cases hmn : m < no
    · have hl2 : Hid (((sackAll last l).take m).length = m) := Lib.hid (by rw [List.length_take, sackAll_len, HN.out, ← HNN.out]; omega)
      have z1 : (m : Int) < (no : Int) := by omega
      have z2 : (m : Int) ≤ (co : Int) := by omega
      have z3 : m ≤ no := by omega
      gi_wp2
      refine ⟨by simp, .inl ⟨_, _, rfl, run_takeDeferred HKd.out, ?_⟩⟩
      exact ⟨_, results_tmp2 rfl _ _ _, Ao, co, by rw [hl2.out]; simp, HRW.out.take m, HCL.out, HBW.out.trans (HBD.out.mono (by omega))⟩
    · have hl2 : Hid ((sackAll last l).take m = sackAll last l) := Lib.hid (List.take_of_length_le (by rw [sackAll_len, HN.out, ← HNN.out]; omega))
      have hl3 : Hid ((sackAll last l).length = no) := Lib.hid (by rw [sackAll_len, HN.out, HNN.out])
      have z1 : ¬ (m : Int) < (no : Int) := by omega
      have z2 : ¬ m < no := by omega
      have z3 : no ≤ m := by omega
      gi_wp2
      all_goals
        refine ⟨by simp, .inl ⟨_, _, rfl, run_takeDeferred HKd.out, ?_⟩⟩
        exact ⟨_, results_tmp2 rfl _ _ _, Ao, co, by rw [hl2.out, hl3.out]; simp; try omega, by rw [hl2.out]; exact HRW.out, HCL.out, HBW.out.trans (HBD.out.mono (by omega))⟩
  case stop =>
    rintro D c pre W _ _ h _
    exact h.elim

end Go.Proofs.Ytehckiihipnimaa
