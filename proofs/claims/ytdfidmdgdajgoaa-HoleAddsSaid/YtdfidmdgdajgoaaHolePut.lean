/-
  The document's answer to Add, its inner function: a place is put among the places, in their order.
-/
import Derived.Test.YtdfidmdgdajgoaaHeap
import Derived.OneCell
import Derived.Deep.RegionLaw
import Derived.RegionTactic
import Derived.Deep.DeepCutAuto
import Derived.Outline
import Derived.BigRegion
namespace Go.Proofs.Ytdfidmdgdajgoaa
open Go.RowKit
set_option linter.unusedVariables false
set_option linter.unusedSimpArgs false

/-- a place is put among places -/
def ins (n : Int) : List Int → List Int
  | [] => [n]
  | y :: t => if y < n then y :: ins n t else if y = n then y :: t else n :: y :: t

theorem ins_at : ∀ (k : Nat) (P : List Int) (n : Int), (∀ j y, j < k → P[j]? = some y → y < n) → k ≤ P.length →
    (k = P.length → ins n P = P.take k ++ n :: P.drop k) ∧ (∀ y, P[k]? = some y → n ≤ y → (y = n → ins n P = P) ∧ (y ≠ n → ins n P = P.take k ++ n :: P.drop k))
  | 0, P, n, h, hk => by
    refine ⟨fun h0 => ?_, fun y hy hn => ⟨fun e => ?_, fun e => ?_⟩⟩
    · rw [List.eq_nil_of_length_eq_zero h0.symm]; rfl
    · match P, hy with
      | z :: t, hy =>
        simp at hy; subst hy
        unfold ins
        rw [if_neg (by omega), if_pos e]
    · match P, hy with
      | z :: t, hy =>
        simp at hy; subst hy
        unfold ins
        rw [if_neg (by omega), if_neg e]
        rfl
  | k + 1, [], n, h, hk => by simp at hk
  | k + 1, z :: t, n, h, hk => by
    have hz : z < n := h 0 z (by omega) rfl
    obtain ⟨i1, i2⟩ := ins_at k t n (fun j y hj hy => h (j + 1) y (by omega) (by simpa using hy)) (by simpa using hk)
    have e : ins n (z :: t) = z :: ins n t := by rw [ins, if_pos hz]
    refine ⟨fun h0 => ?_, fun y hy hn => ⟨fun e2 => ?_, fun e2 => ?_⟩⟩
    · rw [e, i1 (by simpa using h0)]; rfl
    · rw [e, (i2 y (by simpa using hy) hn).1 e2]
    · rw [e, (i2 y (by simpa using hy) hn).2 e2]; rfl

theorem OwnI.cut {w : World} {base : Nat} {A : Option Addr} {n c : Nat} {zs : List Int} (h : OwnI w base A n c zs) (m : Nat) (hm : m ≤ n) : OwnI w base A m c (zs.take m) := by
  refine ⟨fun z hz => h.1 z (List.mem_of_mem_take hz), by rw [List.length_take, h.2.1]; omega, ?_⟩
  refine ⟨by rw [List.length_map, List.length_take, h.2.1]; omega, ?_⟩
  rcases h.2.2.2 with ⟨hv, hn⟩ | ⟨g, cap, cur, hv, hg, hh, hc, hcm, hcs, ht⟩
  · injection hv with hA _ hcc
    subst hA; subst hcc
    exact .inl ⟨by rw [show m = 0 by omega], by omega⟩
  · injection hv with hA _ hcc
    subst hA; subst hcc
    refine .inr ⟨g, _, cur, rfl, hg, hh, by omega, hcm, hcs, ?_⟩
    rw [List.map_take, ← ht, List.take_take, Nat.mul_one, Nat.mul_one, Nat.min_eq_left hm]
theorem OwnI.some_ {w : World} {base : Nat} {A : Option Addr} {n c : Nat} {zs : List Int} (h : OwnI w base A n c zs) : (A = none ∧ n = 0 ∧ c = 0) ∨ ∃ g, A = some ⟨g, 0, none⟩ ∧ base ≤ g ∧ g < w.heap.size ∧ n ≤ c := by
  rcases h.2.2.2 with ⟨hv, hn⟩ | ⟨g, cap, cur, hv, hg, hh, hc, hcm, hcs, ht⟩
  · injection hv with hA _ hcc
    exact .inl ⟨hA, hn, hcc⟩
  · have := h.2.2.lt g (by rw [hv]; rfl)
    injection hv with hA _ hcc
    exact .inr ⟨g, hA, hg, this.2, by omega⟩
theorem Is.drop {w : World} {g : Nat} {zs : List Int} (h : Is w (some ⟨g, 0, none⟩) zs) (k : Nat) : Is w (some ⟨g, k, none⟩) (zs.drop k) := by
  refine ⟨fun z hz => h.1 z (List.mem_of_mem_drop hz), ?_⟩
  rcases h.2 with h0 | ⟨b, o, e, hlt, hc⟩
  · have : zs = [] := by simpa using h0
    exact .inl (by rw [this]; simp)
  · injection e with e
    injection e with e1 e2
    subst e1; subst e2
    refine .inr ⟨g, k, rfl, hlt, fun j u hu => ?_⟩
    rw [List.map_drop, List.getElem?_drop] at hu
    have := hc (k + j) u hu
    rwa [Nat.zero_add] at this
theorem ownI_new (w : World) (base : Nat) (hb : base ≤ w.heap.size) (zs : List Int) (n : Nat) (cs : Array Value) (h0 : ∀ z ∈ zs, -9223372036854775808 ≤ z ∧ z ≤ 9223372036854775807) (hcs : cs = (zs.map (Value.int .i64)).toArray) (hn : zs.length = n) (hm : n ≤ 1000000) (b : Nat) (hbb : b = w.heap.size) :
    OwnI (w.alloc (.cells cs 3)) base (some ⟨b, 0, none⟩) n n zs := by
  subst hbb; subst hcs
  refine ⟨h0, hn, ?_⟩
  have := World.ownsRow_lit (base := base) (e := 3) (size := 1) w (zs.map (Value.int .i64)).toArray n hb (by simp only [maxLen]; omega) (by simp [hn])
  simpa using this

/-- the variable at block B holds the places P -/
def PlacesAt (w : World) (B base : Nat) (A : Option Addr) (n c : Nat) (P : List Int) : Prop := w.heap[B]? = some (.cells #[.slice A n c] 35 (0, 0)) ∧ OwnI w base A n c P
/-- what put leaves: the variable and its row alone have turned -/
structure Put (B : Nat) (v v' : Value) (w w' : World) : Prop where
  below : Below B w w'
  block : ∀ k, k < w.heap.size → k ≠ B → (∀ j, v.ownBlock = some j → k ≠ j) → w'.heap[k]? = w.heap[k]?
  own : ∀ k, v'.ownBlock = some k → v.ownBlock = some k ∨ w.heap.size ≤ k
def RetP (W : World) (B base : Nat) (v : Value) (P : List Int) (e : Ending) (w' : World) : Prop :=
  ∃ A n c, e = .returned (.tuple #[]) ∧ PlacesAt w' B base A n c P ∧ Put B v (.slice A n c) W w'

theorem OwnI.setLow {w : World} {base : Nat} {A : Option Addr} {n c : Nat} {zs : List Int} (h : OwnI w base A n c zs) (B : Nat) (hB : B < base) (u : Value) : OwnI (w.setCell ⟨B, 0, none⟩ u) base A n c zs :=
  ⟨h.1, h.2.1, ownsRow_setCell_below h.2.2 (a := ⟨B, 0, none⟩) hB u⟩

theorem ownI_drew {w : World} {base : Nat} {A : Option Addr} {n c : Nat} {zs : List Int} (h : OwnI w base A n c zs) : OwnI w.drew base A n c zs := ⟨h.1, h.2.1, h.2.2.drew⟩

set_option maxHeartbeats 1000000 in
theorem put_any (B base : Nat) (x : Int) (A : Option Addr) (n c : Nat) (P : List Int) (w : World) (hp : PlacesAt w B base A n c P) (hB : B < base) (hbase : base ≤ w.heap.size) (hx0 : -9223372036854775808 ≤ x) (hx1 : x ≤ 9223372036854775807) (hn : n ≤ 1000) :
    Calls Try.prog 26 #[.int .i64 x, .pointer (some ⟨B, 0, none⟩)] w (RetP w B base (.slice A n c) (ins x P)) := by
  have hlen : P.length = n := hp.2.2.1
  have hcell := cell_of_one hp.1
  have hfree := free_of_one hp.1
  have OP := Lib.hid hp.2; have HH := Lib.hid hp.1; have HL := Lib.hid hlen
  have hBl : B < w.heap.size := by omega
  clear hp hlen
  go_enter Try.func26, Try.ntmps26
  go_wp2
  go_loop [3] (fun i => ∃ k : Nat, k ≤ n ∧ i = .int .i64 k ∧ ∀ j y, j < k → P[j]? = some y → y < x) (fun i => n - (intOf i).toNat)
  case atStart => exact ⟨0, Nat.zero_le _, rfl, by intro j y hj; omega⟩
  case round =>
    obtain ⟨k, hk, rfl, hlow⟩ := hrel
    have LOW := Lib.hid hlow
    clear hlow
    have HI := Lib.hid (ins_at k P x LOW.out (by rw [HL.out]; exact hk))
    by_cases hlt : k < n
    · obtain ⟨y, hy⟩ : ∃ y, P[k]? = some y := ⟨P[k]'(by rw [HL.out]; exact hlt), List.getElem?_eq_getElem _⟩
      obtain ⟨b, o, rfl, hbs, hc1, y1, y2⟩ := OP.out.is.at k y hy
      have HY := Lib.hid hy
      clear hy
      have zk : ((k : Int) == (n : Int)) = false := by rw [beq_eq_false_iff_ne]; omega
      by_cases hyx : y < x
      · have hlow2 : ∀ j y, j < k + 1 → P[j]? = some y → y < x := by
          intro j z hj hz
          by_cases hjk : j = k
          · subst hjk; rw [HY.out] at hz; injection hz with hz; omega
          · exact LOW.out j z (by omega) hz
        have L2 := Lib.hid hlow2
        clear hlow2
        go_wp2
        go_round
        case rel => exact ⟨k + 1, by omega, by go_num, L2.out⟩
        case measure => simp [intOf]; omega
      · by_cases heq : y = x
        · have HF : Hid (ins x P = P) := Lib.hid ((HI.out.2 y HY.out (by omega)).1 heq)
          have z : (y == x) = true := by rw [beq_iff_eq]; exact heq
          have HE := Lib.hid heq
          clear heq
          go_wp2
          go_end0
          exact ⟨_, n, c, rfl, ⟨HH.out, by rw [HF.out]; exact OP.out⟩, ⟨Below.refl _ _, fun _ _ _ _ => rfl, fun _ h => .inl h⟩⟩
        · have HF : Hid (ins x P = P.take k ++ x :: P.drop k) := Lib.hid ((HI.out.2 y HY.out (by omega)).2 heq)
          have z : (y == x) = false := by rw [beq_eq_false_iff_ne]; exact heq
          obtain ⟨g, hg, hg1, hg2, hnc⟩ := OP.out.some_.resolve_left (by rintro ⟨h, _⟩; cases h)
          injection hg with hg
          injection hg with e1 e2
          subst e1; subst e2
          have HE := Lib.hid heq
          clear heq
          simp only [Nat.zero_add] at hc1
          have q1 : (k : Int) ≤ (c : Int) := by omega
          have hX : Hid (∀ z ∈ [x], -9223372036854775808 ≤ z ∧ z ≤ 9223372036854775807) := Lib.hid (by intro z hz; simp at hz; omega)
          have q2 : ¬ c = k := by omega
          have q3 : (k : Int) < (c : Int) := by omega
          have hal : Below w.heap.size w (w.alloc (.cells #[.int .i64 x] 3)).drew := (ba1 _ _).drew
          have HHa : Hid ((w.alloc (.cells #[.int .i64 x] 3)).drew.heap[B]? = some (.cells #[.slice (some ⟨b, 0, none⟩) n c] 35 (0, 0))) := Lib.hid ((hal.block B hBl).trans HH.out)
          have isP : Hid (Is (w.alloc (.cells #[.int .i64 x] 3)).drew (some ⟨b, k, none⟩) (P.drop k)) := Lib.hid ((OP.out.is.below hal).drop k)
          have HDL : Hid ((P.drop k).length = n - k) := Lib.hid (by rw [List.length_drop, HL.out])
          have OC : Hid (∀ {A' n' c' w'}, Beside (.slice (some ⟨w.heap.size, 0, none⟩) 1 1) (.slice A' n' c') (w.alloc (.cells #[.int .i64 x] 3)).drew w' → OwnI w' base (some ⟨b, 0, none⟩) k c (P.take k)) := Lib.hid fun hs => ((OP.out.below hal).cut k hk).beside hs (fun i j hi hj e => by injection hi with hi; injection hj with hj; simp only at hi hj; omega)
          clear hal
          go_upto_region 4 with (fail)
          go_region_law (first
            | (refine step_appI rfl ((w.alloc (.cells #[.int .i64 x] 3)).drew) (.tmp 34) (.tmp 37) rfl base (some ⟨w.heap.size, 0, none⟩) 1 1 [x] (by simp [Act.eval, Act.put]) (ownI_drew (ownI_new w _ hbase [x] 1 _ hX.out rfl rfl (by omega) _ rfl)) (some ⟨b, k, none⟩) (n - k) (c - k) (P.drop k) (by simp [Act.eval, Act.put]) isP.out HDL.out (1 + (n - k)) rfl (by omega) (by simp; omega) ?_; intro A4 c4 w4 ho4 hb4 hs4; have O4 := Lib.hid ho4; have HB4 := Lib.hid hb4; have HS4 := Lib.hid hs4; have hH4 := (hb4.block B hB).trans HHa.out; have hcB4 := cell_of_one hH4; clear ho4 hb4 hs4 hH4)
            | (refine step_appI rfl w4 (.tmp 32) (.tmp 38) rfl base (some ⟨b, 0, none⟩) k c (P.take k) (by simp [Act.eval, Act.put]) (OC.out HS4.out) A4 (1 + (n - k)) c4 ([x] ++ P.drop k) (by simp [Act.eval, Act.put]) O4.out.is O4.out.2.1 (n + 1) (by omega) (by omega) (by have := HB4.out.size; simp at this; omega) ?_; intro A5 c5 w5 ho5 hb5 hs5; have O5 := Lib.hid ho5; have HB5 := Lib.hid hb5; have HS5 := Lib.hid hs5; have hH5 := (hb5.block B hB).trans ((HB4.out.block B hB).trans HHa.out); have hcB := cell_of_one hH5; have hfB := free_of_one hH5; have HH5 := Lib.hid hH5; clear ho5 hb5 hs5 hH5))
          all_goals
            have hz4 := HB4.out.size
            simp at hz4
            go_wp2
            go_end0
            refine ⟨A5, n + 1, c5, rfl, ⟨one_setCell HH5.out, ?_⟩, ⟨?_, ?_, ?_⟩⟩
            · rw [HF.out]; exact O5.out.setLow B hB _
            · exact ((((ba1 w (.cells #[.int .i64 x] 3)).drew.mono (Nat.le_of_lt hBl)).trans (HB4.out.mono (Nat.le_of_lt hB))).trans (HB5.out.mono (Nat.le_of_lt hB))).setCell (Nat.le_refl _) _
            · intro j hj hjB hjo
              rw [Below.heap_setCell _ _ _ _ hjB, HS5.out.block j (by omega) (fun i hi => hjo i hi), HS4.out.block j (by simp; omega) (fun i hi => by injection hi with hi; simp only at hi; omega)]
              exact Below.heap_alloc w _ j hj
            · intro j hj
              rcases HS5.out.own j hj with g | g
              · exact .inl g
              · exact .inr (by omega)
    · obtain rfl : n = k := by omega
      have HF : Hid (ins x P = P.take n ++ x :: P.drop n) := Lib.hid (HI.out.1 HL.out.symm)
      have hX : Hid (∀ z ∈ [x], -9223372036854775808 ≤ z ∧ z ≤ 9223372036854775807) := Lib.hid (by intro z hz; simp at hz; omega)
      have hnil : Hid (P.drop n = []) := Lib.hid (List.drop_eq_nil_of_le (by rw [HL.out]; exact Nat.le_refl _))
      rcases OP.out.some_ with ⟨rfl, h0, h1⟩ | ⟨b, rfl, hg1, hg2, hnc⟩
      · have hPe : P = [] := List.eq_nil_of_length_eq_zero (by rw [HL.out]; exact h0)
        subst h0; subst h1
        have hal : Below w.heap.size w (w.alloc (.cells #[.int .i64 x] 3)).drew := (ba1 _ _).drew
        have HHa : Hid ((w.alloc (.cells #[.int .i64 x] 3)).drew.heap[B]? = some (.cells #[.slice none 0 0] 35 (0, 0))) := Lib.hid ((hal.block B hBl).trans HH.out)
        have HF2 : Hid (ins x P = [x]) := Lib.hid (by rw [hPe]; rfl)
        clear hal HF hnil HI LOW HL OP hPe
        go_upto_region 4 with (fail)
        go_region_law (first
          | (refine step_appI rfl ((w.alloc (.cells #[.int .i64 x] 3)).drew) (.tmp 34) (.tmp 37) rfl base (some ⟨w.heap.size, 0, none⟩) 1 1 [x] (by simp [Act.eval, Act.put]) (ownI_drew (ownI_new w _ hbase [x] 1 _ hX.out rfl rfl (by omega) _ rfl)) none 0 0 [] (by simp [Act.eval, Act.put]) (Is.nil _ _) rfl 1 rfl (by omega) (by simp; omega) ?_; intro A4 c4 w4 ho4 hb4 hs4; have O4 := Lib.hid ho4; have HB4 := Lib.hid hb4; have HS4 := Lib.hid hs4; have hH4 := (hb4.block B hB).trans HHa.out; have hcB4 := cell_of_one hH4; clear ho4 hb4 hs4 hH4)
          | (refine step_appI rfl w4 (.tmp 32) (.tmp 38) rfl base none 0 0 [] (by simp [Act.eval, Act.put]) (OwnI.nil _ _) A4 1 c4 ([x] ++ []) (by simp [Act.eval, Act.put]) O4.out.is O4.out.2.1 1 rfl (by omega) (by have := HB4.out.size; simp at this; omega) ?_; intro A5 c5 w5 ho5 hb5 hs5; have O5 := Lib.hid ho5; have HB5 := Lib.hid hb5; have HS5 := Lib.hid hs5; have hH5 := (hb5.block B hB).trans ((HB4.out.block B hB).trans HHa.out); have hcB := cell_of_one hH5; have hfB := free_of_one hH5; have HH5 := Lib.hid hH5; clear ho5 hb5 hs5 hH5))
        all_goals
          have hz4 := HB4.out.size
          simp at hz4
          go_wp2
          go_end0
          refine ⟨A5, 1, c5, rfl, ⟨one_setCell HH5.out, ?_⟩, ⟨?_, ?_, ?_⟩⟩
          · rw [HF2.out]; exact O5.out.setLow B hB _
          · exact ((((ba1 w (.cells #[.int .i64 x] 3)).drew.mono (Nat.le_of_lt hBl)).trans (HB4.out.mono (Nat.le_of_lt hB))).trans (HB5.out.mono (Nat.le_of_lt hB))).setCell (Nat.le_refl _) _
          · intro j hj hjB hjo
            rw [Below.heap_setCell _ _ _ _ hjB, HS5.out.block j (by omega) (fun i hi => by cases hi), HS4.out.block j (by simp; omega) (fun i hi => by injection hi with hi; simp only at hi; omega)]
            exact Below.heap_alloc w _ j hj
          · intro j hj
            rcases HS5.out.own j hj with g | g
            · exact .inl g
            · exact .inr (by omega)
      · by_cases hcn : c = n
        · have hcn2 := hcn.symm
          subst hcn2
          clear hcn
          have hal : Below w.heap.size w (w.alloc (.cells #[.int .i64 x] 3)).drew := (ba1 _ _).drew
          have HHa : Hid ((w.alloc (.cells #[.int .i64 x] 3)).drew.heap[B]? = some (.cells #[.slice (some ⟨b, 0, none⟩) n n] 35 (0, 0))) := Lib.hid ((hal.block B hBl).trans HH.out)
          have isP : Hid (Is (w.alloc (.cells #[.int .i64 x] 3)).drew (some ⟨b, 0, none⟩) (P.drop n)) := Lib.hid (by rw [hnil.out]; exact Is.nil _ _)
          have HDL : Hid ((P.drop n).length = 0) := Lib.hid (by rw [List.length_drop, HL.out]; omega)
          have OC : Hid (∀ {A' n' c' w'}, Beside (.slice (some ⟨w.heap.size, 0, none⟩) 1 1) (.slice A' n' c') (w.alloc (.cells #[.int .i64 x] 3)).drew w' → OwnI w' base (some ⟨b, 0, none⟩) n n (P.take n)) := Lib.hid fun hs => ((OP.out.below hal).cut n hk).beside hs (fun i j hi hj e => by injection hi with hi; injection hj with hj; simp only at hi hj; omega)
          clear hal
          go_upto_region 4 with (fail)
          go_region_law (first
            | (refine step_appI rfl ((w.alloc (.cells #[.int .i64 x] 3)).drew) (.tmp 34) (.tmp 37) rfl base (some ⟨w.heap.size, 0, none⟩) 1 1 [x] (by simp [Act.eval, Act.put]) (ownI_drew (ownI_new w _ hbase [x] 1 _ hX.out rfl rfl (by omega) _ rfl)) (some ⟨b, 0, none⟩) (0) (0) (P.drop n) (by simp [Act.eval, Act.put]) isP.out HDL.out (1 + (0)) rfl (by omega) (by simp; omega) ?_; intro A4 c4 w4 ho4 hb4 hs4; have O4 := Lib.hid ho4; have HB4 := Lib.hid hb4; have HS4 := Lib.hid hs4; have hH4 := (hb4.block B hB).trans HHa.out; have hcB4 := cell_of_one hH4; clear ho4 hb4 hs4 hH4)
            | (refine step_appI rfl w4 (.tmp 32) (.tmp 38) rfl base (some ⟨b, 0, none⟩) n n (P.take n) (by simp [Act.eval, Act.put]) (OC.out HS4.out) A4 (1 + (0)) c4 ([x] ++ P.drop n) (by simp [Act.eval, Act.put]) O4.out.is O4.out.2.1 (n + 1) (by omega) (by omega) (by have := HB4.out.size; simp at this; omega) ?_; intro A5 c5 w5 ho5 hb5 hs5; have O5 := Lib.hid ho5; have HB5 := Lib.hid hb5; have HS5 := Lib.hid hs5; have hH5 := (hb5.block B hB).trans ((HB4.out.block B hB).trans HHa.out); have hcB := cell_of_one hH5; have hfB := free_of_one hH5; have HH5 := Lib.hid hH5; clear ho5 hb5 hs5 hH5))
          all_goals
            have hz4 := HB4.out.size
            simp at hz4
            go_wp2
            go_end0
            refine ⟨A5, n + 1, c5, rfl, ⟨one_setCell HH5.out, ?_⟩, ⟨?_, ?_, ?_⟩⟩
            · rw [HF.out]; exact O5.out.setLow B hB _
            · exact ((((ba1 w (.cells #[.int .i64 x] 3)).drew.mono (Nat.le_of_lt hBl)).trans (HB4.out.mono (Nat.le_of_lt hB))).trans (HB5.out.mono (Nat.le_of_lt hB))).setCell (Nat.le_refl _) _
            · intro j hj hjB hjo
              rw [Below.heap_setCell _ _ _ _ hjB, HS5.out.block j (by omega) (fun i hi => hjo i hi), HS4.out.block j (by simp; omega) (fun i hi => by injection hi with hi; simp only at hi; omega)]
              exact Below.heap_alloc w _ j hj
            · intro j hj
              rcases HS5.out.own j hj with g | g
              · exact .inl g
              · exact .inr (by omega)

        · have q2 : ¬ c = n := hcn
          have q3 : (n : Int) < (c : Int) := by omega
          have hal : Below w.heap.size w (w.alloc (.cells #[.int .i64 x] 3)).drew := (ba1 _ _).drew
          have HHa : Hid ((w.alloc (.cells #[.int .i64 x] 3)).drew.heap[B]? = some (.cells #[.slice (some ⟨b, 0, none⟩) n c] 35 (0, 0))) := Lib.hid ((hal.block B hBl).trans HH.out)
          have isP : Hid (Is (w.alloc (.cells #[.int .i64 x] 3)).drew (some ⟨b, n, none⟩) (P.drop n)) := Lib.hid (by rw [hnil.out]; exact Is.nil _ _)
          have HDL : Hid ((P.drop n).length = n - n) := Lib.hid (by rw [List.length_drop, HL.out])
          have OC : Hid (∀ {A' n' c' w'}, Beside (.slice (some ⟨w.heap.size, 0, none⟩) 1 1) (.slice A' n' c') (w.alloc (.cells #[.int .i64 x] 3)).drew w' → OwnI w' base (some ⟨b, 0, none⟩) n c (P.take n)) := Lib.hid fun hs => ((OP.out.below hal).cut n hk).beside hs (fun i j hi hj e => by injection hi with hi; injection hj with hj; simp only at hi hj; omega)
          clear hal
          go_upto_region 4 with (fail)
          go_region_law (first
            | (refine step_appI rfl ((w.alloc (.cells #[.int .i64 x] 3)).drew) (.tmp 34) (.tmp 37) rfl base (some ⟨w.heap.size, 0, none⟩) 1 1 [x] (by simp [Act.eval, Act.put]) (ownI_drew (ownI_new w _ hbase [x] 1 _ hX.out rfl rfl (by omega) _ rfl)) (some ⟨b, n, none⟩) (n - n) (c - n) (P.drop n) (by simp [Act.eval, Act.put]) isP.out HDL.out (1 + (n - n)) rfl (by omega) (by simp; omega) ?_; intro A4 c4 w4 ho4 hb4 hs4; have O4 := Lib.hid ho4; have HB4 := Lib.hid hb4; have HS4 := Lib.hid hs4; have hH4 := (hb4.block B hB).trans HHa.out; have hcB4 := cell_of_one hH4; clear ho4 hb4 hs4 hH4)
            | (refine step_appI rfl w4 (.tmp 32) (.tmp 38) rfl base (some ⟨b, 0, none⟩) n c (P.take n) (by simp [Act.eval, Act.put]) (OC.out HS4.out) A4 (1 + (n - n)) c4 ([x] ++ P.drop n) (by simp [Act.eval, Act.put]) O4.out.is O4.out.2.1 (n + 1) (by omega) (by omega) (by have := HB4.out.size; simp at this; omega) ?_; intro A5 c5 w5 ho5 hb5 hs5; have O5 := Lib.hid ho5; have HB5 := Lib.hid hb5; have HS5 := Lib.hid hs5; have hH5 := (hb5.block B hB).trans ((HB4.out.block B hB).trans HHa.out); have hcB := cell_of_one hH5; have hfB := free_of_one hH5; have HH5 := Lib.hid hH5; clear ho5 hb5 hs5 hH5))
          all_goals
            have hz4 := HB4.out.size
            simp at hz4
            go_wp2
            go_end0
            refine ⟨A5, n + 1, c5, rfl, ⟨one_setCell HH5.out, ?_⟩, ⟨?_, ?_, ?_⟩⟩
            · rw [HF.out]; exact O5.out.setLow B hB _
            · exact ((((ba1 w (.cells #[.int .i64 x] 3)).drew.mono (Nat.le_of_lt hBl)).trans (HB4.out.mono (Nat.le_of_lt hB))).trans (HB5.out.mono (Nat.le_of_lt hB))).setCell (Nat.le_refl _) _
            · intro j hj hjB hjo
              rw [Below.heap_setCell _ _ _ _ hjB, HS5.out.block j (by omega) (fun i hi => hjo i hi), HS4.out.block j (by simp; omega) (fun i hi => by injection hi with hi; simp only at hi; omega)]
              exact Below.heap_alloc w _ j hj
            · intro j hj
              rcases HS5.out.own j hj with g | g
              · exact .inl g
              · exact .inr (by omega)

end Go.Proofs.Ytdfidmdgdajgoaa
