/-
  Requests and their bytes: what is laid is taken, what is taken was laid. Mathematics alone.
-/
import Derived.Test.YtelfnlocgknpjaaMAsked
namespace Go.Proofs.Ytelfnlocgknpjaa
open Go.RowKit
set_option linter.unusedVariables false
set_option linter.unusedSimpArgs false

theorem be_succ (k : Nat) (v : Int) : be (k + 1) v = be k (v / 256) ++ [v % 256] := by
  unfold be
  rw [List.range_succ, List.map_append]
  congr 1
  · refine List.map_congr_left fun j hj => ?_
    have hj' := List.mem_range.1 hj
    rw [show k + 1 - 1 - j = (k - 1 - j) + 1 by omega, Int.pow_succ, Int.mul_comm, Int.ediv_ediv_of_nonneg (by omega)]
  · simp
theorem be_zero (v : Int) : be 0 v = [] := rfl
theorem val_be : ∀ (k : Nat) (v : Int), 0 ≤ v → v < 256 ^ k → val (be k v) = v
  | 0, v, h0, h1 => by
    have : v = 0 := by simp at h1; omega
    subst this; rfl
  | k + 1, v, h0, h1 => by
    rw [be_succ, val_snoc, val_be k (v / 256) (by omega) (by rw [Int.pow_succ] at h1; omega)]
    omega
theorem be_val : ∀ (k : Nat) (l : List Int), l.length = k → Oct l → be k (val l) = l
  | 0, l, h, _ => by rw [List.eq_nil_of_length_eq_zero h]; rfl
  | k + 1, l, h, ho => by
    have hne : l ≠ [] := fun e => by rw [e] at h; cases h
    have e := List.dropLast_concat_getLast hne
    have ih := be_val k l.dropLast (by rw [List.length_dropLast, h]; rfl) fun z hz => ho z (List.dropLast_subset _ hz)
    have hx := ho (l.getLast hne) (List.getLast_mem hne)
    rw [← e, val_snoc, be_succ, show (val l.dropLast * 256 + l.getLast hne) / 256 = val l.dropLast by omega, show (val l.dropLast * 256 + l.getLast hne) % 256 = l.getLast hne by omega, ih]
theorem be_oct : ∀ (k : Nat) (v : Int), Oct (be k v) := fun k v z hz => by
  unfold be at hz
  obtain ⟨j, -, rfl⟩ := List.mem_map.1 hz
  omega
/-- a value that fits its part -/
def Fits : Pt → PC → Prop
  | .num _ k, .n v => 0 ≤ v ∧ v < 256 ^ k
  | .txt _, .t s => s.length < 65536
  | .dat _, .d zs => zs.length < 65536
  | _, _ => False
theorem splT_enc (l r : List Int) (h : l.length < 65536) : splT (enc l ++ r) = some (l, r) := by
  have e2 : (be 2 (l.length : Int)).length = 2 := be_len _ _
  have ht : (enc l ++ r).take 2 = be 2 (l.length : Int) := by
    unfold enc
    rw [List.append_assoc, List.take_append_of_le_length (by omega), List.take_of_length_le (by omega)]
  have hd : (enc l ++ r).drop 2 = l ++ r := by
    unfold enc
    rw [List.append_assoc, List.drop_append_of_le_length (by omega), List.drop_of_length_le (by omega)]; rfl
  have hv : (val (be 2 (l.length : Int))).toNat = l.length := by rw [val_be 2 _ (by omega) (by omega)]; omega
  unfold splT
  rw [ht, hd, hv, if_neg (by unfold enc; simp only [List.length_append, be_len]; omega), if_neg (by unfold enc; simp only [List.length_append, be_len]; omega)]
  simp
theorem splT_cut (l : List Int) (h : l.length < 65536) (j : Nat) (hj : j < (enc l).length) : splT ((enc l).take j) = none := by
  have hl : (enc l).length = l.length + 2 := by unfold enc; simp only [List.length_append, be_len]; omega
  unfold splT
  by_cases h2 : j < 2
  · rw [if_pos (by rw [List.length_take]; omega)]
  · have ht : ((enc l).take j).take 2 = be 2 (l.length : Int) := by
      rw [List.take_take, Nat.min_eq_left (by omega)]
      unfold enc
      rw [List.take_append_of_le_length (by rw [be_len]; exact Nat.le_refl _), List.take_of_length_le (by rw [be_len]; exact Nat.le_refl _)]
    have hv : (val (be 2 (l.length : Int))).toNat = l.length := by rw [val_be 2 _ (by omega) (by omega)]; omega
    rw [ht, hv, if_neg (by rw [List.length_take]; omega), if_pos (by rw [List.length_take]; omega)]
theorem splT_lay {zs xs ys : List Int} (ho : Oct zs) (h : splT zs = some (xs, ys)) : enc xs ++ ys = zs ∧ xs.length < 65536 := by
  unfold splT at h
  split at h
  · cases h
  · rename_i h2
    split at h
    · cases h
    · rename_i h3
      injection h with h
      injection h with h4 h5
      have hb := val_bound 2 (zs.take 2) (by rw [List.length_take]; omega) (fun z hz => ho z (List.mem_of_mem_take hz))
      have hl : xs.length = (val (zs.take 2)).toNat := by rw [← h4, List.length_take, List.length_drop]; omega
      refine ⟨?_, by omega⟩
      unfold enc
      rw [hl, Int.toNat_of_nonneg hb.1, be_val 2 _ (by rw [List.length_take]; omega) (fun z hz => ho z (List.mem_of_mem_take hz)), ← h4, ← h5, List.append_assoc, List.take_append_drop, List.take_append_drop]
theorem toT_ofT (s : Byt) : toT (ofT s) = s := by
  unfold toT ofT
  rw [List.map_map]
  conv => rhs; rw [← List.map_id s]
  exact List.map_congr_left fun x _ => by simp
theorem ofT_toT (xs : List Int) (h : Oct xs) : ofT (toT xs) = xs := by
  unfold toT ofT
  rw [List.map_map]
  conv => rhs; rw [← List.map_id xs]
  refine List.map_congr_left fun x hx => ?_
  have := h x hx
  simp
  omega
theorem toT_len (xs : List Int) : (toT xs).length = xs.length := by unfold toT; simp
theorem tk_lay {p : Pt} {v : PC} (h : Fits p v) (r : List Int) : p.tk (layC p v ++ r) = some (v, r) := by
  rcases p with ⟨a, k⟩ | a | a <;> rcases v with v | s | zs <;> try exact h.elim
  · have h' : 0 ≤ v ∧ v < 256 ^ k := h
    show (if (be k v ++ r).length < k then none else some (PC.n (val ((be k v ++ r).take k)), (be k v ++ r).drop k)) = _
    rw [if_neg (by rw [List.length_append, be_len]; omega), List.take_append_of_le_length (by rw [be_len]; exact Nat.le_refl _), List.take_of_length_le (by rw [be_len]; exact Nat.le_refl _), val_be k v h'.1 h'.2, List.drop_append_of_le_length (by rw [be_len]; exact Nat.le_refl _), List.drop_of_length_le (by rw [be_len]; exact Nat.le_refl _)]
    rfl
  · have h' : s.length < 65536 := h
    show (splT (enc (ofT s) ++ r)).map _ = _
    rw [splT_enc _ _ (by rw [ofT_len]; exact h')]
    show some (PC.t (toT (ofT s)), r) = _
    rw [toT_ofT]
  · have h' : zs.length < 65536 := h
    show (splT (enc zs ++ r)).map _ = _
    rw [splT_enc _ _ h']
    rfl
theorem tk_cut {p : Pt} {v : PC} (h : Fits p v) (j : Nat) (hj : j < (layC p v).length) : p.tk ((layC p v).take j) = none := by
  rcases p with ⟨a, k⟩ | a | a <;> rcases v with v | s | zs <;> try exact h.elim
  · have hj' : j < (be k v).length := hj
    show (if ((be k v).take j).length < k then none else _) = _
    rw [be_len] at hj'
    rw [if_pos (by rw [List.length_take, be_len]; omega)]
  · have h' : s.length < 65536 := h
    show (splT ((enc (ofT s)).take j)).map _ = _
    rw [splT_cut _ (by rw [ofT_len]; exact h') j hj]; rfl
  · have h' : zs.length < 65536 := h
    show (splT ((enc zs).take j)).map _ = _
    rw [splT_cut _ h' j hj]; rfl
theorem lay_tk {p : Pt} {v : PC} {zs ys : List Int} (ho : Oct zs) (h : p.tk zs = some (v, ys)) : layC p v ++ ys = zs ∧ Fits p v := by
  rcases p with ⟨a, k⟩ | a | a
  · simp only [Pt.tk] at h
    split at h
    · cases h
    · rename_i hk
      injection h with h
      injection h with h1 h2
      subst h1
      have ho' : Oct (zs.take k) := fun z hz => ho z (List.mem_of_mem_take hz)
      have hl : (zs.take k).length = k := by rw [List.length_take]; omega
      refine ⟨?_, val_bound k _ hl ho'⟩
      show be k (val (zs.take k)) ++ ys = zs
      rw [be_val k _ hl ho', ← h2, List.take_append_drop]
  · simp only [Pt.tk] at h
    rcases hs : splT zs with _ | ⟨x, y⟩
    · rw [hs] at h; cases h
    · rw [hs] at h
      injection h with h
      injection h with h1 h2
      subst h1
      obtain ⟨g1, g2⟩ := splT_lay ho hs
      have hox : Oct x := fun z hz => ho z (by rw [← g1]; unfold enc; simp [hz])
      have h2' : y = ys := h2
      refine ⟨?_, by show (toT x).length < 65536; rw [toT_len]; exact g2⟩
      show enc (ofT (toT x)) ++ ys = zs
      rw [ofT_toT x hox, ← h2']; exact g1
  · simp only [Pt.tk] at h
    rcases hs : splT zs with _ | ⟨x, y⟩
    · rw [hs] at h; cases h
    · rw [hs] at h
      injection h with h
      injection h with h1 h2
      subst h1
      obtain ⟨g1, g2⟩ := splT_lay ho hs
      have h2' : y = ys := h2
      exact ⟨by show enc x ++ ys = zs; rw [← h2']; exact g1, g2⟩
def layL (ps : List Pt) (vs : List PC) : List Int := (List.zipWith layC ps vs).flatten
def FitsL : List Pt → List PC → Prop
  | [], [] => True
  | p :: ps, v :: vs => Fits p v ∧ FitsL ps vs
  | _, _ => False
theorem layL_cons (p : Pt) (ps : List Pt) (v : PC) (vs : List PC) : layL (p :: ps) (v :: vs) = layC p v ++ layL ps vs := by unfold layL; simp
theorem takeT_lay : ∀ (ps : List Pt) (vs : List PC) (r : List Int), FitsL ps vs → takeT ps (layL ps vs ++ r) = some (vs, r)
  | [], [], r, _ => rfl
  | p :: ps, v :: vs, r, h => by
    rw [layL_cons, List.append_assoc, takeT, tk_lay h.1]
    simp only []
    rw [takeT_lay ps vs r h.2]
  | [], v :: vs, r, h => h.elim
  | p :: ps, [], r, h => h.elim
theorem takeT_cut : ∀ (ps : List Pt) (vs : List PC) (j : Nat), FitsL ps vs → j < (layL ps vs).length → takeT ps ((layL ps vs).take j) = none
  | [], [], j, _, hj => by simp [layL] at hj
  | p :: ps, v :: vs, j, h, hj => by
    rw [layL_cons] at hj ⊢
    rw [List.length_append] at hj
    by_cases hc : j < (layC p v).length
    · rw [List.take_append_of_le_length (by omega), takeT, tk_cut h.1 j hc]
    · have e : (layC p v ++ layL ps vs).take j = layC p v ++ (layL ps vs).take (j - (layC p v).length) := by
        rw [List.take_append, List.take_of_length_le (by omega)]
      rw [e, takeT, tk_lay h.1]
      simp only []
      rw [takeT_cut ps vs _ h.2 (by omega)]
  | [], v :: vs, j, h, _ => h.elim
  | p :: ps, [], j, h, _ => h.elim
theorem lay_takeT : ∀ (ps : List Pt) (zs : List Int) (vs : List PC) (ys : List Int), Oct zs → takeT ps zs = some (vs, ys) → layL ps vs ++ ys = zs ∧ FitsL ps vs
  | [], zs, vs, ys, _, h => by
    injection h with h
    injection h with h1 h2
    subst h1; subst h2
    exact ⟨rfl, trivial⟩
  | p :: ps, zs, vs, ys, ho, h => by
    rw [takeT] at h
    rcases ht : p.tk zs with _ | ⟨v, y⟩
    · rw [ht] at h; cases h
    · rw [ht] at h
      simp only [] at h
      rcases hr : takeT ps y with _ | ⟨us, z⟩
      · rw [hr] at h; cases h
      · rw [hr] at h
        injection h with h
        injection h with h1 h2
        obtain ⟨g1, g2⟩ := lay_tk ho ht
        obtain ⟨g3, g4⟩ := lay_takeT ps y us z (fun x hx => ho x (by rw [← g1]; simp [hx])) hr
        subst h1
        refine ⟨?_, g2, g4⟩
        rw [layL_cons, List.append_assoc, ← h2, g3, g1]
/-- the places' kinds -/
structure PTyped (g : Nat → PC) : Prop where
  num : ∀ o, (o = 0 ∨ o = 1 ∨ o = 4 ∨ o = 5 ∨ o = 6 ∨ o = 7) → ∃ v, g o = .n v
  txt : ∀ o, (o = 2 ∨ o = 3) → ∃ s, g o = .t s
  dat : ∃ zs, g 8 = .d zs
theorem Typed.pure {f : Nat → PV} (h : Typed f) {g : Nat → PC} (hg : ∀ o, (f o).pure = g o) : PTyped g := by
  refine ⟨fun o ho => ?_, fun o ho => ?_, ?_⟩
  · obtain ⟨v, hv⟩ := h.num o ho
    exact ⟨v, by rw [← hg, hv]; rfl⟩
  · obtain ⟨v, hv⟩ := h.txt o ho
    exact ⟨v, by rw [← hg, hv]; rfl⟩
  · obtain ⟨D, m, d, zs, hv⟩ := h.dat
    exact ⟨zs, by rw [← hg, hv]; rfl⟩
theorem ckC_vals (p : Pt) (v : PC) : ckC p v = 0 ∨ ckC p v = 1 ∨ ckC p v = 2 := by
  rcases p with ⟨a, k⟩ | a | a <;> rcases v with v | s | zs <;> simp only [ckC] <;> try (exact Or.inl trivial) <;> split <;> simp
  all_goals (split <;> simp)
theorem faultC_zero {g : Nat → PC} {kd : Int} (h : faultC g kd = 0) : (1 ≤ kd ∧ kd ≤ 10) ∧ moreC g kd = false ∧ ∀ p ∈ partsOf 0 kd, ckC p (g p.adr.off) = 0 := by
  unfold faultC at h
  by_cases hk : 1 ≤ kd ∧ kd ≤ 10
  · rw [if_pos hk] at h
    by_cases hm : moreC g kd = true
    · rw [if_pos hm] at h; omega
    · rw [if_neg hm] at h
      refine ⟨hk, by simpa using hm, fun p hp => ?_⟩
      exact chk_zero h (fun e he => by obtain ⟨q, -, rfl⟩ := List.mem_map.1 he; exact ckC_vals _ _) _ (List.mem_map.2 ⟨p, hp, rfl⟩)
  · rw [if_neg hk] at h; omega
theorem fits_of {g : Nat → PC} (hg : PTyped g) {p : Pt} {o : Nat} (hk : kindOk p o) (hc : ckC p (g o) = 0) : Fits p (g o) := by
  rcases p with ⟨a, k⟩ | a | a
  · obtain ⟨v, hv⟩ := hg.num o hk
    rw [hv] at hc ⊢
    have hc' : (if v < 0 ∨ 256 ^ k ≤ v then (2 : Int) else 0) = 0 := hc
    show 0 ≤ v ∧ v < 256 ^ k
    split at hc' <;> omega
  · obtain ⟨v, hv⟩ := hg.txt o hk
    rw [hv] at hc ⊢
    have hc' : (if 200 < v.length then (1 : Int) else 0) = 0 := hc
    show v.length < 65536
    split at hc' <;> omega
  · obtain ⟨v, hv⟩ := hg.dat
    have hk' : o = 8 := hk
    subst hk'
    rw [hv] at hc ⊢
    have hc' : (if 100 < v.length then (1 : Int) else 0) = 0 := hc
    show v.length < 65536
    split at hc' <;> omega
theorem fitsL_of (g : Nat → PC) : ∀ (ps : List Pt), (∀ p ∈ ps, Fits p (g p.adr.off)) → FitsL ps (ps.map fun p => g p.adr.off)
  | [], _ => trivial
  | p :: ps, h => ⟨h p (List.mem_cons_self ..), fitsL_of g ps fun q hq => h q (List.mem_cons_of_mem _ hq)⟩
theorem layL_map (g : Nat → PC) (ps : List Pt) : layL ps (ps.map fun p => g p.adr.off) = (ps.map fun p => layC p (g p.adr.off)).flatten := by
  unfold layL
  induction ps with
  | nil => rfl
  | cons p ps ih => simp [ih]
theorem ask_fits {g : Nat → PC} {kd : Int} (hg : PTyped g) (hf : faultC g kd = 0) : FitsL (partsOf 0 kd) ((partsOf 0 kd).map fun p => g p.adr.off) :=
  fitsL_of g _ fun p hp => by
    obtain ⟨j, hj⟩ := List.getElem?_of_mem hp
    obtain ⟨o, h1, h2, h3⟩ := (good_parts 0 kd).loc j p hj
    have h4 : p.adr.off = o := by rw [h2]
    rw [h4]
    exact fits_of hg h3 (by rw [← h4]; exact (faultC_zero hf).2.2 p hp)
/-- what is not named is zero -/
theorem zero_of {g : Nat → PC} (hg : PTyped g) {kd : Int} (h0 : g 0 = .n kd) (hf : faultC g kd = 0) (o : Nat) (ho : o < 9) (hn : ∀ p ∈ partsOf 0 kd, p.adr.off ≠ o) : g0 kd o = g o := by
  have hm := (faultC_zero hf).2.1
  have hnm : named kd o = false := by
    rcases h : named kd o with _ | _
    · rfl
    · obtain ⟨p, hp, e⟩ := (named_iff 0 kd o).1 h
      exact absurd e (hn p hp)
  by_cases e0 : o = 0
  · subst e0; rw [h0]; rfl
  by_cases e1 : o = 1
  · exact absurd (e1 ▸ rfl) (hn (.num (at_ 0 1) 4) (by unfold partsOf; simp))
  have hz : (g o).nz = false := by
    unfold moreC at hm
    rw [List.any_eq_false] at hm
    have := hm o (by simp; omega)
    rw [hnm] at this
    simpa using this
  by_cases e2 : o = 2 ∨ o = 3
  · obtain ⟨s, hs⟩ := hg.txt o e2
    rw [hs] at hz ⊢
    have : s = [] := by simpa [PC.nz] using hz
    subst this
    unfold g0
    rw [if_neg e0, if_pos e2]
  · by_cases e8 : o = 8
    · subst e8
      obtain ⟨zs, hs⟩ := hg.dat
      rw [hs] at hz ⊢
      have : zs = [] := by
        rcases zs with _ | ⟨x, r⟩
        · rfl
        · simp [PC.nz] at hz
      subst this
      rfl
    · obtain ⟨v, hs⟩ := hg.num o (by omega)
      rw [hs] at hz ⊢
      have : v = 0 := by simpa [PC.nz] using hz
      subst this
      unfold g0
      rw [if_neg e0, if_neg e2, if_neg e8]
theorem gOf_same {g : Nat → PC} (hg : PTyped g) {kd : Int} (h0 : g 0 = .n kd) (hf : faultC g kd = 0) (o : Nat) (ho : o < 9) : gOf (partsOf 0 kd) ((partsOf 0 kd).map fun p => g p.adr.off) (g0 kd) o = g o := by
  by_cases h : ∃ p ∈ partsOf 0 kd, p.adr.off = o
  · obtain ⟨p, hp, rfl⟩ := h
    obtain ⟨j, hj⟩ := List.getElem?_of_mem hp
    exact gOf_get _ _ _ j p _ (good_parts 0 kd).one hj (by rw [List.getElem?_map, hj]; rfl)
  · rw [gOf_not _ _ _ _ fun p hp e => h ⟨p, hp, e⟩]
    exact zero_of hg h0 hf o ho fun p hp e => h ⟨p, hp, e⟩
theorem faultC_congr {g g' : Nat → PC} {kd : Int} (h : ∀ o, o < 9 → g o = g' o) : faultC g kd = faultC g' kd := by
  have e : (partsOf 0 kd).map (fun p => ckC p (g p.adr.off)) = (partsOf 0 kd).map fun p => ckC p (g' p.adr.off) := by
    refine List.map_congr_left fun p hp => ?_
    obtain ⟨j, hj⟩ := List.getElem?_of_mem hp
    obtain ⟨o, h1, h2, -⟩ := (good_parts 0 kd).loc j p hj
    have h4 : p.adr.off = o := by rw [h2]
    rw [h4, h o h1]
  have m : moreC g kd = moreC g' kd := by
    unfold moreC
    simp only [List.any_cons, List.any_nil]
    rw [h 2 (by omega), h 3 (by omega), h 4 (by omega), h 5 (by omega), h 6 (by omega), h 7 (by omega), h 8 (by omega)]
  unfold faultC
  rw [e, m]
theorem askC_congr {g g' : Nat → PC} {kd : Int} (h : ∀ o, o < 9 → g o = g' o) : askC g kd = askC g' kd := by
  unfold askC
  rw [List.map_congr_left fun p hp => ?_]
  obtain ⟨j, hj⟩ := List.getElem?_of_mem hp
  obtain ⟨o, h1, h2, -⟩ := (good_parts 0 kd).loc j p hj
  have h4 : p.adr.off = o := by rw [h2]
  rw [h4, h o h1]
/-- a request's bytes begin with its kind, and its mark is behind it -/
theorem askC_head {g : Nat → PC} {kd : Int} (h0 : g 0 = .n kd) (hk : 1 ≤ kd ∧ kd ≤ 10) (hg : PTyped g) : ∃ r, askC g kd = kd :: r ∧ 4 ≤ r.length := by
  obtain ⟨m, hm⟩ := hg.num 1 (by omega)
  unfold askC partsOf
  simp only [List.cons_append, List.nil_append, List.map_cons, List.flatten_cons]
  have e0 : layC (Pt.num (at_ 0 0) 1) (g (Pt.num (at_ 0 0) 1).adr.off) = [kd] := by
    show layC _ (g 0) = _
    rw [h0]
    show be 1 kd = _
    rw [be_succ, be_zero, List.nil_append]
    congr 1
    omega
  have e1 : layC (Pt.num (at_ 0 1) 4) (g (Pt.num (at_ 0 1) 4).adr.off) = be 4 m := by
    show layC _ (g 1) = _
    rw [hm]; rfl
  rw [e0, e1]
  exact ⟨be 4 m ++ ((namedBy 0 kd).map fun p => layC p (g p.adr.off)).flatten, rfl, by rw [List.length_append, be_len]; omega⟩
/-- A REQUEST COMES BACK FROM ITS BYTES -/
theorem asked_ask {g : Nat → PC} {kd : Int} (hg : PTyped g) (h0 : g 0 = .n kd) (hf : faultC g kd = 0) : (askedT (askC g kd)).1 = 0 ∧ ∀ o, o < 9 → (askedT (askC g kd)).2 o = g o := by
  have hk := (faultC_zero hf).1
  have ht : takeT (partsOf 0 kd) (askC g kd) = some ((partsOf 0 kd).map (fun p => g p.adr.off), []) := by
    have := takeT_lay (partsOf 0 kd) _ [] (ask_fits hg hf)
    rw [List.append_nil, layL_map] at this
    exact this
  obtain ⟨r, hr, hl⟩ := askC_head h0 hk hg
  rw [hr] at ht ⊢
  rw [asked_some (by simp; omega) hk ht, if_neg (by
    rintro (h | h)
    · simp at h
    · exact h (by rw [faultC_congr (g' := g) fun o ho => gOf_same hg h0 hf o ho]; exact hf))]
  exact ⟨rfl, fun o ho => gOf_same hg h0 hf o ho⟩
theorem asked_none {kd : Int} {r : List Int} (h : ¬ (kd :: r).length < 5) (hk : 1 ≤ kd ∧ kd ≤ 10) (ht : takeT (partsOf 0 kd) (kd :: r) = none) : askedT (kd :: r) = (5, g0 0) := by
  unfold askedT
  rw [if_neg h, if_pos (by simpa using hk)]
  simp only [List.headD_cons]
  rw [ht]
/-- cut off, they are too short -/
theorem asked_cut {g : Nat → PC} {kd : Int} (hg : PTyped g) (h0 : g 0 = .n kd) (hf : faultC g kd = 0) (j : Nat) (hj : j < (askC g kd).length) : (askedT ((askC g kd).take j)).1 = 5 := by
  have hk := (faultC_zero hf).1
  have ht : takeT (partsOf 0 kd) ((askC g kd).take j) = none := by
    have := takeT_cut (partsOf 0 kd) _ j (ask_fits hg hf)
    rw [layL_map] at this
    exact this hj
  obtain ⟨r, hr, hl⟩ := askC_head h0 hk hg
  by_cases h5 : j < 5
  · unfold askedT
    rw [if_pos (by rw [List.length_take]; omega)]
  · rw [hr] at ht ⊢
    obtain ⟨j, rfl⟩ : ∃ i, j = i + 1 := ⟨j - 1, by omega⟩
    rw [hr] at hj
    simp only [List.take_succ_cons] at ht ⊢
    rw [asked_none (by simp only [List.length_cons, List.length_take] at hj ⊢; omega) hk ht]
/-- with more behind them they are of none -/
theorem asked_more {g : Nat → PC} {kd : Int} (hg : PTyped g) (h0 : g 0 = .n kd) (hf : faultC g kd = 0) (x : Int) (m : List Int) : (askedT (askC g kd ++ x :: m)).1 = 4 := by
  have hk := (faultC_zero hf).1
  have ht : takeT (partsOf 0 kd) (askC g kd ++ x :: m) = some ((partsOf 0 kd).map (fun p => g p.adr.off), x :: m) := by
    have := takeT_lay (partsOf 0 kd) _ (x :: m) (ask_fits hg hf)
    rw [layL_map] at this
    exact this
  obtain ⟨r, hr, hl⟩ := askC_head h0 hk hg
  rw [hr] at ht ⊢
  rw [List.cons_append] at ht ⊢
  rw [asked_some (by simp; omega) hk ht, if_pos (.inl (by simp))]
/-- BYTES THAT ARE READ ARE THOSE OF WHAT WAS READ -/
theorem ask_asked {zs : List Int} (ho : Oct zs) (h : (askedT zs).1 = 0) : ∃ kd, (askedT zs).2 0 = .n kd ∧ faultC (askedT zs).2 kd = 0 ∧ askC (askedT zs).2 kd = zs := by
  by_cases h5 : zs.length < 5
  · unfold askedT at h; rw [if_pos h5] at h; cases h
  obtain ⟨kd, r, rfl⟩ : ∃ x r, zs = x :: r := by
    rcases zs with _ | ⟨x, r⟩
    · simp at h5
    · exact ⟨x, r, rfl⟩
  by_cases hk : 1 ≤ kd ∧ kd ≤ 10
  · rcases ht : takeT (partsOf 0 kd) (kd :: r) with _ | ⟨vs, ys⟩
    · rw [asked_none h5 hk ht] at h; cases h
    · rw [asked_some h5 hk ht] at h ⊢
      by_cases hc : 0 < ys.length ∨ faultC (gOf (partsOf 0 kd) vs (g0 kd)) kd ≠ 0
      · rw [if_pos hc] at h; cases h
      · rw [if_neg hc]
        have hy : ys = [] := List.eq_nil_of_length_eq_zero (by omega)
        have hf : faultC (gOf (partsOf 0 kd) vs (g0 kd)) kd = 0 := Classical.not_not.1 fun e => hc (.inr e)
        obtain ⟨g1, g2⟩ := lay_takeT _ _ _ _ ho ht
        rw [hy, List.append_nil] at g1
        have hl : ∀ (ps : List Pt) (vs : List PC), FitsL ps vs → vs.length = ps.length := by
          intro ps
          induction ps with
          | nil => intro vs h; rcases vs with _ | ⟨v, vs⟩
                   · rfl
                   · exact h.elim
          | cons p ps ih => intro vs h; rcases vs with _ | ⟨v, vs⟩
                            · exact h.elim
                            · simp [ih vs h.2]
        have hvs : (partsOf 0 kd).map (fun p => gOf (partsOf 0 kd) vs (g0 kd) p.adr.off) = vs := by
          refine List.ext_getElem? fun j => ?_
          rw [List.getElem?_map]
          rcases hp : (partsOf 0 kd)[j]? with _ | p
          · have hj := List.getElem?_eq_none_iff.1 hp
            rw [List.getElem?_eq_none (by rw [hl _ _ g2]; exact hj)]; rfl
          · obtain ⟨hj, -⟩ := List.getElem?_eq_some_iff.1 hp
            have hjv : j < vs.length := by rw [hl _ _ g2]; exact hj
            have hv : vs[j]? = some vs[j] := List.getElem?_eq_getElem hjv
            rw [hv]
            show some (gOf _ vs _ p.adr.off) = _
            rw [gOf_get _ vs _ j p _ (good_parts 0 kd).one hp hv]
        refine ⟨kd, ?_, hf, ?_⟩
        · exact gOf_get (partsOf 0 kd) vs (g0 kd) 0 (.num (at_ 0 0) 1) (.n kd) (good_parts 0 kd).one rfl (take_kind ht)
        · have e := layL_map (gOf (partsOf 0 kd) vs (g0 kd)) (partsOf 0 kd)
          rw [hvs] at e
          show ((partsOf 0 kd).map _).flatten = _
          rw [← e]
          exact g1
  · unfold askedT at h
    rw [if_neg h5, if_neg (by simpa using hk)] at h
    cases h
/-- the codes of Asked; with a code the request is zero -/
theorem asked_codes (zs : List Int) : (askedT zs).1 = 0 ∨ (((askedT zs).1 = 3 ∨ (askedT zs).1 = 4 ∨ (askedT zs).1 = 5) ∧ (askedT zs).2 = g0 0) := by
  unfold askedT
  split
  · exact .inr ⟨.inr (.inr rfl), rfl⟩
  · split
    · split
      · exact .inr ⟨.inr (.inr rfl), rfl⟩
      · split
        · exact .inr ⟨.inr (.inl rfl), rfl⟩
        · exact .inl rfl
    · exact .inr ⟨.inl rfl, rfl⟩

end Go.Proofs.Ytelfnlocgknpjaa
