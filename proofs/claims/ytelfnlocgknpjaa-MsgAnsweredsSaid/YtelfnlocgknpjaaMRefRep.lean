/-
  What the document's reader takes of a reply, as the parts of takeReply.
-/
import Derived.Test.YtelfnlocgknpjaaMRefRead
import Derived.Test.YtelfnlocgknpjaaMAnswered2
namespace Go.Proofs.Ytelfnlocgknpjaa
open Go.RowKit
set_option linter.unusedVariables false
set_option linter.unusedSimpArgs false

/-- what is too short stays so -/
theorem numR_end (k : Nat) (hk : 1 ≤ k) : numR k [] true = (0, [], true) := by unfold numR; rw [if_pos (by simp; omega)]
theorem txtR_end : txtR [] true = ([], [], true) := by
  unfold txtR
  rw [numR_end 2 (by omega)]
  simp [toT]
/-- num and text as a part's take -/
theorem numR_some {k : Nat} {ys r : List Int} {v : PC} {a : Addr} (h : (Pt.num a k).tk ys = some (v, r)) : ∃ x, v = .n x ∧ numR k ys false = (x, r, false) ∧ ∀ z ∈ r, z ∈ ys := by
  simp only [Pt.tk] at h
  split at h
  · cases h
  · rename_i hk
    injection h with h
    injection h with h1 h2
    exact ⟨_, h1.symm, by unfold numR; rw [if_neg hk, h2], fun z hz => List.mem_of_mem_drop (by rw [← h2] at hz; exact hz)⟩
theorem numR_none {k : Nat} {ys : List Int} {a : Addr} (h : (Pt.num a k).tk ys = none) : numR k ys false = (0, [], true) := by
  simp only [Pt.tk] at h
  split at h
  · rename_i hk
    unfold numR; rw [if_pos hk]
  · cases h
theorem txtR_spl {ys : List Int} : (splT ys = none ∧ txtR ys false = ([], [], true)) ∨ ∃ x r, splT ys = some (x, r) ∧ txtR ys false = (toT x, r, false) ∧ (∀ z ∈ x, z ∈ ys) := by
  unfold splT txtR numR
  by_cases h2 : ys.length < 2
  · left
    rw [if_pos h2, if_pos h2]
    simp [toT]
  · rw [if_neg h2, if_neg h2]
    by_cases h3 : ys.length - 2 < (val (ys.take 2)).toNat
    · left
      refine ⟨if_pos h3, ?_⟩
      show (if (ys.drop 2).length < (val (ys.take 2)).toNat then _ else _) = _
      rw [if_pos (by rw [List.length_drop]; exact h3)]
    · right
      refine ⟨_, _, if_neg h3, ?_, fun z hz => List.mem_of_mem_drop (List.mem_of_mem_take hz)⟩
      show (if (ys.drop 2).length < (val (ys.take 2)).toNat then _ else _) = _
      rw [if_neg (by rw [List.length_drop]; exact h3)]

/-- the names the document's loop reads -/
def nmsR : Nat → List Int → Bool → List Byt × List Int × Bool
  | 0, ys, s => ([], ys, s)
  | k + 1, ys, s => if s then ([], ys, s) else ((txtR ys s).1 :: (nmsR k (txtR ys s).2.1 (txtR ys s).2.2).1, (nmsR k (txtR ys s).2.1 (txtR ys s).2.2).2)
theorem nmsR_short (k : Nat) (ys : List Int) : nmsR k ys true = ([], ys, true) := by cases k <;> rfl
theorem nmsR_go (k : Nat) {ys y : List Int} {s : Bool} {t : Byt} (h : txtR ys false = (t, y, s)) : nmsR (k + 1) ys false = (t :: (nmsR k y s).1, (nmsR k y s).2) := by
  show (if false = true then _ else _) = _
  rw [if_neg (by decide), h]
theorem nms_take : ∀ (k : Nat) (ys : List Int), ((nmsR k ys false).2.2 = true ∧ takeT (nmP 0 0 k) ys = none) ∨ ((nmsR k ys false).2.2 = false ∧ takeT (nmP 0 0 k) ys = some ((nmsR k ys false).1.map PC.t, (nmsR k ys false).2.1))
  | 0, ys => .inr ⟨rfl, rfl⟩
  | k + 1, ys => by
    have e : takeT (nmP 0 0 (k + 1)) ys = takeT (.txt (at_ 0 0) :: nmP 0 0 k) ys :=
      takeT_txt _ _ _ (by rw [nmP_len, List.length_cons, nmP_len]) (nmP_txt _ _ _) (fun p hp => by
        rcases List.mem_cons.1 hp with h | h
        · exact ⟨_, h⟩
        · exact nmP_txt _ _ _ p h)
    rw [e, takeT]
    simp only [Pt.tk]
    rcases txtR_spl (ys := ys) with ⟨h1, h2⟩ | ⟨x, r, h1, h2, -⟩
    · left
      rw [nmsR_go k h2, nmsR_short, h1]
      exact ⟨rfl, rfl⟩
    · rw [nmsR_go k h2, h1]
      simp only [Option.map_some]
      rcases nms_take k r with ⟨g1, g2⟩ | ⟨g1, g2⟩
      · left
        rw [g2]
        exact ⟨g1, rfl⟩
      · right
        rw [g2]
        exact ⟨g1, rfl⟩
theorem numS {k : Nat} {ys y : List Int} {sh s : Bool} {v : Int} (hk : 1 ≤ k) (h : numR k ys sh = (v, y, s)) (hs : ys = [] ∧ sh = true) : y = [] ∧ s = true := by
  obtain ⟨rfl, rfl⟩ := hs
  rw [numR_end k hk] at h
  injection h with _ h
  injection h with h1 h2
  exact ⟨h1.symm, h2.symm⟩
theorem txtS {ys y : List Int} {sh s : Bool} {v : Byt} (h : txtR ys sh = (v, y, s)) (hs : ys = [] ∧ sh = true) : y = [] ∧ s = true := by
  obtain ⟨rfl, rfl⟩ := hs
  rw [txtR_end] at h
  injection h with _ h
  injection h with h1 h2
  exact ⟨h1.symm, h2.symm⟩
theorem num_of {k : Nat} {ys y : List Int} {s : Bool} {v : Int} (a : Addr) (h : numR k ys false = (v, y, s)) : ((Pt.num a k).tk ys = none ∧ y = [] ∧ s = true) ∨ ((Pt.num a k).tk ys = some (.n v, y) ∧ s = false ∧ ∀ z ∈ y, z ∈ ys) := by
  rcases hk : (Pt.num a k).tk ys with _ | ⟨u, r⟩
  · left
    have e := numR_none hk
    rw [e] at h
    injection h with _ h
    injection h with h1 h2
    exact ⟨rfl, h1.symm, h2.symm⟩
  · right
    obtain ⟨x, rfl, e, hm⟩ := numR_some hk
    rw [e] at h
    injection h with h0 h
    injection h with h1 h2
    subst h0; subst h1
    exact ⟨rfl, h2.symm, hm⟩
theorem txt_of {ys y : List Int} {s : Bool} {v : Byt} (a : Addr) (ho : Oct ys) (h : txtR ys false = (v, y, s)) : ((Pt.dat a).tk ys = none ∧ y = [] ∧ s = true) ∨ ((Pt.dat a).tk ys = some (.d (ofT v), y) ∧ s = false) := by
  rcases txtR_spl (ys := ys) with ⟨h1, h2⟩ | ⟨x, r, h1, h2, h3⟩
  · left
    rw [h2] at h
    injection h with _ h
    injection h with g1 g2
    exact ⟨by simp only [Pt.tk, h1]; rfl, g1.symm, g2.symm⟩
  · right
    rw [h2] at h
    injection h with g0 h
    injection h with g1 g2
    subst g0; subst g1
    exact ⟨by simp only [Pt.tk, h1, Option.map_some]; rw [ofT_toT x fun z hz => ho z (h3 z hz)], g2.symm⟩
theorem nmsOf_map (l : List Byt) : nmsOf (l.map PC.t) = l := by
  unfold nmsOf
  rw [List.map_map]
  induction l with
  | nil => rfl
  | cons x r ih => rw [List.map_cons, ih]; rfl
theorem rep_ref {zs y1 y2 y3 y4 y5 y6 y7 yf : List Int} {v1 v2 v3 v4 v5 : Int} {v6 : Byt} {k7 : Nat} {s1 s2 s3 s4 s5 s6 s7 sf : Bool} {ns : List Byt} (ho : Oct zs) (h1 : numR 4 zs false = (v1, y1, s1)) (h2 : numR 1 y1 s1 = (v2, y2, s2)) (h3 : numR 4 y2 s2 = (v3, y3, s3)) (h4 : numR 1 y3 s3 = (v4, y4, s4)) (h5 : numR 4 y4 s4 = (v5, y5, s5)) (h6 : txtR y5 s5 = (v6, y6, s6)) (h7 : numR 1 y6 s6 = ((k7 : Int), y7, s7)) (hn : nmsR k7 y7 s7 = (ns, yf, sf)) :
    (sf = true → answeredT zs = (5, Rp.zero)) ∧ (sf = false → answeredT zs = if 0 < yf.length ∨ (⟨v1, v2, v3, v4, v5, ofT v6, ns⟩ : Rp).fault ≠ 0 then (4, Rp.zero) else (0, ⟨v1, v2, v3, v4, v5, ofT v6, ns⟩)) := by
  have c7 : y7 = [] ∧ s7 = true → sf = true := by
    rintro ⟨rfl, rfl⟩
    rw [nmsR_short] at hn
    injection hn with _ h
    injection h with _ h
    exact h.symm
  have c6 := fun h => c7 (numS (by omega) h7 h)
  have c5 := fun h => c6 (txtS h6 h)
  have c4 := fun h => c5 (numS (by omega) h5 h)
  have c3 := fun h => c4 (numS (by omega) h4 h)
  have c2 := fun h => c3 (numS (by omega) h3 h)
  have c1 := fun h => c2 (numS (by omega) h2 h)
  have bad : sf = true → takeT (rp7 0 0 0) zs = none → (sf = true → answeredT zs = (5, Rp.zero)) ∧ (sf = false → answeredT zs = if 0 < yf.length ∨ (⟨v1, v2, v3, v4, v5, ofT v6, ns⟩ : Rp).fault ≠ 0 then (4, Rp.zero) else (0, ⟨v1, v2, v3, v4, v5, ofT v6, ns⟩)) := fun h1 h2 =>
    ⟨fun _ => by unfold answeredT repT; rw [h2], fun h => by rw [h1] at h; cases h⟩
  rcases num_of (at_ 0 0) h1 with ⟨t1, g1, g2⟩ | ⟨t1, rfl, m1⟩
  · exact bad (c1 ⟨g1, g2⟩) (by unfold rp7 rpParts; simp only [List.cons_append, List.nil_append, takeT, t1])
  rcases num_of (at_ 0 0) h2 with ⟨t2, g1, g2⟩ | ⟨t2, rfl, m2⟩
  · exact bad (c2 ⟨g1, g2⟩) (by unfold rp7 rpParts; simp only [List.cons_append, List.nil_append, takeT, t1, t2])
  rcases num_of (at_ 0 2) h3 with ⟨t3, g1, g2⟩ | ⟨t3, rfl, m3⟩
  · exact bad (c3 ⟨g1, g2⟩) (by unfold rp7 rpParts; simp only [List.cons_append, List.nil_append, takeT, t1, t2, t3])
  rcases num_of (at_ 0 3) h4 with ⟨t4, g1, g2⟩ | ⟨t4, rfl, m4⟩
  · exact bad (c4 ⟨g1, g2⟩) (by unfold rp7 rpParts; simp only [List.cons_append, List.nil_append, takeT, t1, t2, t3, t4])
  rcases num_of (at_ 0 4) h5 with ⟨t5, g1, g2⟩ | ⟨t5, rfl, m5⟩
  · exact bad (c5 ⟨g1, g2⟩) (by unfold rp7 rpParts; simp only [List.cons_append, List.nil_append, takeT, t1, t2, t3, t4, t5])
  rcases txt_of (at_ 0 5) (fun z hz => ho z (m1 z (m2 z (m3 z (m4 z (m5 z hz)))))) h6 with ⟨t6, g1, g2⟩ | ⟨t6, rfl⟩
  · exact bad (c6 ⟨g1, g2⟩) (by unfold rp7 rpParts; simp only [List.cons_append, List.nil_append, takeT, t1, t2, t3, t4, t5, t6])
  rcases num_of (at_ 0 0) h7 with ⟨t7, g1, g2⟩ | ⟨t7, rfl, m7⟩
  · exact bad (c7 ⟨g1, g2⟩) (by unfold rp7 rpParts; simp only [List.cons_append, List.nil_append, takeT, t1, t2, t3, t4, t5, t6, t7])
  have T : takeT (rp7 0 0 0) zs = some ([.n v1, .n v2, .n v3, .n v4, .n v5, .d (ofT v6), .n (k7 : Int)], y7) := by
    unfold rp7 rpParts; simp only [List.cons_append, List.nil_append, takeT, t1, t2, t3, t4, t5, t6, t7]
  have C : cnt7 [.n v1, .n v2, .n v3, .n v4, .n v5, .d (ofT v6), .n (k7 : Int)] = k7 := Int.toNat_natCast k7
  have e1 : (nmsR k7 y7 false).1 = ns := by rw [hn]
  have e2 : (nmsR k7 y7 false).2.1 = yf := by rw [hn]
  have e3 : (nmsR k7 y7 false).2.2 = sf := by rw [hn]
  rcases nms_take k7 y7 with ⟨g1, g2⟩ | ⟨g1, g2⟩
  · rw [e3] at g1
    refine ⟨fun _ => ?_, fun h => by rw [g1] at h; cases h⟩
    have R : repT zs = none := by unfold repT; rw [T]; simp only [C, g2]
    unfold answeredT; rw [R]
  · rw [e3] at g1
    rw [e1, e2] at g2
    refine ⟨fun h => (by rw [g1] at h; cases h), fun _ => ?_⟩
    have R : repT zs = some ([.n v1, .n v2, .n v3, .n v4, .n v5, .d (ofT v6), .n (k7 : Int)], ns.map PC.t, yf) := by unfold repT; rw [T]; simp only [C, g2]
    rw [answered_some R]
    have RO : rpOf [.n v1, .n v2, .n v3, .n v4, .n v5, .d (ofT v6), .n (k7 : Int)] (ns.map PC.t) = ⟨v1, v2, v3, v4, v5, ofT v6, ns⟩ := by unfold rpOf; simp only [nmsOf_map]
    rw [RO]

end Go.Proofs.Ytelfnlocgknpjaa
