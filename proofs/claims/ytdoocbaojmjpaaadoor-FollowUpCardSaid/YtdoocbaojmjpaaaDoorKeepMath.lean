/-
  Paths made of drawn parts: where they lead. Mathematics alone.
-/
import Derived.Test.YtdoocbaojmjpaaaDoorPathMath
namespace Go.Proofs.YtdoocbaojmjpaaaDoor
set_option linter.unusedVariables false

/-- the parts that are drawn -/
def table : List Byt := [[97], [98], [99], [100, 49], [101, 46, 120], [46, 46], [46], [], [108, 111, 110, 103, 101, 114, 45, 110, 97, 109, 101], [102]]
/-- a part that never is refused -/
def Tame (x : Byt) : Prop := (x = [46, 46] ∨ x = [] ∨ x = [46] ∨ nameB x = true) ∧ x.length ≤ 11 ∧ ∀ b ∈ x, b ≠ 47
theorem table_tame : ∀ k, k < 10 → Tame (table.getD k [])
  | 0, _ => ⟨.inr (.inr (.inr (by decide))), by decide, by decide⟩
  | 1, _ => ⟨.inr (.inr (.inr (by decide))), by decide, by decide⟩
  | 2, _ => ⟨.inr (.inr (.inr (by decide))), by decide, by decide⟩
  | 3, _ => ⟨.inr (.inr (.inr (by decide))), by decide, by decide⟩
  | 4, _ => ⟨.inr (.inr (.inr (by decide))), by decide, by decide⟩
  | 5, _ => ⟨.inl rfl, by decide, by decide⟩
  | 6, _ => ⟨.inr (.inr (.inl rfl)), by decide, by decide⟩
  | 7, _ => ⟨.inr (.inl rfl), by decide, by decide⟩
  | 8, _ => ⟨.inr (.inr (.inr (by decide))), by decide, by decide⟩
  | 9, _ => ⟨.inr (.inr (.inr (by decide))), by decide, by decide⟩
  | n + 10, h => by omega
def Tames (l : List Byt) : Prop := ∀ x ∈ l, Tame x

theorem parts_joinF : ∀ (l : List Byt), Tames l → l ≠ [] → parts (joinP l) = [] :: l
  | [], _, h => absurd rfl h
  | [x], h, _ => by
    have hx := (h x (by simp)).2.2
    show parts (47 :: (x ++ [])) = _
    rw [List.append_nil, parts_slash, parts_free x hx]
  | x :: y :: r, h, _ => by
    have hx := (h x (by simp)).2.2
    have ih := parts_joinF (y :: r) (fun z hz => h z (by simp [hz])) (by simp)
    show parts (47 :: (x ++ joinP (y :: r))) = _
    rw [parts_slash]
    have e : joinP (y :: r) = 47 :: (y ++ joinP r) := rfl
    have e2 := parts_cut x (y ++ joinP r) hx
    rw [e, e2]
    rw [e, parts_slash] at ih
    injection ih with _ ih
    rw [ih]
theorem pfold_joinF {l : List Byt} (h : Tames l) (out : List Byt) : pfold out (parts (joinP l)) = pfold out l := by
  rcases l with _ | ⟨x, r⟩
  · show pfold out [[]] = _
    rw [pfold_empty]
  · rw [parts_joinF _ h (by simp), pfold_empty]
theorem joinF_len : ∀ (l : List Byt), Tames l → (joinP l).length ≤ 12 * l.length
  | [], _ => by simp [joinP]
  | x :: r, h => by
    have hx := (h x (by simp)).2.1
    have ih := joinF_len r fun z hz => h z (by simp [hz])
    simp only [joinP, List.length_cons, List.length_append]
    omega
theorem pstep_tame {x : Byt} (h : Tame x) {out : List Byt} (hl : out.length < 12) : ∃ o, pstep out x = .ok o ∧ o.length ≤ out.length + 1 := by
  rcases h.1 with rfl | rfl | rfl | h1
  · exact ⟨out.dropLast, by simp [pstep], by simp; omega⟩
  · exact ⟨out, by simp [pstep], by omega⟩
  · exact ⟨out, by simp [pstep], by omega⟩
  · exact ⟨out ++ [x], pstep_name h1 hl, by simp⟩
theorem pfold_tame : ∀ (l out : List Byt), Tames l → out.length + l.length ≤ 12 → ∃ o, pfold out l = .ok o ∧ o.length ≤ out.length + l.length
  | [], out, _, _ => ⟨out, rfl, by simp⟩
  | x :: r, out, h, hl => by
    simp only [List.length_cons] at hl ⊢
    obtain ⟨o, h1, h2⟩ := pstep_tame (h x (by simp)) (out := out) (by omega)
    obtain ⟨o', h3, h4⟩ := pfold_tame r o (fun z hz => h z (by simp [hz])) (by omega)
    exact ⟨o', by simp only [pfold, h1, h3], by omega⟩
/-- where a path of drawn parts leads -/
theorem clean_drawn {l : List Byt} (h : Tames l) (hl : l.length ≤ 9) : ∃ a, pfrom [] (joinP l) = .ok a ∧ Clean_ a ∧ a.length ≤ l.length ∧ (joinN a).length ≤ 200 := by
  obtain ⟨a, h1, h2⟩ := pfold_tame l [] h (by simp; omega)
  have h3 : pfrom [] (joinP l) = .ok a := by
    unfold pfrom
    rw [if_neg (by have := joinF_len l h; omega), pfold_joinF h, h1]
  have hc := pfrom_clean clean_nil h3
  have hal : a.length ≤ l.length := by simpa using h2
  refine ⟨a, h3, hc, hal, ?_⟩
  unfold joinN
  split
  · simp
  · have := joinP_len a hc.2
    omega
/-- a path behind another one -/
theorem follow_drawn {ps qs : List Byt} (hp : Tames ps) (hq : Tames qs) (h5 : ps.length ≤ 5) (h6 : qs.length ≤ 5) {a : List Byt} (ha : pfrom [] (joinP ps) = .ok a) (hal : a.length ≤ 5) :
    ∃ b, pfollow a ((joinP qs).drop 1) = .ok b ∧ b.length ≤ 12 ∧
      (((joinP qs).drop 1).head? = some 47 → pfrom [] ((joinP qs).drop 1) = .ok b ∧ ∃ c, pfrom [] (joinP ps ++ 47 :: joinP qs) = .ok c ∧ c.length ≤ 12) ∧
      (((joinP qs).drop 1).head? ≠ some 47 → pfrom [] (joinP ps ++ 47 :: joinP qs) = .ok b) := by
  have hca := pfrom_clean clean_nil ha
  have hl1 := joinF_len ps hp
  have hl2 := joinF_len qs hq
  have hpf : pfold [] (parts (joinP ps)) = .ok a := by
    have := ha; unfold pfrom at this; rw [if_neg (by omega)] at this; exact this
  have hall : pfrom [] (joinP ps ++ 47 :: joinP qs) = pfold a (parts (joinP qs)) := by
    unfold pfrom
    rw [if_neg (by rw [List.length_append, List.length_cons]; omega), parts_app, pfold_ok hpf]
  have hqs : pfold a (parts (joinP qs)) = pfold a qs := pfold_joinF hq a
  obtain ⟨c, hc1, hc2⟩ := pfold_tame qs a hq (by omega)
  by_cases hh : ((joinP qs).drop 1).head? = some 47
  · -- the path begins anew
    rcases qs with _ | ⟨x, r⟩
    · simp [joinP] at hh
    · have ex : (joinP (x :: r)).drop 1 = x ++ joinP r := rfl
      rw [ex] at hh ⊢
      have hx : x = [] := by
        rcases x with _ | ⟨b, t⟩
        · rfl
        · exfalso
          have : b = 47 := by simpa using hh
          exact (hq (b :: t) (by simp)).2.2 b (by simp) this
      subst hx
      rw [List.nil_append] at hh ⊢
      have hr : Tames r := fun z hz => hq z (by simp [hz])
      obtain ⟨b, hb1, hb2⟩ := pfold_tame r [] hr (by simp at h6 ⊢; omega)
      have hb3 : pfrom [] (joinP r) = .ok b := by
        unfold pfrom
        rw [if_neg (by have := joinF_len r hr; simp at h6; omega), pfold_joinF hr, hb1]
      refine ⟨b, ?_, by simp at hb2 h6; omega, fun _ => ⟨hb3, c, by rw [hall, hqs, hc1], by simp at hc2 h6; omega⟩, fun h => absurd hh h⟩
      unfold pfollow
      rw [if_neg (by simpa using nfault_clean hca), if_pos hh, hb3]
  · refine ⟨c, ?_, by omega, fun h => absurd h hh, fun _ => by rw [hall, hqs, hc1]⟩
    unfold pfollow
    rw [if_neg (by simpa using nfault_clean hca), if_neg hh]
    unfold pfrom
    rw [if_neg (by rw [List.length_drop]; omega)]
    rw [← hc1, ← hqs]
    rcases qs with _ | ⟨x, r⟩
    · rfl
    · show pfold a (parts (x ++ joinP r)) = pfold a (parts (47 :: (x ++ joinP r)))
      rw [parts_slash, pfold_empty]
/-- back and forth -/
theorem follow_back {a : List Byt} (ha : Clean_ a) (hl : a.length < 12) : pfollow a [113, 47, 46, 46] = .ok a := by
  unfold pfollow
  rw [if_neg (by simpa using nfault_clean ha), if_neg (by decide)]
  unfold pfrom
  rw [if_neg (by decide), show parts [113, 47, 46, 46] = [[113], [46, 46]] by decide]
  simp only [pfold]
  rw [pstep_name (by decide) hl]
  simp [pstep]
theorem follow_root {a : List Byt} (ha : Clean_ a) : pfollow a [47] = .ok [] := by
  unfold pfollow
  rw [if_neg (by simpa using nfault_clean ha), if_pos (by rfl)]
  rfl
/-- so many steps up -/
def ups : Nat → Byt
  | 0 => []
  | k + 1 => ups k ++ [46, 46, 47]
theorem ups_len : ∀ k, (ups k).length = 3 * k
  | 0 => rfl
  | k + 1 => by simp only [ups, List.length_append, ups_len k, List.length_cons, List.length_nil]; omega
theorem ups_cons : ∀ k, ups (k + 1) = [46, 46, 47] ++ ups k
  | 0 => rfl
  | k + 1 => by
    show ups (k + 1) ++ [46, 46, 47] = [46, 46, 47] ++ (ups k ++ [46, 46, 47])
    rw [ups_cons k, List.append_assoc]
theorem pfold_ups : ∀ (k : Nat) (a : List Byt), pfold a (parts (ups k)) = .ok (a.take (a.length - k))
  | 0, a => by
    show pfold a [[]] = _
    rw [pfold_empty]
    simp [pfold]
  | k + 1, a => by
    rw [ups_cons, show ([46, 46, 47] ++ ups k : Byt) = [46, 46] ++ 47 :: ups k from rfl, parts_cut _ _ (by decide)]
    simp only [pfold]
    rw [show pstep a [46, 46] = .ok a.dropLast by simp [pstep]]
    show pfold a.dropLast (parts (ups k)) = _
    rw [pfold_ups k a.dropLast, List.length_dropLast, List.dropLast_eq_take, List.take_take]
    congr 2
    omega
theorem follow_ups {a : List Byt} (ha : Clean_ a) (k : Nat) (hk : k < 20) : pfollow a (ups k) = .ok (a.take (a.length - k)) := by
  unfold pfollow
  rw [if_neg (by simpa using nfault_clean ha), if_neg (by rcases k with _ | k; decide; rw [ups_cons]; simp)]
  unfold pfrom
  rw [if_neg (by rw [ups_len]; omega), pfold_ups]
theorem clean_xy : Clean_ [[120], [121]] := ⟨by decide, by decide⟩
theorem joinN_xy : joinN [[120], [121]] = [47, 120, 47, 121] := by decide
theorem clean_take {a : List Byt} (h : Clean_ a) (k : Nat) : Clean_ (a.take k) := ⟨by have := h.1; rw [List.length_take]; omega, fun x hx => h.2 x (List.mem_of_mem_take hx)⟩

end Go.Proofs.YtdoocbaojmjpaaaDoor
