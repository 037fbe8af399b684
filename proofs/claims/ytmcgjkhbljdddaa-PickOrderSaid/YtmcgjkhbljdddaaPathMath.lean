/-
  Paths and names as lists of bytes: parts, names, what a path leads to. Mathematics alone.
-/
namespace Go.Proofs.Ytmcgjkhbljdddaa
set_option linter.unusedVariables false

abbrev Byt := List UInt8

/-- what is a name -/
def nameB (l : Byt) : Bool := decide (l ≠ []) && (decide (l.length ≤ 16) && (decide (l ≠ [46]) && (decide (l ≠ [46, 46]) && l.all fun b => b != 0 && b != 47)))
/-- the parts between slashes -/
def parts : Byt → List Byt
  | [] => [[]]
  | b :: r => if b = 47 then [] :: parts r else
    match parts r with
    | [] => [[b]]
    | p :: q => (b :: p) :: q
/-- one part -/
def pstep (out : List Byt) (p : Byt) : Except Int (List Byt) :=
  if p = [46, 46] then .ok out.dropLast
  else if p = [] ∨ p = [46] then .ok out
  else if nameB p = false then .error 4
  else if 12 ≤ out.length then .error 9
  else .ok (out ++ [p])
def pfold (out : List Byt) : List Byt → Except Int (List Byt)
  | [] => .ok out
  | p :: r =>
    match pstep out p with
    | .ok o => pfold o r
    | .error e => .error e
/-- the names that there are behind a path, if these are there ahead of it -/
def pfrom (from_ : List Byt) (path : Byt) : Except Int (List Byt) := if 200 < path.length then .error 1 else pfold from_ (parts path)
/-- what there is against names -/
def nfault (l : List Byt) : Int := if 12 < l.length then 9 else if l.all nameB then 0 else 4
/-- the path of names -/
def joinP : List Byt → Byt
  | [] => []
  | x :: r => 47 :: (x ++ joinP r)
def joinN (l : List Byt) : Byt := if l = [] then [47] else joinP l
def pfollow (names : List Byt) (path : Byt) : Except Int (List Byt) :=
  if nfault names ≠ 0 then .error (nfault names) else pfrom (if path.head? = some 47 then [] else names) path

theorem parts_ne (l : Byt) : parts l ≠ [] := by
  cases l with
  | nil => simp [parts]
  | cons b r =>
    simp only [parts]
    split
    · simp
    · split <;> simp

/-- bytes ahead of what parts there are -/
def glue (x : Byt) : List Byt → List Byt
  | [] => [x]
  | p :: q => (x ++ p) :: q
theorem glue_nil (l : Byt) : glue [] (parts l) = parts l := by
  rcases h : parts l with _ | ⟨p, q⟩
  · exact absurd h (parts_ne l)
  · rfl
theorem parts_cons (b : UInt8) (r : Byt) (h : b ≠ 47) : parts (b :: r) = glue [b] (parts r) := by
  simp only [parts, if_neg h]
  rcases hp : parts r with _ | ⟨p, q⟩
  · exact absurd hp (parts_ne r)
  · rfl
theorem parts_slash (r : Byt) : parts (47 :: r) = [] :: parts r := by simp [parts]
theorem glue_cons (x : Byt) (b : UInt8) (r : Byt) (h : b ≠ 47) : glue x (parts (b :: r)) = glue (x ++ [b]) (parts r) := by
  rw [parts_cons b r h]
  rcases hp : parts r with _ | ⟨p, q⟩
  · exact absurd hp (parts_ne r)
  · simp [glue]
theorem glue_slash (x : Byt) (r : Byt) : glue x (parts (47 :: r)) = x :: parts r := by rw [parts_slash]; simp [glue]
theorem glue_end (x : Byt) : glue x (parts []) = [x] := by simp [parts, glue]
theorem parts_free : ∀ (x : Byt), (∀ b ∈ x, b ≠ 47) → parts x = [x]
  | [], _ => rfl
  | b :: r, h => by rw [parts_cons b r (h b (by simp)), parts_free r fun c hc => h c (by simp [hc])]; rfl
theorem glue_free (y : Byt) : ∀ (x : Byt) (r : Byt), (∀ b ∈ x, b ≠ 47) → glue y (parts (x ++ r)) = glue (y ++ x) (parts r)
  | [], r, _ => by simp
  | b :: t, r, h => by
    rw [List.cons_append, glue_cons y b _ (h b (by simp)), glue_free (y ++ [b]) t r fun c hc => h c (by simp [hc])]
    simp
theorem parts_cut (x r : Byt) (h : ∀ b ∈ x, b ≠ 47) : parts (x ++ 47 :: r) = x :: parts r := by
  rw [← glue_nil, glue_free [] x _ h, glue_slash]; rfl
theorem parts_app : ∀ (p q : Byt), parts (p ++ 47 :: q) = parts p ++ parts q
  | [], q => by rw [List.nil_append, parts_slash]; rfl
  | b :: r, q => by
    have ih := parts_app r q
    by_cases h : b = 47
    · subst h; rw [List.cons_append, parts_slash, parts_slash, ih]; rfl
    · rw [List.cons_append, parts_cons b _ h, parts_cons b _ h, ih]
      rcases hp : parts r with _ | ⟨x, y⟩
      · exact absurd hp (parts_ne r)
      · rfl

theorem pfold_app : ∀ (ps qs : List Byt) (out : List Byt), pfold out (ps ++ qs) = match pfold out ps with | .ok o => pfold o qs | .error e => .error e
  | [], qs, out => rfl
  | p :: r, qs, out => by
    simp only [List.cons_append, pfold]
    rcases pstep out p with e | o
    · rfl
    · exact pfold_app r qs o
theorem pfold_ok {ps qs : List Byt} {out o : List Byt} (h : pfold out ps = .ok o) : pfold out (ps ++ qs) = pfold o qs := by rw [pfold_app, h]
theorem pfold_err {ps qs : List Byt} {out : List Byt} {e : Int} (h : pfold out ps = .error e) : pfold out (ps ++ qs) = .error e := by rw [pfold_app, h]
theorem pfold_one (out : List Byt) (p : Byt) : pfold out [p] = pstep out p := by
  simp only [pfold]
  rcases pstep out p <;> rfl

theorem nameB_is {l : Byt} : nameB l = true ↔ l ≠ [] ∧ l.length ≤ 16 ∧ l ≠ [46] ∧ l ≠ [46, 46] ∧ ∀ b ∈ l, b ≠ 0 ∧ b ≠ 47 := by
  simp [nameB, List.all_eq_true]
theorem pstep_name {out : List Byt} {p : Byt} (h : nameB p = true) (hl : out.length < 12) : pstep out p = .ok (out ++ [p]) := by
  obtain ⟨h1, h2, h3, h4, h5⟩ := nameB_is.1 h
  unfold pstep
  rw [if_neg h4, if_neg (by simp [h1, h3]), if_neg (by rw [h]; decide), if_neg (by omega)]
/-- the names there are never more than there may be, and names they are -/
def Clean_ (l : List Byt) : Prop := l.length ≤ 12 ∧ ∀ x ∈ l, nameB x = true
theorem pstep_clean {out o : List Byt} {p : Byt} (h : Clean_ out) (hs : pstep out p = .ok o) : Clean_ o := by
  unfold pstep at hs
  split at hs
  · injection hs with hs; subst hs
    exact ⟨by have := h.1; simp; omega, fun x hx => h.2 x (List.dropLast_subset _ hx)⟩
  · split at hs
    · injection hs with hs; subst hs; exact h
    · split at hs
      · cases hs
      · split at hs
        · cases hs
        · injection hs with hs; subst hs
          rename_i h1 h2 h3 h4
          refine ⟨by simp; omega, fun x hx => ?_⟩
          rcases List.mem_append.1 hx with g | g
          · exact h.2 x g
          · simp at g; subst g
            simpa using h3
theorem pfold_clean : ∀ (ps : List Byt) (out o : List Byt), Clean_ out → pfold out ps = .ok o → Clean_ o
  | [], out, o, h, hs => by injection hs with hs; subst hs; exact h
  | p :: r, out, o, h, hs => by
    simp only [pfold] at hs
    rcases hp : pstep out p with e | o'
    · rw [hp] at hs; cases hs
    · rw [hp] at hs; exact pfold_clean r o' o (pstep_clean h hp) hs
theorem pfrom_clean {from_ o : List Byt} {path : Byt} (h : Clean_ from_) (hs : pfrom from_ path = .ok o) : Clean_ o := by
  unfold pfrom at hs
  split at hs
  · cases hs
  · exact pfold_clean _ _ _ h hs
theorem clean_nil : Clean_ [] := ⟨by simp, by simp⟩
theorem nfault_clean {l : List Byt} (h : Clean_ l) : nfault l = 0 := by
  unfold nfault
  rw [if_neg (by have := h.1; omega), if_pos (List.all_eq_true.2 h.2)]
theorem nfault_zero {l : List Byt} (h : nfault l = 0) : Clean_ l := by
  unfold nfault at h
  split at h
  · cases h
  · split at h
    · rename_i h1 h2
      exact ⟨by omega, List.all_eq_true.1 h2⟩
    · cases h
theorem nfault_is (l : List Byt) : nfault l = 0 ∨ nfault l = 4 ∨ nfault l = 9 := by
  unfold nfault
  split
  · simp
  · split <;> simp

/-- the parts of the path of names -/
theorem parts_joinP : ∀ (l : List Byt), (∀ x ∈ l, nameB x = true) → l ≠ [] → parts (joinP l) = [] :: l
  | [], _, h => absurd rfl h
  | [x], h, _ => by
    have hx := (nameB_is.1 (h x (by simp))).2.2.2.2
    show parts (47 :: (x ++ [])) = _
    rw [List.append_nil, parts_slash, parts_free x fun b hb => (hx b hb).2]
  | x :: y :: r, h, _ => by
    have hx := (nameB_is.1 (h x (by simp))).2.2.2.2
    have ih := parts_joinP (y :: r) (fun z hz => h z (by simp [hz])) (by simp)
    show parts (47 :: (x ++ joinP (y :: r))) = _
    rw [parts_slash]
    have e : joinP (y :: r) = 47 :: (y ++ joinP r) := rfl
    have e2 := parts_cut x (y ++ joinP r) fun b hb => (hx b hb).2
    rw [e, e2]
    rw [e, parts_slash] at ih
    injection ih with _ ih
    rw [ih]
theorem pfold_names : ∀ (l out : List Byt), (∀ x ∈ l, nameB x = true) → out.length + l.length ≤ 12 → pfold out l = .ok (out ++ l)
  | [], out, _, _ => by simp [pfold]
  | x :: r, out, h, hl => by
    simp only [List.length_cons] at hl
    simp only [pfold]
    rw [pstep_name (h x (by simp)) (by omega)]
    show pfold (out ++ [x]) r = _
    rw [pfold_names r (out ++ [x]) (fun z hz => h z (by simp [hz])) (by simp; omega)]
    simp
theorem pstep_empty (out : List Byt) : pstep out [] = .ok out := by simp [pstep]
theorem pfold_empty (out : List Byt) (r : List Byt) : pfold out ([] :: r) = pfold out r := by simp only [pfold, pstep_empty]
/-- what is clean stays as it is -/
theorem clean_join {l : List Byt} (h : Clean_ l) (hs : (joinN l).length ≤ 200) : pfrom [] (joinN l) = .ok l := by
  unfold pfrom
  rw [if_neg (by omega)]
  by_cases h0 : l = []
  · subst h0
    show pfold [] (parts [47]) = _
    rw [parts_slash, pfold_empty, show parts [] = [[]] from rfl, pfold_empty]; rfl
  · rw [joinN, if_neg h0, parts_joinP l h.2 h0, pfold_empty, pfold_names l [] h.2 (by have := h.1; simp; omega)]; rfl
theorem joinP_len : ∀ (l : List Byt), (∀ x ∈ l, nameB x = true) → (joinP l).length ≤ 17 * l.length
  | [], _ => by simp [joinP]
  | x :: r, h => by
    have hx := (nameB_is.1 (h x (by simp))).2.1
    have ih := joinP_len r fun z hz => h z (by simp [hz])
    simp only [joinP, List.length_cons, List.length_append]
    omega
theorem joinN_len {l : List Byt} (h : Clean_ l) : (joinN l).length ≤ 204 := by
  unfold joinN
  split
  · simp
  · have := joinP_len l h.2; have := h.1; omega
theorem joinN_head (l : List Byt) : ∃ r, joinN l = 47 :: r := by
  unfold joinN
  split
  · exact ⟨[], rfl⟩
  · rcases l with _ | ⟨x, r⟩
    · contradiction
    · exact ⟨_, rfl⟩
end Go.Proofs.Ytmcgjkhbljdddaa
