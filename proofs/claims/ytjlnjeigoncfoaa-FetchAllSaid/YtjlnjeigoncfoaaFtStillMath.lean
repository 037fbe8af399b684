/-
  What is not asked for changes nothing: in plain words (nothing of the program).
-/
import Derived.Test.YtjlnjeigoncfoaaFtMath
namespace Go.Proofs.Ytjlnjeigoncfoaa
set_option linter.unusedVariables false
set_option linter.unusedSimpArgs false

/-- wants that are whole begin at whole places -/
structure Inv100 (s : Fs) : Prop where
  out : ∀ w ∈ s.out, w.2 = 100 → w.1 % 100 = 0
  front : s.front % 100 = 0
theorem inv0 : Inv100 fs0 := ⟨(fun w hw => by cases hw), rfl⟩
theorem Inv100.one {s : Fs} (h : Inv100 s) : Inv100 (askOne s) := by
  refine ⟨fun w hw h2 => ?_, ?_⟩
  · simp [askOne] at hw
    rcases hw with hw | rfl
    · exact h.out w hw h2
    · exact h.front
  · have := h.front; simp only [askOne]; omega
theorem invN (n : Nat) : ∀ s, Inv100 s → Inv100 (askOnN n s) := by
  induction n with
  | zero => intro s h; exact h
  | succ n ih =>
    intro s h
    unfold askOnN
    split
    · exact ih _ h.one
    · exact h
theorem Inv100.on {s : Fs} (h : Inv100 s) : Inv100 (askOn s) := invN 6 s h
theorem Inv100.got {s : Fs} (h : Inv100 s) (hs : FsOk s) (g : Gt) (hg : (g.at_, g.cnt) ∈ s.out) : Inv100 (gotT g s) := by
  have hc := (hs.wants _ hg).2.2.1
  simp only at hc
  have hw : ∀ w ∈ s.out.erase (g.at_, g.cnt), w.2 = 100 → w.1 % 100 = 0 := fun w hw => h.out w (List.mem_of_mem_erase hw)
  unfold gotT
  simp only
  split
  · unfold stopT
    split <;> exact ⟨hw, h.front⟩
  · split
    · refine ⟨fun w hw2 h2 => ?_, h.front⟩
      simp [askT] at hw2
      rcases hw2 with hw2 | rfl
      · exact hw w hw2 h2
      · simp only at h2; omega
    · exact ⟨hw, h.front⟩
theorem Inv100.take {s : Fs} (h : Inv100 s) (hs : FsOk s) (g : Gt) : Inv100 (takeG s g).2 := by
  unfold takeG
  split
  · rename_i hg
    split
    · exact h
    · exact (h.got hs g hg).on
  · exact h
theorem take_code {s : Fs} {g : Gt} (h : (takeG s g).1.code ≠ 0) : (takeG s g).2 = s := by
  unfold takeG at h ⊢
  split at h
  · rename_i hg
    rw [if_pos hg]
    split at h
    · rename_i hn; rw [if_pos hn]
    · exact absurd rfl h
  · rename_i hg; rw [if_neg hg]
/-- a Got of what was never asked for -/
def oddK (z : Int) : Gt := { at_ := 1 + z % 99, cnt := 100, data := [] }
def noneX : Nx := { code := 7, wants := [], done := false, data := [] }
theorem odd_take {s : Fs} (h : Inv100 s) (z : Int) : takeG s (oddK z) = (noneX, s) := by
  unfold takeG
  rw [if_neg]; rfl
  intro hm
  have := h.out _ hm rfl
  simp only [oddK] at this
  omega
def mixB : Fs → List (Gt × Option Gt) → List Gt
  | _, [] => []
  | s, (g, o) :: t => (if (takeG s g).1.code = 0 then [g] else []) ++ o.toList ++ mixB (takeG s g).2 t
def mixW : Fs → List (Gt × Option Gt) → List Nx
  | _, [] => []
  | s, (g, o) :: t => (if (takeG s g).1.code = 0 then [(takeG s g).1] else []) ++ (o.map fun _ => noneX).toList ++ mixW (takeG s g).2 t
theorem mix_fold : ∀ (ps : List (Gt × Option Gt)) (s : Fs), Inv100 s → FsOk s → (∀ p ∈ ps, ∀ o, p.2 = some o → ∃ z, o = oddK z) → fold s (mixB s ps) = (mixW s ps, (fold s (ps.map Prod.fst)).2) := by
  intro ps
  induction ps with
  | nil => intro s _ _ _; rfl
  | cons p t ih =>
    intro s hi hs ho
    obtain ⟨g, o⟩ := p
    have ih' := ih (takeG s g).2 (hi.take hs g) (hs.take g) (fun p hp => ho p (List.mem_cons_of_mem _ hp))
    have hodd : ∀ (s : Fs), Inv100 s → fold s o.toList = ((o.map fun _ => noneX).toList, s) := by
      intro s hi
      rcases o with _ | o
      · rfl
      · obtain ⟨z, rfl⟩ := ho (g, some o) (List.mem_cons_self ..) o rfl
        simp [fold, odd_take hi]
    have hf : fold s (if (takeG s g).1.code = 0 then [g] else []) = ((if (takeG s g).1.code = 0 then [(takeG s g).1] else []), (takeG s g).2) := by
      by_cases hc : (takeG s g).1.code = 0
      · rw [if_pos hc, if_pos hc]; rfl
      · rw [if_neg hc, if_neg hc, take_code hc]; rfl
    unfold mixB mixW
    rw [List.append_assoc, fold_app, hf]
    simp only
    rw [fold_app, hodd _ (hi.take hs g)]
    simp only
    rw [ih', List.append_assoc]
    rfl
/-- each of as with the odd one behind it, if there is one -/
def zipO : List Gt → List Int → List (Gt × Option Gt)
  | [], _ => []
  | g :: t, [] => (g, none) :: zipO t []
  | g :: t, z :: r => (g, some (oddK z)) :: zipO t r
theorem zipO_fst : ∀ (l : List Gt) (r : List Int), (zipO l r).map Prod.fst = l
  | [], _ => rfl
  | g :: t, [] => by simp [zipO, zipO_fst t []]
  | g :: t, z :: r => by simp [zipO, zipO_fst t r]
theorem zipO_get : ∀ (l : List Gt) (r : List Int) (k : Nat) (g : Gt), l[k]? = some g → (zipO l r)[k]? = some (g, (r[k]?).map oddK)
  | [], _, k, g, h => by simp at h
  | x :: t, [], 0, g, h => by simp at h; subst h; rfl
  | x :: t, z :: r, 0, g, h => by simp at h; subst h; rfl
  | x :: t, [], k + 1, g, h => by
    have := zipO_get t [] k g (by simpa using h)
    simpa [zipO] using this
  | x :: t, z :: r, k + 1, g, h => by
    have := zipO_get t r k g (by simpa using h)
    simpa [zipO] using this
theorem zipO_odd : ∀ (l : List Gt) (r : List Int), ∀ p ∈ zipO l r, ∀ o, p.2 = some o → ∃ z, o = oddK z
  | [], _, p, hp, _, _ => by cases hp
  | g :: t, [], p, hp, o, ho => by
    rcases List.mem_cons.1 hp with rfl | hp
    · cases ho
    · exact zipO_odd t [] p hp o ho
  | g :: t, z :: r, p, hp, o, ho => by
    rcases List.mem_cons.1 hp with rfl | hp
    · injection ho with ho; exact ⟨z, ho.symm⟩
    · exact zipO_odd t r p hp o ho
theorem mixB_app : ∀ (ps qs : List (Gt × Option Gt)) (s : Fs), mixB s (ps ++ qs) = mixB s ps ++ mixB (fold s (ps.map Prod.fst)).2 qs
  | [], qs, s => rfl
  | (g, o) :: t, qs, s => by simp [mixB, fold, mixB_app t qs]
theorem mixW_app : ∀ (ps qs : List (Gt × Option Gt)) (s : Fs), mixW s (ps ++ qs) = mixW s ps ++ mixW (fold s (ps.map Prod.fst)).2 qs
  | [], qs, s => rfl
  | (g, o) :: t, qs, s => by simp [mixW, fold, mixW_app t qs]
theorem mix_snoc {ps : List (Gt × Option Gt)} {k : Nat} {g : Gt} {o : Option Gt} (h : ps[k]? = some (g, o)) (s : Fs) :
    mixB s (ps.take (k + 1)) = mixB s (ps.take k) ++ ((if (takeG (fold s ((ps.map Prod.fst).take k)).2 g).1.code = 0 then [g] else []) ++ o.toList) ∧
    mixW s (ps.take (k + 1)) = mixW s (ps.take k) ++ ((if (takeG (fold s ((ps.map Prod.fst).take k)).2 g).1.code = 0 then [(takeG (fold s ((ps.map Prod.fst).take k)).2 g).1] else []) ++ (o.map fun _ => noneX).toList) := by
  have e : ps.take (k + 1) = ps.take k ++ [(g, o)] := by rw [List.take_add_one, h]; rfl
  rw [e, mixB_app, mixW_app, List.map_take]
  simp [mixB, mixW]
theorem mix_len : ∀ (ps : List (Gt × Option Gt)) (s : Fs), (mixB s ps).length ≤ 2 * ps.length ∧ (mixW s ps).length = (mixB s ps).length
  | [], s => by simp [mixB, mixW]
  | (g, o) :: t, s => by
    have := mix_len t (takeG s g).2
    unfold mixB mixW
    simp only [List.length_append, List.length_cons]
    have h1 : o.toList.length ≤ 1 := by cases o <;> simp
    have h2 : ((o.map fun _ => noneX).toList).length = o.toList.length := by cases o <;> simp
    split <;> simp <;> omega
/-- a chunk of a file, asked for whole -/
def gk (file : List Int) (o : Nat) : Gt := { at_ := ((o * 100 : Nat) : Int), cnt := 100, data := (file.drop (o * 100)).take 100 }
theorem first_six : (nextT 0 fs0).1.wants.length = 6 := by
  have h : (askOn fs0).out.length = 6 := by
    unfold askOn
    simp only [askOnN, mayOn, askOne, fs0]
    rfl
  show ((askOn fs0).out.drop 0).length = 6
  rw [List.drop_zero]; exact h

end Go.Proofs.Ytjlnjeigoncfoaa
