/-
  Mathematics of who hears: what each arrival comes to.
-/
import Derived.Test.YtehckiihipnimaaHoleMath
import Derived.Test.YtehckiihipnimaaSackMath
import Derived.Lib.Hide
namespace Go.Proofs.Ytehckiihipnimaa
set_option linter.unusedVariables false

/-- an arrival -/
structure Ar where
  kind : Int
  at_ : Int
  data : List Int
  fin : Bool
  count : Int
/-- what an arrival came to -/
structure Tl where
  code : Int
  ack : Int
  win : Int
  sacks : List Rg
  data : List Int
  stop : Bool
/-- who hears -/
structure Hr where
  room : Int
  data : List Int
  dn : Int
  bt : List Rg
  taken : Int
  ended : Bool
  stop : Int

def hr0 (room : Int) : Hr := ⟨room, [], 0, [], 0, false, 0⟩
def hasB (p : Int) (r : Rg) : Bool := decide (r.1 ≤ p) && decide (p < r.2)
def cameB (d : Int) (l : List Rg) (p : Int) : Bool := decide (p < d) || l.any (hasB p)
theorem cameB_iff {d : Int} {l : List Rg} {p : Int} : cameB d l p = true ↔ Came d l p := by
  unfold cameB hasB Came inR
  simp only [Bool.or_eq_true, decide_eq_true_eq, List.any_eq_true, Bool.and_eq_true]
theorem cameB_not {d : Int} {l : List Rg} {p : Int} : cameB d l p = false ↔ ¬ Came d l p := by
  rw [← cameB_iff]; cases cameB d l p <;> simp
/-- room for places ahead of 'to' -/
def growTo (data : List Int) (to : Int) : List Int := data ++ List.replicate (to - data.length).toNat 0
/-- the first k of these bytes stand at these places, but where one came -/
def kept (d : Int) (l : List Rg) (at_ : Int) (bs base : List Int) : Nat → List Int
  | 0 => base
  | k + 1 => if cameB d l (at_ + k) = true then kept d l at_ bs base k else (kept d l at_ bs base k).set (at_ + k).toNat (bs.getD k 0)
/-- what fits -/
def fits (s : Hr) (a : Ar) : Rg := (min a.at_ (s.taken + s.room), min (a.at_ + a.data.length) (s.taken + s.room))
/-- who hears behind an arrival that is not refused -/
def putR (s : Hr) (a : Ar) (r : Rg) : Hr :=
  { s with data := kept s.dn s.bt r.1 a.data (growTo s.data r.2) (r.2 - r.1).toNat, dn := addD s.dn s.bt r, bt := addL s.dn s.bt r, ended := s.ended || a.fin, stop := if a.fin then a.at_ + a.data.length else s.stop }
def arrive (s : Hr) (a : Ar) : Int × Hr :=
  if a.at_ < 0 ∨ 1048576 - (a.data.length : Int) ≤ a.at_ then (2, s)
  else if 64 < a.data.length then (1, s)
  else if s.ended = true ∧ (s.stop < a.at_ + a.data.length ∨ a.fin = true ∧ a.at_ + a.data.length ≠ s.stop) then (10, s)
  else if a.fin = true ∧ (a.at_ + a.data.length < s.dn ∨ ∃ r ∈ s.bt, a.at_ + a.data.length < r.2) then (10, s)
  else if 16 < (addL s.dn s.bt (fits s a)).length then (9, s)
  else (0, putR s a (fits s a))
/-- up to where a take goes -/
def takeTo (s : Hr) (count : Int) : Int := min s.dn (s.taken + count)
def takes (s : Hr) (count : Int) : (Int × List Int × Bool) × Hr :=
  if count < 0 ∨ 4096 < count then ((2, [], false), s)
  else ((0, (s.data.drop s.taken.toNat).take (takeTo s count - s.taken).toNat, s.ended && decide (takeTo s count = s.stop)), { s with taken := takeTo s count })
def hearR (s : Hr) (a : Ar) : (Int × List Int × Bool) × Hr :=
  if a.kind = 1 then (((arrive s a).1, [], false), (arrive s a).2) else if a.kind = 2 then takes s a.count else ((3, [], false), s)
def lastOf (a : Ar) : Int := if a.kind = 1 then a.at_ else -1
def ackOf (s : Hr) : Int := if s.ended = true ∧ s.dn = s.stop then s.dn + 1 else s.dn
def hear (s : Hr) (a : Ar) : Tl × Hr :=
  (⟨(hearR s a).1.1, ackOf (hearR s a).2, (hearR s a).2.taken + (hearR s a).2.room - (hearR s a).2.dn, (sackAll (lastOf a) (hearR s a).2.bt).take 3, (hearR s a).1.2.1, (hearR s a).1.2.2⟩, (hearR s a).2)
def hrs : Hr → List Ar → Hr
  | s, [] => s
  | s, a :: t => hrs (hear s a).2 t
def heard : Hr → List Ar → List Tl
  | _, [] => []
  | s, a :: t => (hear s a).1 :: heard (hear s a).2 t

/-- what holds of who hears, whatever came -/
structure HrOk (s : Hr) : Prop where
  r1 : 1 ≤ s.room
  r2 : s.room ≤ 4096
  may : mayB s.dn s.bt = true
  t0 : 0 ≤ s.taken
  t1 : s.taken ≤ s.dn
  d1 : s.dn ≤ s.taken + s.room
  d2 : ∀ x ∈ s.bt, x.2 ≤ s.taken + s.room
  l1 : s.dn ≤ s.data.length
  l2 : ∀ x ∈ s.bt, x.2 ≤ (s.data.length : Int)
  l3 : s.data.length ≤ 1048576
  l4 : (s.data.length : Int) ≤ s.taken + s.room
  e0 : 0 ≤ s.stop
  e1 : s.stop ≤ 1048576
  e2 : s.ended = true → s.dn ≤ s.stop ∧ ∀ x ∈ s.bt, x.2 ≤ s.stop

theorem hr0_ok {r : Int} (h1 : 1 ≤ r) (h2 : r ≤ 4096) : HrOk (hr0 r) :=
  ⟨h1, h2, by simp [hr0, mayB, okB], by simp [hr0], by simp [hr0], by simp [hr0]; omega, by simp [hr0], by simp [hr0], by simp [hr0], by simp [hr0], by simp [hr0]; omega, by simp [hr0], by simp [hr0], by simp [hr0]⟩
theorem hmay_parts {d : Int} {l : List Rg} (h : mayB d l = true) : 0 ≤ d ∧ d ≤ 1048576 ∧ l.length ≤ 16 ∧ Ch d l ∧ (∀ x ∈ l, x.2 ≤ 1048576) ∧ okB d l = true := by
  simp only [mayB, Bool.and_eq_true, decide_eq_true_eq] at h
  obtain ⟨h1, h2, h3, h4⟩ := h
  obtain ⟨h5, h6⟩ := okB_ch l d h4
  exact ⟨h1, h2, h3, h5, h6, h4⟩
theorem growTo_len (data : List Int) (to : Int) (h : 0 ≤ to) : ((growTo data to).length : Int) = max (data.length : Int) to := by
  unfold growTo; rw [List.length_append, List.length_replicate]; omega
theorem kept_len (d : Int) (l : List Rg) (at_ : Int) (bs base : List Int) : ∀ k, (kept d l at_ bs base k).length = base.length
  | 0 => rfl
  | k + 1 => by
    unfold kept
    split
    · exact kept_len d l at_ bs base k
    · rw [List.length_set]; exact kept_len d l at_ bs base k
/-- what stands at a place -/
theorem kept_get (d : Int) (l : List Rg) (at_ : Int) (bs base : List Int) (h0 : 0 ≤ at_) : ∀ (k : Nat) (n : Nat), (kept d l at_ bs base k).getD n 0 = if at_ ≤ n ∧ (n : Int) < at_ + k ∧ cameB d l n = false ∧ n < base.length then bs.getD ((n : Int) - at_).toNat 0 else base.getD n 0
  | 0, n => by rw [if_neg (by omega)]; rfl
  | k + 1, n => by
    have ih := kept_get d l at_ bs base h0 k n
    unfold kept
    split
    · rename_i hc
      rw [ih]
      by_cases g : (n : Int) = at_ + k
      · rw [if_neg (by omega), if_neg (fun q => by rw [g, hc] at q; cases q.2.2.1)]
      · by_cases q : at_ ≤ n ∧ (n : Int) < at_ + k ∧ cameB d l n = false ∧ n < base.length
        · rw [if_pos q, if_pos ⟨q.1, by omega, q.2.2.1, q.2.2.2⟩]
        · rw [if_neg q, if_neg (fun q2 => q ⟨q2.1, by omega, q2.2.2.1, q2.2.2.2⟩)]
    · rename_i hc
      rw [List.getD_eq_getElem?_getD, List.getElem?_set]
      by_cases g : (at_ + k).toNat = n
      · rw [if_pos g, kept_len]
        have e : (n : Int) = at_ + k := by omega
        by_cases q : (at_ + k).toNat < base.length
        · rw [if_pos q, if_pos ⟨by omega, by omega, by rw [e]; simpa using hc, by omega⟩, e, show (at_ + (k : Int) - at_).toNat = k by omega]
          simp
        · rw [if_neg q, if_neg (by omega), List.getD_eq_getElem?_getD, List.getElem?_eq_none (by omega)]
      · rw [if_neg g, ← List.getD_eq_getElem?_getD, ih]
        by_cases q : at_ ≤ n ∧ (n : Int) < at_ + k ∧ cameB d l n = false ∧ n < base.length
        · rw [if_pos q, if_pos ⟨q.1, by omega, q.2.2.1, q.2.2.2⟩]
        · rw [if_neg q, if_neg (fun q2 => q ⟨q2.1, by omega, q2.2.2.1, q2.2.2.2⟩)]
theorem growTo_get (data : List Int) (to : Int) (n : Nat) : (growTo data to).getD n 0 = data.getD n 0 := by
  unfold growTo
  rw [List.getD_eq_getElem?_getD, List.getD_eq_getElem?_getD, List.getElem?_append]
  split
  · rfl
  · rename_i g
    rw [List.getElem?_replicate, List.getElem?_eq_none (by omega)]
    split <;> rfl
/-- no place beyond a bound comes by one range more -/
theorem add_top {d : Int} {l : List Rg} {r : Rg} (h : mayB d l = true) (r0 : 0 ≤ r.1) (r1 : r.1 ≤ r.2) (r2 : r.2 ≤ 1048576) (b : Int) (hd : d ≤ b) (hl : ∀ x ∈ l, x.2 ≤ b) (hr : r.1 < r.2 → r.2 ≤ b) : addD d l r ≤ b ∧ ∀ x ∈ addL d l r, x.2 ≤ b := by
  obtain ⟨m1, m2, m3, m4, m5, m6⟩ := hmay_parts h
  obtain ⟨g1, g2, g3, g4⟩ := add_good d l r m1 m2 m6 r0 r1 r2
  obtain ⟨k1, k2⟩ := okB_ch _ _ g3
  have no : ∀ n, b ≤ n → ¬ Came (addD d l r) (addL d l r) n := fun n hn hc => by
    rcases (g4 n).1 hc with (q | ⟨x, hx, q1, q2⟩) | q
    · omega
    · have := hl x hx; omega
    · have := hr (by omega); omega
  refine ⟨?_, fun x hx => ?_⟩
  · rcases Int.lt_or_le b (addD d l r) with q | q
    · exact absurd (.inl q) (no b (Int.le_refl _))
    · exact q
  · rcases Int.lt_or_le b x.2 with q | q
    · exact absurd (.inr ⟨x, hx, by have := ch_lo _ _ k1 x hx; omega, by omega⟩) (no (x.2 - 1) (by omega))
    · exact q
theorem fits_bd {s : Hr} (h : HrOk s) {a : Ar} (h1 : ¬ (a.at_ < 0 ∨ 1048576 - (a.data.length : Int) ≤ a.at_)) : 0 ≤ (fits s a).1 ∧ (fits s a).1 ≤ (fits s a).2 ∧ (fits s a).2 ≤ 1048575 ∧ (fits s a).2 ≤ s.taken + s.room ∧ (fits s a).2 ≤ a.at_ + a.data.length ∧ ((fits s a).1 < (fits s a).2 → (fits s a).1 = a.at_) := by
  have := h.t0; have := h.r1
  unfold fits
  simp only
  omega

theorem putR_ok {s : Hr} (h : HrOk s) (a : Ar) (h1 : ¬ (a.at_ < 0 ∨ 1048576 - (a.data.length : Int) ≤ a.at_)) (h2 : ¬ (s.ended = true ∧ (s.stop < a.at_ + a.data.length ∨ a.fin = true ∧ a.at_ + a.data.length ≠ s.stop)))
    (h3 : ¬ (a.fin = true ∧ (a.at_ + a.data.length < s.dn ∨ ∃ r ∈ s.bt, a.at_ + a.data.length < r.2))) (h4 : ¬ 16 < (addL s.dn s.bt (fits s a)).length) : HrOk (putR s a (fits s a)) := by
  obtain ⟨f1, f2, f3, f4, f5, f6⟩ := fits_bd h h1
  obtain ⟨r, hr⟩ : ∃ r, r = fits s a := ⟨_, rfl⟩
  rw [← hr] at f1 f2 f3 f4 f5 f6 h4 ⊢
  obtain ⟨m1, m2, m3, m4, m5, m6⟩ := hmay_parts h.may
  obtain ⟨g1, g2, g3, g4⟩ := add_good s.dn s.bt r m1 m2 m6 f1 f2 (by omega)
  have hl := growTo_len s.data r.2 (by omega)
  have hk : ((kept s.dn s.bt r.1 a.data (growTo s.data r.2) (r.2 - r.1).toNat).length : Int) = max (s.data.length : Int) r.2 := by rw [kept_len, hl]
  have t1 := add_top h.may f1 f2 (by omega) (s.taken + s.room) h.d1 h.d2 (fun _ => f4)
  have t2 := add_top h.may f1 f2 (by omega) (max (s.data.length : Int) r.2) (by have := h.l1; omega) (fun x hx => by have := h.l2 x hx; omega) (fun _ => by omega)
  have hl3 := h.l3; have hl4 := h.l4; have he0 := h.e0; have he1 := h.e1; have ht1 := h.t1
  refine ⟨h.r1, h.r2, ?_, h.t0, by show s.taken ≤ addD s.dn s.bt r; omega, t1.1, t1.2, ?_, ?_, ?_, ?_, ?_, ?_, ?_⟩
  · show mayB (addD s.dn s.bt r) (addL s.dn s.bt r) = true
    simp only [mayB, Bool.and_eq_true, decide_eq_true_eq]
    exact ⟨by omega, g2, by omega, g3⟩
  · show addD s.dn s.bt r ≤ ((kept s.dn s.bt r.1 a.data (growTo s.data r.2) (r.2 - r.1).toNat).length : Int)
    rw [hk]; exact t2.1
  · show ∀ x ∈ addL s.dn s.bt r, x.2 ≤ ((kept s.dn s.bt r.1 a.data (growTo s.data r.2) (r.2 - r.1).toNat).length : Int)
    rw [hk]; exact t2.2
  · show (kept s.dn s.bt r.1 a.data (growTo s.data r.2) (r.2 - r.1).toNat).length ≤ 1048576
    omega
  · show ((kept s.dn s.bt r.1 a.data (growTo s.data r.2) (r.2 - r.1).toNat).length : Int) ≤ s.taken + s.room
    rw [hk]; omega
  · show 0 ≤ (if a.fin then a.at_ + a.data.length else s.stop)
    split <;> omega
  · show (if a.fin then a.at_ + a.data.length else s.stop) ≤ 1048576
    split <;> omega
  · show (s.ended || a.fin) = true → addD s.dn s.bt r ≤ (if a.fin then a.at_ + a.data.length else s.stop) ∧ ∀ x ∈ addL s.dn s.bt r, x.2 ≤ (if a.fin then a.at_ + a.data.length else s.stop)
    intro he
    rcases hf : a.fin with _ | _
    · rw [hf, Bool.or_false] at he
      obtain ⟨q1, q2⟩ := h.e2 he
      have : ¬ s.stop < a.at_ + a.data.length := fun g => h2 ⟨he, .inl g⟩
      exact add_top h.may f1 f2 (by omega) _ (by simpa using q1) (by simpa using q2) (fun _ => by simp; omega)
    · refine add_top h.may f1 f2 (by omega) _ ?_ (fun x hx => ?_) (fun _ => by simp; omega)
      · have : ¬ a.at_ + a.data.length < s.dn := fun g => h3 ⟨hf, .inl g⟩
        simp; omega
      · have : ¬ a.at_ + a.data.length < x.2 := fun g => h3 ⟨hf, .inr ⟨x, hx, g⟩⟩
        simp; omega
theorem arrive_ok {s : Hr} (h : HrOk s) (a : Ar) : HrOk (arrive s a).2 := by
  unfold arrive
  split
  · exact h
  · rename_i h1
    split
    · exact h
    · split
      · exact h
      · rename_i h2
        split
        · exact h
        · rename_i h3
          split
          · exact h
          · rename_i h4
            exact putR_ok h a h1 h2 h3 h4
theorem takes_ok {s : Hr} (h : HrOk s) (c : Int) : HrOk (takes s c).2 := by
  unfold takes
  split
  · exact h
  · have h1 := h.t0; have h2 := h.t1; have h3 := h.d1; have h4 := h.r1; have h5 := h.l4
    have : s.taken ≤ takeTo s c ∧ takeTo s c ≤ s.dn := by unfold takeTo; omega
    exact ⟨h.r1, h.r2, h.may, by simp only; omega, by simp only; omega, by simp only; omega, fun x hx => by have := h.d2 x hx; simp only; omega, h.l1, h.l2, h.l3, by simp only; omega, h.e0, h.e1, h.e2⟩
theorem hear_ok {s : Hr} (h : HrOk s) (a : Ar) : HrOk (hear s a).2 := by
  show HrOk (hearR s a).2
  unfold hearR
  split
  · exact arrive_ok h a
  · split
    · exact takes_ok h _
    · exact h
theorem hrs_ok : ∀ {s : Hr} (l : List Ar), HrOk s → HrOk (hrs s l)
  | s, [], h => h
  | s, a :: t, h => hrs_ok t (hear_ok h a)
theorem heard_len : ∀ (s : Hr) (l : List Ar), (heard s l).length = l.length
  | _, [] => rfl
  | s, a :: t => by simp [heard, heard_len _ t]
theorem hrs_app (s : Hr) (l m : List Ar) : hrs s (l ++ m) = hrs (hrs s l) m := by
  induction l generalizing s with
  | nil => rfl
  | cons d t ih => exact ih _
theorem heard_app (s : Hr) (l m : List Ar) : heard s (l ++ m) = heard s l ++ heard (hrs s l) m := by
  induction l generalizing s with
  | nil => rfl
  | cons d t ih => exact congrArg ((hear s d).1 :: ·) (ih _)
theorem heard_take (s : Hr) (l : List Ar) (k : Nat) (a : Ar) (h : l[k]? = some a) : heard s (l.take (k + 1)) = heard s (l.take k) ++ [(hear (hrs s (l.take k)) a).1] ∧ hrs s (l.take (k + 1)) = (hear (hrs s (l.take k)) a).2 := by
  rw [List.take_add_one, h]
  simp only [Option.toList_some]
  rw [heard_app, hrs_app]
  exact ⟨rfl, rfl⟩
theorem heard_get : ∀ (l : List Ar) (s : Hr) (k : Nat) (d : Ar), l[k]? = some d → (heard s l)[k]? = some (hear (hrs s (l.take k)) d).1
  | [], s, k, d, h => by simp at h
  | x :: t, s, 0, d, h => by simp at h; subst h; rfl
  | x :: t, s, k + 1, d, h => by
    have := heard_get t (hear s x).2 k d (by simpa using h)
    simpa [heard, hrs] using this
/-- few bytes are told at once -/
theorem hear_few {s : Hr} (h : HrOk s) (a : Ar) : (hear s a).1.data.length ≤ 4096 ∧ (hear s a).1.sacks.length ≤ 3 := by
  refine ⟨?_, by show ((sackAll _ _).take 3).length ≤ 3; rw [List.length_take]; omega⟩
  show (hearR s a).1.2.1.length ≤ 4096
  unfold hearR
  split
  · simp
  · split
    · unfold takes
      split
      · simp
      · show ((s.data.drop _).take _).length ≤ 4096
        have := h.t0; have := h.d1; have := h.r2
        rw [List.length_take]
        unfold takeTo
        omega
    · simp

end Go.Proofs.Ytehckiihipnimaa
