/-
  Mathematics of who sends: each deed as the program does it (left, submit, close, heard, timeout).
-/
import Derived.Test.YtehckiihipnimaaSendRel
namespace Go.Proofs.Ytehckiihipnimaa
set_option linter.unusedVariables false

theorem Rel.parts {s : Sd} {dn : Int} {bt : List Rg} {ag : Nat} (h : Rel s dn bt ag) (hok : SdOk s) : 0 ≤ dn ∧ dn ≤ s.sent ∧ Ch dn bt ∧ ∀ x ∈ bt, x.2 ≤ (s.sent : Int) := by
  obtain ⟨p1, p2, p3, p4, p5⟩ := may_parts h.may
  obtain ⟨q1, q2⟩ := setK_top h.set p1 p4
  have := hok.known
  exact ⟨p1, by omega, p4, fun x hx => by have := q2 x hx; omega⟩
theorem rel_left {s : Sd} {dn : Int} {bt : List Rg} {ag : Nat} (h : Rel s dn bt ag) (hok : SdOk s) : left s = (places s : Int) - dn - sumR bt := by
  obtain ⟨p1, p2, p3, p4⟩ := h.parts hok
  have := (count_all h.set p1 p3 p2 p4).1
  unfold left
  omega
/-- what does not speak of the places keeps Rel -/
theorem Rel.same {s s' : Sd} {dn : Int} {bt : List Rg} {ag : Nat} (h : Rel s dn bt ag) (hk : s'.known = s.known) (hs : s'.sent = s.sent) (ht : s'.todo = s.todo) : Rel s' dn bt ag :=
  ⟨h.may, by rw [hk]; exact h.set, by rw [hs]; exact h.a1, by rw [ht]; exact h.a2, by rw [ht, hk]; exact h.a3⟩
theorem rel_start (w : Int) : Rel (sd0 w) 0 [] 0 :=
  ⟨rfl, fun n => by simp [sd0, hd, Came, inR_nil], Nat.le_refl _, Nat.le_refl _, fun n _ h => absurd h (by omega)⟩
/-- what was sent is all heard of -/
theorem rel_all {s : Sd} {dn : Int} {bt : List Rg} {ag : Nat} (h : Rel s dn bt ag) (hok : SdOk s) : cnt s.known s.sent = s.sent ↔ dn = s.sent := by
  obtain ⟨p1, p2, p3, p4⟩ := h.parts hok
  constructor
  · intro hc
    by_cases e : dn = s.sent
    · exact e
    · exfalso
      have hall : ∀ m, cnt s.known m ≤ m := cnt_le _
      -- place dn is not heard of
      obtain ⟨d, rfl⟩ : ∃ d : Nat, dn = d := ⟨dn.toNat, by omega⟩
      have hn : hd s.known d = false := by
        rcases hv : hd s.known d with _ | _
        · rfl
        · rcases (h.set d).1 hv with g | g
          · omega
          · have := ch_in _ _ p3 _ g; omega
      have hlt : ∀ m, d < m → cnt s.known m < m := by
        intro m hm
        induction m with
        | zero => omega
        | succ m ih =>
          have e : cnt s.known (m + 1) = cnt s.known m + (if hd s.known m then 1 else 0) := rfl
          rw [e]
          by_cases g : m = d
          · subst g; rw [hn]; have := hall m; simp; omega
          · have := ih (by omega); split <;> omega
      have := hlt s.sent (by omega)
      omega
  · intro e
    obtain ⟨d, rfl⟩ : ∃ d : Nat, dn = d := ⟨dn.toNat, by omega⟩
    have hd' : d = s.sent := by omega
    have := cnt_seg s.known 0 true d (fun i _ hi => (h.set i).2 (.inl (by omega)))
    simp only [Nat.zero_add, if_true, show cnt s.known 0 = 0 from rfl] at this
    rw [← hd']; omega
theorem rel_timeout {s : Sd} {dn : Int} {bt : List Rg} {ag : Nat} (h : Rel s dn bt ag) (hok : SdOk s) (ed : Int) (d : Nat) (hd' : dn = d) : Rel { s with todo := 0, edge := ed } dn bt d := by
  obtain ⟨p1, p2, p3, p4⟩ := h.parts hok
  exact ⟨h.may, h.set, by show d ≤ s.sent; omega, Nat.zero_le _, fun n _ hn => (h.set n).2 (.inl (by omega))⟩

/-- what is heard, by the ranges -/
theorem rel_hears {s : Sd} {dn : Int} {bt : List Rg} {ag : Nat} (h : Rel s dn bt ag) (hok : SdOk s) (d : Dd) (hr : ¬ (d.ack < 0 ∨ (s.sent : Int) < d.ack ∨ d.win < 0 ∨ 65535 < d.win)) (hm : ¬ 3 < d.sacks.length) (hall : ∀ r ∈ d.sacks, ¬ badR s.sent r) :
    (adds (dn, bt) ((0, d.ack) :: d.sacks) = none ∧ hears s d = (9, s)) ∨ ∃ D L k, adds (dn, bt) ((0, d.ack) :: d.sacks) = some (D, L) ∧ hears s d = (0, { s with known := k, edge := max s.edge (d.ack + d.win) }) ∧ Rel { s with known := k, edge := max s.edge (d.ack + d.win) } D L ag := by
  have hh : hears s d = hearK s d (marks (pad s.known s.sent) ((0, d.ack) :: d.sacks)) := by
    unfold hears; rw [if_neg hr, if_neg hm, if_neg (fun ⟨r, h1, h2⟩ => hall r h1 h2)]
  have hs1 : s.sent ≤ 1048576 := by have := hok.sent; have := hok.len; have := places_le s; omega
  have hlen : (pad s.known s.sent).length = s.sent := pad_len hok.known
  have hset : SetK (pad s.known s.sent) dn bt := fun n => by rw [hd_pad]; exact h.set n
  have hrs : ∀ r ∈ ((0, d.ack) :: d.sacks : List Rg), 0 ≤ r.1 ∧ r.1 ≤ r.2 ∧ r.2 ≤ ((pad s.known s.sent).length : Int) := fun r hr' => by
    rw [hlen]
    rcases List.mem_cons.1 hr' with rfl | hr'
    · exact ⟨Int.le_refl _, by simp only; omega, by simp only; omega⟩
    · have := hall r hr'; unfold badR at this; omega
  rcases marks_adds _ _ dn bt hset h.may hrs (by rw [hlen]; exact hs1) with ⟨q1, q2⟩ | ⟨D, L, K', q1, q2, q3, q4, q5, q6⟩
  · exact .inl ⟨q1, by rw [hh, q2]; rfl⟩
  · refine .inr ⟨D, L, K', q1, by rw [hh, q2]; rfl, q4, q3, h.a1, h.a2, fun n h1 h2 => q5 n ?_⟩
    rw [hd_pad]; exact h.a3 n h1 h2

/-! what is sent -/
theorem rel_skips {s : Sd} {dn : Int} {bt : List Rg} {ag : Nat} (h : Rel s dn bt ag) (hok : SdOk s) (F E : Int) (f : Bool) (hr : (f, (F, E)) = mb (max dn ag) s.sent bt) :
    ∃ a b : Nat, F = a ∧ E = b ∧ a ≤ b ∧ b ≤ s.sent ∧ skips s.known s.sent s.todo = a ∧ (∀ n, a ≤ n → n < b → hd s.known n = false) ∧ (b = s.sent ∨ hd s.known b = true) ∧ (a < b ∨ a = s.sent) := by
  obtain ⟨p1, p2, p3, p4⟩ := h.parts hok
  have ha1 := h.a1
  obtain ⟨⟨i1, i2, i3⟩, i4, i5, i6, i7, -, -⟩ := mb_spec (max dn ag) s.sent (by omega) bt dn p3 p4
  rw [← hr] at i1 i2 i3 i4 i5 i6 i7
  simp only at i1 i2 i3 i4 i5 i6 i7
  obtain ⟨a, rfl⟩ : ∃ a : Nat, F = a := ⟨F.toNat, by omega⟩
  obtain ⟨b, rfl⟩ : ∃ b : Nat, E = b := ⟨E.toNat, by omega⟩
  have hno : ∀ n : Nat, a ≤ n → n < b → hd s.known n = false := fun n h1 h2 => by
    rcases hv : hd s.known n with _ | _
    · rfl
    · rcases (h.set n).1 hv with g | g
      · omega
      · exact absurd g (i5 n (by omega) (by omega))
  refine ⟨a, b, rfl, rfl, by omega, by omega, ?_, hno, ?_, by omega⟩
  · have ht := h.a2
    refine skips_eq s.known s.sent (a - s.todo) s.todo a (by omega) (by omega) (fun n h1 h2 => ?_) ?_
    · by_cases g1 : n < ag
      · exact h.a3 n h1 g1
      · by_cases g2 : (n : Int) < dn
        · exact (h.set n).2 (.inl g2)
        · exact (h.set n).2 (.inr (i4 n (by omega) (by omega)))
    · rcases i7 with g | g
      · exact .inr (hno a (Nat.le_refl _) (by omega))
      · exact .inl (by omega)
  · rcases i6 with g | g
    · exact .inl (by omega)
    · exact .inr ((h.set b).2 (.inr g))
/-- something is to be sent again -/
theorem polls_again {s : Sd} {dn : Int} {bt : List Rg} {ag : Nat} (h : Rel s dn bt ag) (hok : SdOk s) (a b to : Nat) (fin : Bool) (f : Bool) (hr : (f, ((a : Int), (b : Int))) = mb (max dn ag) s.sent bt) (hab : a < b)
    (hto : to = upTo a b s.data.length) (hfin : fin = decide (to = s.data.length ∧ to < b)) :
    a ≤ s.data.length ∧ b ≤ s.data.length + 1 ∧ to + (if fin then 1 else 0) ≤ s.sent ∧
    polls s = (⟨0, a, (s.data.drop a).take (to - a), fin, true, false, 0⟩, { s with todo := to + (if fin then 1 else 0) }) ∧ Rel { s with todo := to + (if fin then 1 else 0) } dn bt (to + (if fin then 1 else 0)) := by
  obtain ⟨a', b', e1, e2, h1, h2, h3, h4, h5, h6⟩ := rel_skips h hok a b f hr
  obtain rfl : a = a' := by omega
  obtain rfl : b = b' := by omega
  have hpl := places_le s
  have hsp := hok.sent
  have hrun := runs_upTo s true s.sent a b (by omega) (by omega) (fun n g1 g2 => ⟨by omega, by omega, fun g => by rw [h4 n g1 g2] at g; cases g.2⟩) (fun g => by
    rcases h5 with g5 | g5
    · have := g.1; omega
    · exact g.2.2 ⟨rfl, g5⟩) (by omega)
  rw [← hto, ← hfin] at hrun
  have hub : a ≤ to ∧ to ≤ b ∧ to ≤ s.data.length ∧ (to = b ∨ to = a + 64 ∨ to = s.data.length) := by rw [hto]; unfold upTo; omega
  have hlt : a < to + (if fin then 1 else 0) := by
    rcases fin with _ | _
    · have : ¬ (to = s.data.length ∧ to < b) := by simpa using hfin.symm
      simp; omega
    · simp; omega
  have hle : to + (if fin then 1 else 0) ≤ s.sent := by
    rcases fin with _ | _
    · simp; omega
    · have : to = s.data.length ∧ to < b := by simpa using hfin.symm
      simp; omega
  refine ⟨by omega, by omega, hle, ?_, h.may, h.set, hle, Nat.le_refl _, fun n g1 g2 => absurd g1 (by simp only; omega)⟩
  unfold polls
  simp only
  rw [h3, decide_eq_true (show a < s.sent by omega)]
  simp only [if_true]
  rw [hrun]
  simp only
  rw [show a + (to - a) = to by omega, if_neg (by omega)]
/-- nothing is: what was never sent, or nothing -/
theorem polls_new {s : Sd} {dn : Int} {bt : List Rg} {ag : Nat} (h : Rel s dn bt ag) (hok : SdOk s) (a b : Nat) (f : Bool) (hr : (f, ((a : Int), (b : Int))) = mb (max dn ag) s.sent bt) (hab : ¬ a < b) (E : Nat) (hE : (E : Int) = min s.edge (places s)) :
    (s.sent < E → ∀ to fin, to = upTo s.sent E s.data.length → fin = decide (to = s.data.length ∧ to < E) → s.sent ≤ s.data.length ∧ E ≤ s.data.length + 1 ∧
      polls s = (⟨0, s.sent, (s.data.drop s.sent).take (to - s.sent), fin, false, false, 0⟩, { s with sent := to + (if fin then 1 else 0), todo := to + (if fin then 1 else 0) }) ∧
      Rel { s with sent := to + (if fin then 1 else 0), todo := to + (if fin then 1 else 0) } dn bt (to + (if fin then 1 else 0))) ∧
    (¬ s.sent < E → polls s = ({ st0 with idle := true }, s)) := by
  obtain ⟨a', b', e1, e2, h1, h2, h3, h4, h5, h6⟩ := rel_skips h hok a b f hr
  obtain rfl : a = a' := by omega
  obtain rfl : b = b' := by omega
  have hpl := places_le s
  have ea : a = s.sent := by omega
  subst ea
  refine ⟨fun hlt to fin hto hfin => ?_, fun hlt => ?_⟩
  · have hrun := runs_upTo s false s.edge s.sent E (by omega) (by omega) (fun n g1 g2 => ⟨by omega, by omega, fun g => by cases g.1⟩) (fun g => by have := g.1; have := g.2.1; omega) (by omega)
    rw [← hto, ← hfin] at hrun
    have hub : s.sent ≤ to ∧ to ≤ E ∧ to ≤ s.data.length ∧ (to = E ∨ to = s.sent + 64 ∨ to = s.data.length) := by rw [hto]; unfold upTo; omega
    have hlt2 : s.sent < to + (if fin then 1 else 0) := by
      rcases fin with _ | _
      · have : ¬ (to = s.data.length ∧ to < E) := by simpa using hfin.symm
        simp; omega
      · simp; omega
    refine ⟨by omega, by omega, ?_, h.may, h.set, Nat.le_refl _, Nat.le_refl _, fun n g1 g2 => absurd g1 (by simp only; omega)⟩
    unfold polls
    simp only
    rw [h3, decide_eq_false (Nat.lt_irrefl _)]
    simp only [Bool.false_eq_true, if_false]
    rw [hrun]
    simp only
    rw [show s.sent + (to - s.sent) = to by omega, if_neg (by omega)]
  · have hn : ¬ goes s false s.edge s.sent := fun g => by have := g.1; have := g.2.1; omega
    unfold polls
    simp only
    rw [h3, decide_eq_false (Nat.lt_irrefl _)]
    simp only [Bool.false_eq_true, if_false]
    have : runs s false s.edge s.sent = (0, false) := by unfold runs run; rw [if_neg hn]
    rw [this]
    simp

end Go.Proofs.Ytehckiihipnimaa
