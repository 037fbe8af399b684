/-
  Mathematics of RecvTrue: what who hears holds is the stream's.
-/
import Derived.Test.YtehckiihipnimaaArrs
namespace Go.Proofs.Ytehckiihipnimaa
set_option linter.unusedVariables false
set_option linter.unusedSimpArgs false

theorem part_eq (A B : List Int) (p m : Nat) (ha : p + m ≤ A.length) (hb : p + m ≤ B.length) (h : ∀ n, p ≤ n → n < p + m → A.getD n 0 = B.getD n 0) : (A.drop p).take m = (B.drop p).take m := by
  apply List.ext_getElem?
  intro i
  rw [List.getElem?_take, List.getElem?_take]
  by_cases g : i < m
  · rw [if_pos g, if_pos g, List.getElem?_drop, List.getElem?_drop]
    have := h (p + i) (by omega) (by omega)
    rw [List.getD_eq_getElem?_getD, List.getD_eq_getElem?_getD, List.getElem?_eq_getElem (show p + i < A.length by omega), List.getElem?_eq_getElem (show p + i < B.length by omega)] at this
    rw [List.getElem?_eq_getElem (show p + i < A.length by omega), List.getElem?_eq_getElem (show p + i < B.length by omega)]
    simpa using this
  · rw [if_neg g, if_neg g]
theorem part_get (S : List Int) (f m i : Nat) (h : i < m) : ((S.drop f).take m).getD i 0 = S.getD (f + i) 0 := by
  rw [List.getD_eq_getElem?_getD, List.getElem?_take, if_pos h, List.getElem?_drop, ← List.getD_eq_getElem?_getD]

/-- what who hears holds is the stream's -/
structure RT (S : List Int) (closed : Bool) (s : Hr) : Prop where
  ok : HrOk s
  in_ : ∀ n : Nat, Came s.dn s.bt n → n < S.length ∧ s.data.getD n 0 = S.getD n 0
  en : s.ended = true → closed = true ∧ s.stop = S.length

theorem rt_start (S : List Int) (closed : Bool) {r : Int} (h1 : 1 ≤ r) (h2 : r ≤ 4096) : RT S closed (hr0 r) :=
  ⟨hr0_ok h1 h2, fun n h => by rcases h with h | h; (simp [hr0] at h; omega); exact absurd h (inR_nil _), by simp [hr0]⟩
theorem RT.dn_le {S : List Int} {closed : Bool} {s : Hr} (h : RT S closed s) : s.dn ≤ S.length := by
  obtain ⟨m1, -⟩ := hmay_parts h.ok.may
  by_cases g : 0 < s.dn
  · have := (h.in_ (s.dn - 1).toNat (.inl (by omega))).1; omega
  · omega
theorem RT.tops {S : List Int} {closed : Bool} {s : Hr} (h : RT S closed s) : ∀ x ∈ s.bt, x.2 ≤ (S.length : Int) := fun x hx => by
  obtain ⟨m1, -, -, m4, -⟩ := hmay_parts h.ok.may
  have := ch_lo _ _ m4 x hx
  have := (h.in_ (x.2 - 1).toNat (.inr ⟨x, hx, by omega, by omega⟩)).1; omega
theorem RT.ack {S : List Int} {closed : Bool} {s : Hr} (h : RT S closed s) : ackOf s ≤ S.length + 1 ∧ s.dn ≤ ackOf s ∧ min (ackOf s) (S.length : Int) = s.dn := by
  have h1 := h.dn_le
  unfold ackOf
  split
  · rename_i g
    have := (h.en g.1).2
    omega
  · omega
/-- an arrival that is a piece of the stream is not refused but for want of ranges -/
theorem arrive_tame {S : List Int} {closed : Bool} {s : Hr} (h : RT S closed s) (hS : S.length ≤ 700) (a : Ar) (f t : Nat) (h1 : f ≤ t) (h2 : t ≤ S.length) (h3 : t ≤ f + 64) (ha : a.at_ = f) (hd : a.data = (S.drop f).take (t - f)) (hf : a.fin = (closed && decide (t = S.length))) :
    arrive s a = (if 16 < (addL s.dn s.bt (fits s a)).length then (9, s) else (0, putR s a (fits s a))) ∧ (¬ 16 < (addL s.dn s.bt (fits s a)).length → RT S closed (putR s a (fits s a))) := by
  have hl : a.data.length = t - f := by rw [hd, List.length_take, List.length_drop]; omega
  have hto : a.at_ + a.data.length = (t : Int) := by rw [ha, hl]; omega
  have hfin : a.fin = true → closed = true ∧ t = S.length := fun g => by rw [hf] at g; simpa using g
  have c1 : ¬ (a.at_ < 0 ∨ 1048576 - (a.data.length : Int) ≤ a.at_) := by rw [ha, hl]; omega
  have c2 : ¬ 64 < a.data.length := by omega
  have c3 : ¬ (s.ended = true ∧ (s.stop < a.at_ + a.data.length ∨ a.fin = true ∧ a.at_ + a.data.length ≠ s.stop)) := fun ⟨g1, g2⟩ => by
    have := (h.en g1).2
    rw [hto] at g2
    rcases g2 with g2 | ⟨g2, g3⟩
    · omega
    · have := (hfin g2).2; omega
  have c4 : ¬ (a.fin = true ∧ (a.at_ + a.data.length < s.dn ∨ ∃ r ∈ s.bt, a.at_ + a.data.length < r.2)) := fun ⟨g1, g2⟩ => by
    have h5 := (hfin g1).2
    have := h.dn_le
    rw [hto] at g2
    rcases g2 with g2 | ⟨r, hr, g2⟩
    · omega
    · have := h.tops r hr; omega
  refine ⟨by unfold arrive; rw [if_neg c1, if_neg c2, if_neg c3, if_neg c4], fun h16 => ?_⟩
  obtain ⟨f1, f2, f3, f4, f5, f6⟩ := fits_bd h.ok (a := a) c1
  have hok := putR_ok h.ok a c1 c3 c4 h16
  obtain ⟨r, hr⟩ : ∃ r, r = fits s a := ⟨_, rfl⟩
  rw [← hr] at f1 f2 f3 f4 f5 f6 hok h16 ⊢
  rw [hto] at f5
  obtain ⟨m1, m2, m3, m4, m5, m6⟩ := hmay_parts h.ok.may
  obtain ⟨g1, g2, g3, g4⟩ := add_good s.dn s.bt r m1 m2 m6 f1 f2 (by omega)
  refine ⟨hok, fun n hn => ?_, fun he => ?_⟩
  · have hn : Came (addD s.dn s.bt r) (addL s.dn s.bt r) n := hn
    have hv : (putR s a r).data.getD n 0 = (if r.1 ≤ n ∧ (n : Int) < r.1 + ((r.2 - r.1).toNat : Nat) ∧ cameB s.dn s.bt n = false ∧ n < (growTo s.data r.2).length then a.data.getD ((n : Int) - r.1).toNat 0 else (growTo s.data r.2).getD n 0) := kept_get s.dn s.bt r.1 a.data (growTo s.data r.2) f1 (r.2 - r.1).toNat n
    rw [hv, growTo_get]
    by_cases hc : Came s.dn s.bt n
    · rw [if_neg (fun g => by rw [cameB_iff.2 hc] at g; cases g.2.2.1)]
      exact h.in_ n hc
    · rcases (g4 n).1 hn with q | q
      · exact absurd q hc
      · have hbl := growTo_len s.data r.2 (by omega)
        rw [if_pos ⟨q.1, by omega, cameB_not.2 hc, by omega⟩]
        have hrf := f6 (by omega)
        rw [ha] at hrf
        refine ⟨by omega, ?_⟩
        rw [hd, part_get S f (t - f) _ (by omega)]
        congr 1
        omega
  · have he : (s.ended || a.fin) = true := he
    show closed = true ∧ (if a.fin then a.at_ + a.data.length else s.stop) = S.length
    rcases hfc : a.fin with _ | _
    · rw [hfc, Bool.or_false] at he
      simpa using h.en he
    · have := hfin hfc
      exact ⟨this.1, by simp; omega⟩

/-- one more arrival -/
structure StepT (S : List Int) (closed : Bool) (s : Hr) (t : Tl) (s' : Hr) : Prop where
  rt : RT S closed s'
  code : t.code = 0 ∨ t.code = 9
  room : s'.room = s.room
  taken : s.taken + t.data.length = s'.taken
  data : t.data = (S.drop s.taken.toNat).take t.data.length
  low : ackOf s ≤ t.ack
  ack : t.ack = ackOf s'
  win : t.win = s'.taken + s'.room - s'.dn
  stop : t.stop = true → closed = true ∧ s'.taken = S.length

theorem rt_step {S : List Int} {closed : Bool} {s : Hr} (h : RT S closed s) (hS : S.length ≤ 700) (a : Ar) (ha : Tame8 S closed a) : StepT S closed s (hear s a).1 (hear s a).2 := by
  rcases ha with ⟨k1, k2, k3, -, -, -⟩ | ⟨k1, -, f, t, h1, h2, h3, h4, h5, h6⟩
  · have hR : hearR s a = ((0, (s.data.drop s.taken.toNat).take (takeTo s a.count - s.taken).toNat, s.ended && decide (takeTo s a.count = s.stop)), { s with taken := takeTo s a.count }) := by
      unfold hearR; rw [if_neg (by omega), if_pos k1]; unfold takes; rw [if_neg (by omega)]
    have hok := hear_ok h.ok a
    have hs2 : (hear s a).2 = { s with taken := takeTo s a.count } := by show (hearR s a).2 = _; rw [hR]
    have ht := h.ok.t0; have ht1 := h.ok.t1; have hl1 := h.ok.l1
    have hb : s.taken ≤ takeTo s a.count ∧ takeTo s a.count ≤ s.dn := by unfold takeTo; omega
    have hd : (hear s a).1.data = (s.data.drop s.taken.toNat).take (takeTo s a.count - s.taken).toNat := by show (hearR s a).1.2.1 = _; rw [hR]
    have hdl : ((hear s a).1.data.length : Int) = takeTo s a.count - s.taken := by rw [hd, List.length_take, List.length_drop]; omega
    have hdn := h.dn_le
    rw [hs2] at hok ⊢
    refine ⟨⟨hok, h.in_, h.en⟩, .inl (by show (hearR s a).1.1 = 0; rw [hR]), rfl, by rw [hdl]; simp only; omega, ?_, ?_, ?_, ?_, fun g => ?_⟩
    · rw [hd]
      have e : ((s.data.drop s.taken.toNat).take (takeTo s a.count - s.taken).toNat).length = (takeTo s a.count - s.taken).toNat := by rw [← hd]; omega
      rw [e]
      exact part_eq _ _ _ _ (by omega) (by omega) (fun n g1 g2 => (h.in_ n (.inl (by omega))).2)
    · show ackOf s ≤ ackOf (hearR s a).2
      rw [hR]; exact Int.le_refl _
    · show ackOf (hearR s a).2 = _
      rw [hR]
    · show (hearR s a).2.taken + (hearR s a).2.room - (hearR s a).2.dn = _
      rw [hR]
    · have g : (hearR s a).1.2.2 = true := g
      rw [hR] at g
      simp only [Bool.and_eq_true, decide_eq_true_eq] at g
      have := h.en g.1
      exact ⟨this.1, by simp only; omega⟩
  · obtain ⟨q1, q2⟩ := arrive_tame h hS a f t h1 h2 h3 h4 h5 h6
    have hR : hearR s a = (((arrive s a).1, [], false), (arrive s a).2) := by unfold hearR; rw [if_pos k1]
    have hd : (hear s a).1.data = [] := by show (hearR s a).1.2.1 = _; rw [hR]
    by_cases g16 : 16 < (addL s.dn s.bt (fits s a)).length
    · rw [if_pos g16] at q1
      have hs2 : (hear s a).2 = s := by show (hearR s a).2 = _; rw [hR, q1]
      rw [hs2]
      refine ⟨h, .inr (by show (hearR s a).1.1 = 9; rw [hR, q1]), rfl, by rw [hd]; simp, by rw [hd]; simp, ?_, ?_, ?_, fun g => ?_⟩
      · show ackOf s ≤ ackOf (hearR s a).2
        rw [hR, q1]; exact Int.le_refl _
      · show ackOf (hearR s a).2 = _
        rw [hR, q1]
      · show (hearR s a).2.taken + (hearR s a).2.room - (hearR s a).2.dn = _
        rw [hR, q1]
      · have g : (hearR s a).1.2.2 = true := g
        rw [hR] at g; cases g
    · rw [if_neg g16] at q1
      have hrt := q2 g16
      have hs2 : (hear s a).2 = putR s a (fits s a) := by show (hearR s a).2 = _; rw [hR, q1]
      rw [hs2]
      have hl : a.data.length = t - f := by rw [h5, List.length_take, List.length_drop]; omega
      obtain ⟨f1, f2, f3, -, -, -⟩ := fits_bd h.ok (a := a) (by rw [h4, hl]; omega)
      obtain ⟨m1, m2, -, -, -, m6⟩ := hmay_parts h.ok.may
      have hdn : s.dn ≤ (putR s a (fits s a)).dn := (add_good s.dn s.bt (fits s a) m1 m2 m6 f1 f2 (by omega)).1
      refine ⟨hrt, .inl (by show (hearR s a).1.1 = 0; rw [hR, q1]), rfl, by rw [hd]; show s.taken + 0 = s.taken; omega, by rw [hd]; simp, ?_, ?_, ?_, fun g => ?_⟩
      · show ackOf s ≤ ackOf (hearR s a).2
        rw [hR, q1]
        show ackOf s ≤ ackOf (putR s a (fits s a))
        have h7 := hrt.ack
        have h8 := hrt.dn_le
        by_cases ge : s.ended = true ∧ s.dn = s.stop
        · have h9 := (h.en ge.1).2
          have he : (putR s a (fits s a)).ended = true := by show (s.ended || a.fin) = true; rw [ge.1]; rfl
          have hs := (hrt.en he).2
          unfold ackOf
          rw [if_pos ge, if_pos ⟨he, by omega⟩]
          omega
        · have : ackOf s = s.dn := by unfold ackOf; rw [if_neg ge]
          omega
      · show ackOf (hearR s a).2 = _
        rw [hR, q1]
      · show (hearR s a).2.taken + (hearR s a).2.room - (hearR s a).2.dn = _
        rw [hR, q1]
      · have g : (hearR s a).1.2.2 = true := g
        rw [hR] at g; cases g

theorem rt_hrs {S : List Int} {closed : Bool} (hS : S.length ≤ 700) : ∀ (l : List Ar) {s : Hr}, RT S closed s → (∀ a ∈ l, Tame8 S closed a) → RT S closed (hrs s l) ∧ (hrs s l).room = s.room
  | [], s, h, _ => ⟨h, rfl⟩
  | a :: t, s, h, ht => by
    have h1 := rt_step h hS a (ht a (List.mem_cons_self ..))
    obtain ⟨q1, q2⟩ := rt_hrs hS t h1.rt (fun b hb => ht b (List.mem_cons_of_mem _ hb))
    exact ⟨q1, q2.trans h1.room⟩

end Go.Proofs.Ytehckiihipnimaa
