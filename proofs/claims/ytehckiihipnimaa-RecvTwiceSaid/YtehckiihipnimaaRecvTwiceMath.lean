/-
  Mathematics of RecvTwice: what came comes again in vain.
-/
import Derived.Test.YtehckiihipnimaaRecvTrueMath
namespace Go.Proofs.Ytehckiihipnimaa
set_option linter.unusedVariables false
set_option linter.unusedSimpArgs false

/-- an arrival again, its bytes perhaps others -/
def Again8 (a b : Ar) : Prop := b.kind = a.kind ∧ b.at_ = a.at_ ∧ b.data.length = a.data.length ∧ b.fin = a.fin ∧ b.count = a.count

/-- a range once more adds nothing -/
theorem add_again {d : Int} {l : List Rg} {r : Rg} (h : mayB d l = true) (r0 : 0 ≤ r.1) (r1 : r.1 ≤ r.2) (r2 : r.2 ≤ 1048576) : addD (addD d l r) (addL d l r) r = addD d l r ∧ addL (addD d l r) (addL d l r) r = addL d l r := by
  obtain ⟨m1, m2, m3, m4, m5, m6⟩ := hmay_parts h
  obtain ⟨g1, g2, g3, g4⟩ := add_good d l r m1 m2 m6 r0 r1 r2
  obtain ⟨k1, k2, k3, k4⟩ := add_good _ _ r (by omega) g2 g3 r0 r1 r2
  obtain ⟨c1, c2⟩ := okB_ch _ _ g3
  obtain ⟨c3, c4⟩ := okB_ch _ _ k3
  refine came_one _ _ _ _ c3 c1 fun n => ?_
  rw [k4, g4]
  exact ⟨fun q => q.elim id .inr, .inl⟩
/-- where all places came nothing is kept -/
theorem kept_came (d : Int) (l : List Rg) (at_ : Int) (bs base : List Int) : ∀ k : Nat, (∀ n : Int, at_ ≤ n → n < at_ + k → Came d l n) → kept d l at_ bs base k = base
  | 0, _ => rfl
  | k + 1, h => by
    unfold kept
    rw [if_pos (cameB_iff.2 (h _ (by omega) (by omega)))]
    exact kept_came d l at_ bs base k fun n h1 h2 => h n h1 (by omega)
theorem growTo_full (data : List Int) (tt : Int) (h : tt ≤ data.length) : growTo data tt = data := by
  unfold growTo
  rw [show (tt - (data.length : Int)).toNat = 0 by omega]
  simp

theorem arrive_again {s : Hr} (h : HrOk s) (a b : Ar) (hb : Again8 a b) (he : s.ended = false) (hf : a.fin = false) (hc : (arrive s a).1 = 0 ∨ (arrive s a).1 = 9) : (arrive (arrive s a).2 b).2 = (arrive s a).2 := by
  obtain ⟨b1, b2, b3, b4, b5⟩ := hb
  have hfit : ∀ s' : Hr, s'.taken = s.taken → s'.room = s.room → fits s' b = fits s a := fun s' e1 e2 => by unfold fits; rw [b2, b3, e1, e2]
  by_cases h1 : a.at_ < 0 ∨ 1048576 - (a.data.length : Int) ≤ a.at_
  · unfold arrive at hc
    rw [if_pos h1] at hc
    simp at hc
  · by_cases h2 : 64 < a.data.length
    · unfold arrive at hc
      rw [if_neg h1, if_pos h2] at hc
      simp at hc
    · have h3 : ¬ (s.ended = true ∧ (s.stop < a.at_ + a.data.length ∨ a.fin = true ∧ a.at_ + a.data.length ≠ s.stop)) := fun g => by rw [he] at g; cases g.1
      have h4 : ¬ (a.fin = true ∧ (a.at_ + a.data.length < s.dn ∨ ∃ r ∈ s.bt, a.at_ + a.data.length < r.2)) := fun g => by rw [hf] at g; cases g.1
      obtain ⟨f1, f2, f3, -, -, -⟩ := fits_bd h h1
      by_cases h5 : 16 < (addL s.dn s.bt (fits s a)).length
      · have e : arrive s a = (9, s) := by unfold arrive; rw [if_neg h1, if_neg h2, if_neg h3, if_neg h4, if_pos h5]
        rw [e]
        show (arrive s b).2 = s
        have e2 : arrive s b = (9, s) := by
          unfold arrive
          rw [b2, b3, b4, hfit s rfl rfl, if_neg h1, if_neg h2, if_neg h3, if_neg h4, if_pos h5]
        rw [e2]
      · have e : arrive s a = (0, putR s a (fits s a)) := by unfold arrive; rw [if_neg h1, if_neg h2, if_neg h3, if_neg h4, if_neg h5]
        rw [e]
        show (arrive (putR s a (fits s a)) b).2 = putR s a (fits s a)
        obtain ⟨m1, m2, m3, m4, m5, m6⟩ := hmay_parts h.may
        obtain ⟨g1, g2, g3, g4⟩ := add_good s.dn s.bt (fits s a) m1 m2 m6 f1 f2 (by omega)
        obtain ⟨a1, a2⟩ := add_again h.may f1 f2 (by omega)
        have hle := growTo_len s.data (fits s a).2 (by omega)
        have hfs := hfit (putR s a (fits s a)) rfl rfl
        obtain ⟨r, hr⟩ : ∃ r, r = fits s a := ⟨_, rfl⟩
        rw [← hr] at hfs f1 f2 f3 h5 g1 g2 g3 g4 a1 a2 hle ⊢
        have pe : (putR s a r).ended = false := by show (s.ended || a.fin) = false; rw [he, hf]; rfl
        have e2 : arrive (putR s a r) b = (0, putR (putR s a r) b r) := by
          unfold arrive
          rw [hfs, b2, b3, b4, pe, hf, if_neg h1, if_neg h2, if_neg (fun g => by cases g.1), if_neg (fun g => by cases g.1), if_neg (by show ¬ 16 < (addL (addD s.dn s.bt r) (addL s.dn s.bt r) r).length; rw [a2]; exact h5)]
        rw [e2]
        show putR (putR s a r) b r = putR s a r
        obtain ⟨p, hp⟩ : ∃ p, p = putR s a r := ⟨_, rfl⟩
        have pd : p.dn = addD s.dn s.bt r := by rw [hp]; rfl
        have pl : p.bt = addL s.dn s.bt r := by rw [hp]; rfl
        have pda : p.data = kept s.dn s.bt r.1 a.data (growTo s.data r.2) (r.2 - r.1).toNat := by rw [hp]; rfl
        have pln : (p.data.length : Int) = max (s.data.length : Int) r.2 := by rw [pda, kept_len]; exact hle
        rw [← hp] at pe ⊢
        unfold putR
        rw [b4, hf, growTo_full _ _ (by omega), kept_came _ _ _ _ _ _ (fun n q1 q2 => by rw [pd, pl]; exact (g4 n).2 (.inr ⟨q1, by omega⟩)), pd, pl, a1, a2, ← pd, ← pl]
        obtain ⟨p1, p2, p3, p4, p5, p6, p7⟩ := p
        simp

/-- one more arrival, and the same again -/
theorem hear_again {S : List Int} {s : Hr} (h : RT S false s) (hS : S.length ≤ 700) (a b : Ar) (ht : Tame8 S false a) (hk : a.kind = 1) (hb : Again8 a b) : (hear (hear s a).2 b).2 = (hear s a).2 := by
  rcases ht with ⟨k1, -⟩ | ⟨-, -, f, t, h1, h2, h3, h4, h5, h6⟩
  · omega
  · obtain ⟨q1, q2⟩ := arrive_tame h hS a f t h1 h2 h3 h4 h5 h6
    have e : ∀ (s : Hr) (x : Ar), x.kind = 1 → (hear s x).2 = (arrive s x).2 := fun s x hx => by show (hearR s x).2 = _; unfold hearR; rw [if_pos hx]
    rw [e _ b (by rw [hb.1]; exact hk), e _ a hk]
    refine arrive_again h.ok a b hb ?_ (by simpa using h6) ?_
    · rcases he : s.ended with _ | _
      · rfl
      · have := (h.en he).1; cases this
    · rw [q1]; split
      · exact .inr rfl
      · exact .inl rfl

/-- a list, and one in which some come twice -/
inductive Twice : List Ar → List Ar → Prop
  | nil : Twice [] []
  | one {l m : List Ar} (a : Ar) : Twice l m → Twice (l ++ [a]) (m ++ [a])
  | two {l m : List Ar} (a b : Ar) : Twice l m → a.kind = 1 → Again8 a b → Twice (l ++ [a]) (m ++ [a, b])
theorem twice_hrs {S : List Int} (hS : S.length ≤ 700) {s : Hr} (h : RT S false s) {l m : List Ar} (ht : Twice l m) : (∀ a ∈ l, Tame8 S false a) → hrs s m = hrs s l := by
  induction ht with
  | nil => intro _; rfl
  | @one l m a _ ih =>
    intro hl
    rw [hrs_app, hrs_app, ih fun x hx => hl x (List.mem_append_left _ hx)]
  | @two l m a b _ hk hb ih =>
    intro hl
    have h1 := (rt_hrs hS l h (fun x hx => hl x (List.mem_append_left _ hx))).1
    rw [hrs_app, hrs_app, ih fun x hx => hl x (List.mem_append_left _ hx)]
    exact hear_again h1 hS a b (hl a (by simp)) hk hb
/-- so the last one of both tells the same -/
theorem twice_last {S : List Int} (hS : S.length ≤ 700) {s : Hr} (h : RT S false s) {l m : List Ar} (ht : Twice l m) (hl : ∀ a ∈ l, Tame8 S false a) (c : Ar) (hc : Tame8 S false c) : ∃ t, (heard s (l ++ [c]))[l.length]? = some t ∧ (heard s (m ++ [c]))[m.length]? = some t ∧ t.data.length ≤ 700 ∧ t.sacks.length ≤ 3 := by
  have e := twice_hrs hS h ht hl
  have h1 := (rt_hrs hS l h hl).1
  have h2 := rt_step h1 hS c hc
  refine ⟨(hear (hrs s l) c).1, ?_, ?_, ?_, ?_⟩
  · have := heard_get (l ++ [c]) s l.length c (by simp)
    rw [this]; simp
  · have := heard_get (m ++ [c]) s m.length c (by simp)
    rw [this]; simp [e]
  · have g1 := h2.taken
    have g2 := h1.ok.t0
    have g3 := h2.rt.ok.t1
    have g4 := h2.rt.dn_le
    omega
  · show ((sackAll (lastOf c) (hearR (hrs s l) c).2.bt).take 3).length ≤ 3
    rw [List.length_take]; omega

end Go.Proofs.Ytehckiihipnimaa
