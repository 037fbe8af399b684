/-
  Mathematics of RecvAll: what comes in order all comes.
-/
import Derived.Test.YtehckiihipnimaaRecvTrueMath
namespace Go.Proofs.Ytehckiihipnimaa
set_option linter.unusedVariables false
set_option linter.unusedSimpArgs false

theorem jn_lenA : ∀ (l : List Rg) (s : List Rg × Rg × List Rg), (l.foldl stepJ s).1.length + (l.foldl stepJ s).2.2.length ≤ s.1.length + s.2.2.length + l.length ∧ (l.foldl stepJ s).2.1.1 ≤ s.2.1.1
  | [], s => ⟨by simp, Int.le_refl _⟩
  | x :: t, s => by
    obtain ⟨h1, h2⟩ := jn_lenA t (stepJ s x)
    have h3 : (stepJ s x).1.length + (stepJ s x).2.2.length ≤ s.1.length + s.2.2.length + 1 ∧ (stepJ s x).2.1.1 ≤ s.2.1.1 := by
      unfold stepJ
      split
      · simp; omega
      · split
        · simp; omega
        · simp; omega
    rw [List.length_cons]
    exact ⟨by rw [List.foldl_cons]; omega, by rw [List.foldl_cons]; omega⟩
/-- what joins the front makes no more ranges -/
theorem add_front {d : Int} {l : List Rg} {r : Rg} (h : r.1 ≤ d) : (addL d l r).length ≤ l.length := by
  obtain ⟨h1, h2⟩ := jn_lenA l ([], r, [])
  unfold addL
  split
  · exact Nat.le_refl _
  · have : (jn l r).2.1.1 ≤ r.1 := h2
    rw [if_pos (by omega)]
    have h1 : (jn l r).1.length + (jn l r).2.2.length ≤ 0 + 0 + l.length := h1
    omega

/-- all is there, and taken -/
def Done8 (S : List Int) (s : Hr) : Prop := s.dn = S.length ∧ s.taken = S.length ∧ s.ended = true
/-- in order up to a place -/
def Pass8 (S : List Int) (f : Nat) (s : Hr) : Prop := (f : Int) ≤ s.dn ∧ (f = 0 ∨ s.taken = s.dn)
def takeAll : Ar := ⟨2, 0, [], false, 4096⟩
def piece8 (S : List Int) (f t : Nat) : Ar := ⟨1, f, (S.drop f).take (t - f), decide (t = S.length), 0⟩
theorem takeAll_tame (S : List Int) (c : Bool) : Tame8 S c takeAll := .inl ⟨rfl, by simp [takeAll], by simp [takeAll], rfl, rfl, rfl⟩
theorem piece_tame (S : List Int) (f t : Nat) (h1 : f ≤ t) (h2 : t ≤ S.length) (h3 : t ≤ f + 64) : Tame8 S true (piece8 S f t) := .inr ⟨rfl, rfl, f, t, h1, h2, h3, rfl, rfl, by simp [piece8]⟩

theorem hear_ended {s : Hr} (a : Ar) (h : s.ended = true) : (hear s a).2.ended = true := by
  show (hearR s a).2.ended = true
  unfold hearR
  split
  · unfold arrive
    split
    · exact h
    · split
      · exact h
      · split
        · exact h
        · split
          · exact h
          · split
            · exact h
            · show (s.ended || a.fin) = true
              rw [h]; rfl
  · split
    · unfold takes
      split <;> exact h
    · exact h
theorem done_step {S : List Int} {s : Hr} (h : RT S true s) (hS : S.length ≤ 700) (a : Ar) (ha : Tame8 S true a) (hd : Done8 S s) : Done8 S (hear s a).2 := by
  obtain ⟨d1, d2, d3⟩ := hd
  have hst := rt_step h hS a ha
  have h1 := hst.taken
  have h2 := hst.rt.dn_le
  have h3 := hst.rt.ok.t1
  exact ⟨by omega, by omega, hear_ended a d3⟩
theorem done_bt {S : List Int} {s : Hr} (h : RT S true s) (hd : Done8 S s) : s.bt = [] := by
  rcases hb : s.bt with _ | ⟨x, t⟩
  · rfl
  · exfalso
    have h1 := h.tops x (by rw [hb]; exact List.mem_cons_self ..)
    obtain ⟨m1, m2, m3, m4, m5, m6⟩ := hmay_parts h.ok.may
    have h2 := ch_lo _ _ m4 x (by rw [hb]; exact List.mem_cons_self ..)
    have := hd.1
    omega
theorem take_all {S : List Int} {s : Hr} (h : RT S true s) : (hear s takeAll).2 = { s with taken := s.dn } := by
  have h1 := h.ok.d1; have h2 := h.ok.r2; have h3 := h.ok.t1
  show (hearR s takeAll).2 = _
  have e : takeTo s 4096 = s.dn := by unfold takeTo; omega
  unfold hearR
  rw [if_neg (by simp [takeAll]), if_pos (show takeAll.kind = 2 from rfl)]
  unfold takes
  rw [if_neg (by simp [takeAll])]
  show ({ s with taken := takeTo s 4096 } : Hr) = _
  rw [e]
/-- one more piece in order, and all taken -/
theorem pass_step {S : List Int} {s : Hr} (h : RT S true s) (hS : S.length ≤ 700) (hr : 70 ≤ s.room) (f t : Nat) (h1 : f ≤ t) (h2 : t ≤ S.length) (h3 : t ≤ f + 64) (hp : Pass8 S f s) :
    Pass8 S t (hear (hear s (piece8 S f t)).2 takeAll).2 ∧ (t = S.length → Done8 S (hear (hear s (piece8 S f t)).2 takeAll).2) := by
  obtain ⟨p1, p2⟩ := hp
  have htm := piece_tame S f t h1 h2 h3
  have hl : (piece8 S f t).data.length = t - f := by show ((S.drop f).take (t - f)).length = _; rw [List.length_take, List.length_drop]; omega
  obtain ⟨q1, q2⟩ := arrive_tame h hS (piece8 S f t) f t h1 h2 h3 rfl rfl (by simp [piece8])
  have hbd := fits_bd h.ok (a := piece8 S f t) (by rw [hl]; show ¬ ((f : Int) < 0 ∨ 1048576 - ((t - f : Nat) : Int) ≤ f); omega)
  have hff : fits s (piece8 S f t) = (min (f : Int) (s.taken + s.room), min ((f : Int) + ((t - f : Nat) : Int)) (s.taken + s.room)) := by unfold fits; rw [hl]; rfl
  obtain ⟨r, hr'⟩ : ∃ r, r = fits s (piece8 S f t) := ⟨_, rfl⟩
  rw [← hr'] at q1 q2 hbd hff
  obtain ⟨m1, m2, m3, m4, m5, m6⟩ := hmay_parts h.ok.may
  have h16 : ¬ 16 < (addL s.dn s.bt r).length := by
    have := add_front (d := s.dn) (l := s.bt) (r := r) (by rw [hff]; simp only; omega)
    omega
  rw [if_neg h16] at q1
  have hrt := q2 h16
  have hh : (hear s (piece8 S f t)).2 = putR s (piece8 S f t) r := by show (hearR s _).2 = _; unfold hearR; rw [if_pos (show (piece8 S f t).kind = 1 from rfl), q1]
  rw [hh, take_all hrt]
  obtain ⟨f1, f2, f3, f4, f5, f6⟩ := hbd
  obtain ⟨g1, g2, g3, g4⟩ := add_good s.dn s.bt r m1 m2 m6 f1 f2 (by omega)
  have ht1 := h.ok.t0; have ht2 := h.ok.d1; have ht3 := h.ok.t1
  have hge : (t : Int) ≤ addD s.dn s.bt r := by
    rcases Int.lt_or_le (addD s.dn s.bt r) t with c | c
    · exfalso
      have c1 : Came (addD s.dn s.bt r) (addL s.dn s.bt r) (addD s.dn s.bt r) := (g4 _).2 (.inr (by
        have hsz : (t : Int) ≤ s.taken + s.room := by rcases p2 with p2 | p2 <;> omega
        have e1 : r.1 = min (f : Int) (s.taken + s.room) := by rw [hff]
        have e2 : r.2 = min ((f : Int) + ((t - f : Nat) : Int)) (s.taken + s.room) := by rw [hff]
        omega))
      obtain ⟨k1, k2⟩ := okB_ch _ _ g3
      rcases c1 with c1 | c1
      · omega
      · have := ch_in _ _ k1 _ c1; omega
    · exact c
  have hdn : (putR s (piece8 S f t) r).dn = addD s.dn s.bt r := rfl
  have hle := hrt.dn_le
  refine ⟨⟨by show (t : Int) ≤ (putR s (piece8 S f t) r).dn; omega, .inr rfl⟩, fun ht => ⟨by show (putR s (piece8 S f t) r).dn = _; omega, by show (putR s (piece8 S f t) r).dn = _; omega, ?_⟩⟩
  show (s.ended || decide (t = S.length)) = true
  rw [decide_eq_true ht]; simp

/-- how far the pieces have come, at a place of a round -/
def AllI (S : List Int) (rd k f : Nat) (s : Hr) : Prop := 1 ≤ k ∧ k ≤ 64 ∧ (Done8 S s ∨ (f ≤ S.length ∧ Pass8 S f s ∧ (rd = 1 → k = 64)) ∨ (rd = 0 ∧ k = 64))
theorem all_step {S : List Int} {s : Hr} {rd k f : Nat} (hi : AllI S rd k f s) (h : RT S true s) (hS : S.length ≤ 700) (hr : 70 ≤ s.room) (hrd : rd < 2) (hf : f ≤ S.length) (t k' : Nat) (ht : t = min (f + k) S.length) (hk' : k' = k ∨ k' = 64) :
    AllI S rd k' (f + k') (hear (hear s (piece8 S f t)).2 takeAll).2 := by
  obtain ⟨k1, k2, hc⟩ := hi
  refine ⟨by omega, by omega, ?_⟩
  have htm := piece_tame S f t (by omega) (by omega) (by omega)
  rcases hc with hc | ⟨c1, c2, c3⟩ | ⟨c1, c2⟩
  · left
    have h1 := done_step h hS _ htm hc
    exact done_step (rt_step h hS _ htm).rt hS _ (takeAll_tame S true) h1
  · obtain ⟨d1, d2⟩ := pass_step h hS hr f t (by omega) (by omega) (by omega) c2
    by_cases g : t = S.length
    · exact .inl (d2 g)
    · have e : t = f + k := by omega
      by_cases g2 : k' = k
      · subst g2
        right; left
        exact ⟨by omega, by rw [← e]; exact d1, c3⟩
      · right; right
        refine ⟨?_, by omega⟩
        rcases Nat.lt_or_ge rd 1 with q | q
        · omega
        · have := c3 (by omega); omega
  · exact .inr (.inr ⟨c1, by omega⟩)
theorem all_next {S : List Int} {s : Hr} {k f : Nat} (hi : AllI S 0 k f s) (h : RT S true s) (hf : S.length < f) : AllI S 1 k 0 s := by
  obtain ⟨k1, k2, hc⟩ := hi
  refine ⟨k1, k2, ?_⟩
  rcases hc with hc | ⟨c1, c2, c3⟩ | ⟨c1, c2⟩
  · exact .inl hc
  · omega
  · have := h.ok.t0; have := h.ok.t1
    exact .inr (.inl ⟨Nat.zero_le _, ⟨by simp; omega, .inl rfl⟩, fun _ => c2⟩)
theorem all_done {S : List Int} {s : Hr} {k f : Nat} (hi : AllI S 1 k f s) (hf : S.length < f) : Done8 S s := by
  obtain ⟨k1, k2, hc⟩ := hi
  rcases hc with hc | ⟨c1, c2, c3⟩ | ⟨c1, c2⟩
  · exact hc
  · omega
  · omega
theorem all_first {S : List Int} {s : Hr} {k : Nat} (h : RT S true s) (h1 : 1 ≤ k) (h2 : k ≤ 64) : AllI S 0 k 0 s := by
  have := h.ok.t0; have := h.ok.t1
  exact ⟨h1, h2, .inr (.inl ⟨Nat.zero_le _, ⟨by simp; omega, .inl rfl⟩, fun g => by cases g⟩)⟩

/-- what is told at the end -/
theorem all_end {S : List Int} {s : Hr} (h : RT S true s) (hd : Done8 S (hear s takeAll).2) : (hear s takeAll).1.ack = S.length + 1 ∧ (hear s takeAll).1.win = s.room ∧ (hear s takeAll).1.sacks = [] ∧ (hear s takeAll).1.stop = true := by
  have hs2 := take_all h
  have hrt := (rt_step h (S := S) (closed := true) (a := takeAll))
  have hR : hearR s takeAll = ((0, (s.data.drop s.taken.toNat).take (takeTo s 4096 - s.taken).toNat, s.ended && decide (takeTo s 4096 = s.stop)), { s with taken := takeTo s 4096 }) := by
    unfold hearR; rw [if_neg (by simp [takeAll]), if_pos (show takeAll.kind = 2 from rfl)]; unfold takes; rw [if_neg (by simp [takeAll])]; rfl
  have e : takeTo s 4096 = s.dn := by have h1 := h.ok.d1; have h2 := h.ok.r2; have h3 := h.ok.t1; unfold takeTo; omega
  rw [e] at hR
  rw [hs2] at hd
  obtain ⟨d1, d2, d3⟩ := hd
  have d1 : s.dn = S.length := d1
  have d3 : s.ended = true := d3
  have hstop := (h.en d3).2
  have hbt := done_bt h
  refine ⟨?_, ?_, ?_, ?_⟩
  · show ackOf (hearR s takeAll).2 = _
    rw [hR]
    unfold ackOf
    simp only
    rw [if_pos ⟨d3, by omega⟩]; omega
  · show (hearR s takeAll).2.taken + (hearR s takeAll).2.room - (hearR s takeAll).2.dn = _
    rw [hR]; simp only; omega
  · show (sackAll (lastOf takeAll) (hearR s takeAll).2.bt).take 3 = []
    rw [hR]
    simp only
    have : s.bt = [] := by
      rcases hb : s.bt with _ | ⟨x, t⟩
      · rfl
      · exfalso
        have h1 := h.tops x (by rw [hb]; exact List.mem_cons_self ..)
        obtain ⟨m1, m2, m3, m4, m5, m6⟩ := hmay_parts h.ok.may
        have h2 := ch_lo _ _ m4 x (by rw [hb]; exact List.mem_cons_self ..)
        omega
    rw [this]; rfl
  · show (hearR s takeAll).1.2.2 = true
    rw [hR]
    simp only [d3, Bool.true_and, decide_eq_true_eq]
    omega
/-- what was taken, joined -/
theorem take_join (S : List Int) (a b : Nat) : S.take a ++ (S.drop a).take b = S.take (a + b) := by
  rw [List.take_add]

end Go.Proofs.Ytehckiihipnimaa
