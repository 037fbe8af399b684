/-
  The program's sender, by what it knows: each method's contract.
-/
import Derived.Test.YtehckiihipnimaaSndr9
import Derived.Test.YtehckiihipnimaaSndr6
import Derived.Test.YtehckiihipnimaaSendStep
import Derived.Test.YtehckiihipnimaaOutlet6
namespace Go.Proofs.Ytehckiihipnimaa
open Go.RowKit
set_option linter.unusedVariables false
set_option linter.unusedSimpArgs false

theorem Sndr.only {w w' : World} {T T' S : Nat → Prop} {B : Nat} {s : Sd} (h : Sndr w T B s) (ho : Only S w w') (hS : ∀ k, S k → T k ∨ w.heap.size ≤ k) (hT : ∀ k, T' k → T k ∨ w.heap.size ≤ k) : Sndr w' T' B s := by
  obtain ⟨dn, bt, ag, h1, h2⟩ := h
  exact ⟨dn, bt, ag, h1.only ho hS hT, h2⟩
theorem Sndr.new {w w' : World} {T : Nat → Prop} {B : Nat} {s : Sd} (h : Sndr w T B s) (hb : Below w.heap.size w w') : Sndr w' T B s := h.only (S := fun _ => False) (only_new hb) (fun _ h => h.elim) (fun _ h => .inl h)
theorem Sndr.less {w : World} {T T' : Nat → Prop} {B : Nat} {s : Sd} (h : Sndr w T B s) (hT : ∀ k, T' k → T k) : Sndr w T' B s := h.only (S := fun _ => False) (Only.refl _ _) (fun _ h => h.elim) (fun k hk => .inl (hT k hk))
theorem Sndr.lt {w : World} {T : Nat → Prop} {B : Nat} {s : Sd} (h : Sndr w T B s) : B < w.heap.size := by obtain ⟨_, _, _, h1, _⟩ := h; exact h1.lt
theorem Sndr.notT {w : World} {T : Nat → Prop} {B : Nat} {s : Sd} (h : Sndr w T B s) : ¬ T B := by obtain ⟨_, _, _, h1, _⟩ := h; exact h1.notT

/-- a method that tells a code -/
def RetC (w : World) (T : Nat → Prop) (B : Nat) (r : Int × Sd) (e : Ending) (w' : World) : Prop := e = .returned (.int .i64 r.1) ∧ Sndr w' T B r.2 ∧ Eff T B w w'
/-- a poll -/
def RetQ (w : World) (T : Nat → Prop) (B : Nat) (r : St × Sd) (e : Ending) (w' : World) : Prop :=
  ∃ A n c, e = .returned (.agg (stC r.1 A n c)) ∧ OwnL byS 5 w' w.heap.size A n c r.1.data ∧ Sndr w' (fun k => T k ∨ w.heap.size ≤ k) B r.2 ∧ Eff T B w w'

section
variable {w : World} {T : Nat → Prop} {B : Nat} {s : Sd}
theorem s_left (h : Sndr w T B s) (hok : SdOk s) : Calls Try.prog 52 #[.pointer (some ⟨B, 0, none⟩)] w fun e w' => e = .returned (.int .i64 (left s)) ∧ Below w.heap.size w w' := by
  obtain ⟨dn, bt, ag, h1, h2⟩ := h
  rw [rel_left h2 hok]
  exact left_any w T B _ _ _ _ dn bt _ h1 hok.len h2.may (places s) rfl
theorem s_finish (h : Sndr w T B s) : Calls Try.prog 51 #[.pointer (some ⟨B, 0, none⟩)] w (RetC w T B (if s.closed then (10, s) else (0, { s with closed := true }))) := by
  obtain ⟨dn, bt, ag, h1, h2⟩ := h
  refine (finish_any w T B _ _ _ _ dn bt _ h1).mono ?_
  rintro e w' ⟨rfl, g1, g2⟩
  rcases hc : s.closed with _ | _
  · exact ⟨rfl, ⟨dn, bt, ag, g1, h2.same rfl rfl rfl⟩, g2⟩
  · exact ⟨rfl, ⟨dn, bt, ag, by rw [if_pos rfl]; rw [hc]; exact g1, h2⟩, g2⟩
theorem s_submit (h : Sndr w T B s) (hok : SdOk s) (hT : ∀ k, T k → k < w.heap.size) (A : Option Addr) (n c : Nat) (zs : List Int) (hz : Ls byS w A zs) (hn : zs.length = n) (hn47 : n ≤ 140737488355328) :
    Calls Try.prog 47 #[.pointer (some ⟨B, 0, none⟩), .slice A n c] w (RetC w T B (if s.closed then (10, s) else if 4096 < zs.length then (1, s) else if 1048575 < s.data.length + zs.length then (9, s) else (0, { s with data := s.data ++ zs }))) := by
  obtain ⟨dn, bt, ag, h1, h2⟩ := h
  refine (submit_any w T B _ _ _ _ dn bt _ h1 hok.len A n c zs hz hn hn47 hT _ rfl _ rfl).mono ?_
  rintro e w' ⟨rfl, g1, g2⟩
  rw [← hn] at g1 ⊢
  rcases hc : s.closed with _ | _
  · rw [hc] at g1
    unfold subCode at g1 ⊢
    by_cases h4 : 4096 < zs.length
    · simp only [h4, if_true, Bool.false_eq_true, if_false] at g1 ⊢
      exact ⟨rfl, ⟨dn, bt, ag, by rw [hc]; simpa using g1, h2⟩, g2⟩
    · by_cases h5 : 1048575 < s.data.length + zs.length
      · simp only [h4, h5, if_true, Bool.false_eq_true, if_false] at g1 ⊢
        exact ⟨rfl, ⟨dn, bt, ag, by rw [hc]; simpa using g1, h2⟩, g2⟩
      · simp only [h4, h5, Bool.false_eq_true, if_false] at g1 ⊢
        exact ⟨rfl, ⟨dn, bt, ag, by simpa using g1, h2.same rfl rfl rfl⟩, g2⟩
  · rw [hc] at g1
    unfold subCode at g1 ⊢
    simp only [if_true] at g1 ⊢
    exact ⟨rfl, ⟨dn, bt, ag, by rw [hc]; simpa using g1, h2⟩, g2⟩
theorem s_expire (h : Sndr w T B s) (hok : SdOk s) : Calls Try.prog 50 #[.pointer (some ⟨B, 0, none⟩)] w fun e w' => e = .returned (.tuple #[]) ∧
    Sndr w' T B { s with todo := 0, edge := if cnt s.known s.sent = s.sent ∧ s.sent < places s ∧ s.edge ≤ s.sent then s.sent + 1 else s.edge } ∧ Eff T B w w' := by
  obtain ⟨dn, bt, ag, h1, h2⟩ := h
  obtain ⟨p1, p2, p3, p4⟩ := h2.parts hok
  obtain ⟨d, rfl⟩ : ∃ d : Nat, dn = d := ⟨dn.toNat, by omega⟩
  have hpl := places_le s
  have hl := hok.len
  have hs := hok.sent
  refine (expire_any w T B _ _ _ _ d bt _ h1 hl (by omega) (by omega) hok.e0 hok.e1 (places s) rfl _ rfl).mono ?_
  rintro e w' ⟨rfl, g1, g2⟩
  have he : (if d = s.sent ∧ s.sent < places s then max s.edge ((s.sent : Int) + 1) else s.edge) = (if cnt s.known s.sent = s.sent ∧ s.sent < places s ∧ s.edge ≤ s.sent then (s.sent : Int) + 1 else s.edge) := by
    have ha := rel_all h2 hok
    by_cases hc : cnt s.known s.sent = s.sent
    · have hd := ha.1 hc
      by_cases hp : s.sent < places s
      · rw [if_pos ⟨by omega, hp⟩]
        by_cases hg : s.edge ≤ s.sent
        · rw [if_pos ⟨hc, hp, hg⟩]; omega
        · rw [if_neg (fun g => hg g.2.2)]; omega
      · rw [if_neg (fun g => hp g.2), if_neg (fun g => hp g.2.1)]
    · rw [if_neg (fun g => hc (ha.2 (by omega))), if_neg (fun g => hc g.1)]
  rw [he] at g1
  exact ⟨rfl, ⟨(d : Int), bt, d, g1, rel_timeout h2 hok _ d rfl⟩, g2⟩
theorem s_hear (h : Sndr w T B s) (hok : SdOk s) (hT : ∀ k, T k → k < w.heap.size) (d : Dd) (A : Option Addr) (n c : Nat) (S : Option Addr) (m e : Nat) (hdd : DdIs w d A n S m) (hmm : m ≤ 140737488351232) :
    Calls Try.prog 48 #[.pointer (some ⟨B, 0, none⟩), .agg (ddC d A n c S m e)] w (RetC w T B (hears s d)) := by
  have H := h
  obtain ⟨dn, bt, ag, h1, h2⟩ := h
  unfold ddC
  by_cases hr : d.ack < 0 ∨ (s.sent : Int) < d.ack ∨ d.win < 0 ∨ 65535 < d.win
  · refine (hear_range w T B _ _ _ _ dn bt _ h1 _ _ _ A n c S m e hr).mono ?_
    rintro e w' ⟨rfl, hb⟩
    rw [show hears s d = (2, s) by unfold hears; rw [if_pos hr]]
    exact ⟨rfl, H.new hb, Eff.new hb⟩
  · by_cases hm : 3 < d.sacks.length
    · refine (hear_odd w T B _ _ _ _ dn bt _ h1 _ _ _ A n c S m e d.sacks hdd.sacks hdd.slen hmm hr 1 (.inl ⟨by rw [← hdd.slen]; exact hm, rfl⟩)).mono ?_
      rintro e w' ⟨rfl, hb⟩
      rw [show hears s d = (1, s) by unfold hears; rw [if_neg hr, if_pos hm]]
      exact ⟨rfl, H.new hb, Eff.new hb⟩
    · have hm3 : ¬ 3 < m := by rw [← hdd.slen]; exact hm
      rcases hall : d.sacks.all (okS s.sent) with _ | _
      · refine (hear_odd w T B _ _ _ _ dn bt _ h1 _ _ _ A n c S m e d.sacks hdd.sacks hdd.slen hmm hr 2 (.inr ⟨hm3, hall, rfl⟩)).mono ?_
        rintro e w' ⟨rfl, hb⟩
        have hex : ∃ r ∈ d.sacks, badR s.sent r := by
          rw [List.all_eq_false] at hall
          obtain ⟨r, hr1, hr2⟩ := hall
          refine ⟨r, hr1, ?_⟩
          by_cases hb : badR s.sent r
          · exact hb
          · exact absurd ((okS_bad s.sent r).2 hb) hr2
        rw [show hears s d = (2, s) by unfold hears; rw [if_neg hr, if_neg hm, if_pos hex]]
        exact ⟨rfl, H.new hb, Eff.new hb⟩
      · have hgood : ∀ r ∈ d.sacks, ¬ badR s.sent r := fun r hr1 => (okS_bad s.sent r).1 (by rw [List.all_eq_true] at hall; exact hall r hr1)
        have hs1 : s.sent ≤ 1048576 := by have := hok.sent; have := hok.len; have := places_le s; omega
        refine (hear_main w T B _ _ _ _ dn bt _ h1 hs1 h2.may hok.e0 hok.e1 hT _ _ _ A n c S m e d.sacks hdd.sacks hdd.slen hr hm3 hall _ rfl).mono ?_
        rintro e w' (⟨q1, rfl, hb⟩ | ⟨D, L, q1, rfl, g1, g2⟩)
        · rcases rel_hears h2 hok d hr hm hgood with ⟨k1, k2⟩ | ⟨D, L, k, k1, k2, k3⟩
          · rw [k2]; exact ⟨rfl, H.new hb, Eff.new hb⟩
          · rw [k1] at q1; cases q1
        · rcases rel_hears h2 hok d hr hm hgood with ⟨k1, k2⟩ | ⟨D', L', k, k1, k2, k3⟩
          · rw [k1] at q1; cases q1
          · rw [k1] at q1
            injection q1 with q1
            injection q1 with q1 q2
            subst q1; subst q2
            rw [k2]
            exact ⟨rfl, ⟨_, _, ag, g1, k3⟩, g2⟩
theorem s_poll (h : Sndr w T B s) (hok : SdOk s) : Calls Try.prog 49 #[.pointer (some ⟨B, 0, none⟩)] w (RetQ w T B (polls s)) := by
  obtain ⟨dn, bt, ag, h1, h2⟩ := h
  obtain ⟨f, hf⟩ : ∃ f, f = (mb (max dn ag) s.sent bt).1 := ⟨_, rfl⟩
  obtain ⟨F, hF⟩ : ∃ f, f = (mb (max dn ag) s.sent bt).2.1 := ⟨_, rfl⟩
  obtain ⟨E, hE⟩ : ∃ f, f = (mb (max dn ag) s.sent bt).2.2 := ⟨_, rfl⟩
  have hr : (f, (F, E)) = mb (max dn ag) s.sent bt := by rw [hf, hF, hE]
  obtain ⟨a, b, rfl, rfl, h3, h4, -, -, -, -⟩ := rel_skips h2 hok F E f hr
  have hbl := (may_parts h2.may).2.2.1
  have hpl : places s = s.data.length + (if s.closed then 1 else 0) := rfl
  by_cases hab : a < b
  · obtain ⟨p1, p2, p3, p4, p5⟩ := polls_again h2 hok a b _ _ f hr hab rfl rfl
    refine (poll_again w T B _ _ _ _ dn bt _ h1 hok.len hbl f a b hr hab p1 p2 _ _ rfl rfl _ rfl _ rfl).mono ?_
    rintro e w' ⟨A, n, c, rfl, g1, g2, g3⟩
    rw [p4]
    exact ⟨A, n, c, rfl, g1, ⟨dn, bt, _, g2, p5⟩, g3⟩
  · have he0 := hok.e0
    obtain ⟨E, hE⟩ : ∃ E : Nat, (E : Int) = min s.edge (places s) := ⟨(min s.edge (places s)).toNat, by omega⟩
    obtain ⟨p1, p2⟩ := polls_new h2 hok a b f hr hab E hE
    by_cases hlt : s.sent < E
    · obtain ⟨q1, q2, q3, q4⟩ := p1 hlt _ _ rfl rfl
      refine (poll_new w T B _ _ _ _ dn bt _ h1 hok.len hbl f a b hr hab E hE hlt q1 q2 _ _ rfl rfl _ rfl _ rfl).mono ?_
      rintro e w' ⟨A, n, c, rfl, g1, g2, g3⟩
      rw [q3]
      exact ⟨A, n, c, rfl, g1, ⟨dn, bt, _, g2, q4⟩, g3⟩
    · refine (poll_idle w T B _ _ _ _ dn bt _ h1 hok.len hbl f a b hr hab E hE hlt).mono ?_
      rintro e w' ⟨A, n, c, rfl, g1, g2, g3⟩
      rw [p2 hlt]
      exact ⟨A, n, c, rfl, g1, ⟨dn, bt, _, g2, h2⟩, g3⟩
end

end Go.Proofs.Ytehckiihipnimaa
