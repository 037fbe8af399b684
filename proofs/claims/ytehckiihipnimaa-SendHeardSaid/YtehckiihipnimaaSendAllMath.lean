/-
  Mathematics of SendAll: bounds that hold whatever was done; what the law's loop keeps.
-/
import Derived.Test.YtehckiihipnimaaSendRuns
import Derived.Test.YtehckiihipnimaaSents
namespace Go.Proofs.Ytehckiihipnimaa
set_option linter.unusedVariables false

theorem marks_isl : ∀ (rs : List Rg) (l k : List Bool), rs ≠ [] → marks l rs = some k → islands k ≤ 16
  | [], l, k, h, _ => absurd rfl h
  | [r], l, k, _, h => by
    unfold marks at h
    split at h
    · cases h
    · rename_i g
      simp only [marks, Option.some.injEq] at h
      rw [← h]; omega
  | r :: r2 :: t, l, k, _, h => by
    unfold marks at h
    split at h
    · cases h
    · exact marks_isl (r2 :: t) _ k (by simp) h
/-- few runs; what was sent is within the edge, and that within E -/
structure Bd (s : Sd) (E : Int) : Prop where
  isl : islands s.known ≤ 16
  sent : (s.sent : Int) ≤ s.edge
  edge : s.edge ≤ E
theorem Bd.up {s : Sd} {E E' : Int} (h : Bd s E) (hE : E ≤ E') : Bd s E' := ⟨h.isl, h.sent, Int.le_trans h.edge hE⟩
theorem deed_bd {s : Sd} {E : Int} (hok : SdOk s) (h : Bd s E) (hE : 349 ≤ E) (d : Dd) (hd : d.ack + d.win ≤ 349) : Bd (deed s d).2 (E + 1) := by
  have up := h.up (show E ≤ E + 1 by omega)
  by_cases k1 : d.kind = 1
  · rcases deed_submit s d k1 with ⟨-, e⟩ | ⟨-, e⟩ <;> rw [e]
    · exact ⟨up.isl, up.sent, up.edge⟩
    · exact up
  · by_cases k5 : d.kind = 5
    · rcases deed_close s d k5 with ⟨-, -, e⟩ | ⟨-, -, e⟩ <;> rw [e]
      · exact ⟨up.isl, up.sent, up.edge⟩
      · exact up
    · by_cases k2 : d.kind = 2
      · unfold deed
        simp only [k2, show ¬ (2 : Int) = 1 by omega, show ¬ (2 : Int) = 5 by omega, if_true, if_false]
        unfold hears
        split
        · exact up
        · split
          · exact up
          · split
            · exact up
            · generalize hm : marks (pad s.known s.sent) ((0, d.ack) :: d.sacks) = o
              rcases o with _ | k
              · exact up
              · have h1 := h.edge; have h2 := h.sent
                exact ⟨marks_isl _ _ _ (by simp) hm, by show (s.sent : Int) ≤ max s.edge (d.ack + d.win); omega, by show max s.edge (d.ack + d.win) ≤ E + 1; omega⟩
      · by_cases k4 : d.kind = 4
        · obtain ⟨-, e⟩ := deed_timeout s d k4
          rw [e]
          have h1 := h.edge; have h2 := h.sent
          refine ⟨h.isl, ?_, ?_⟩
          · show (s.sent : Int) ≤ (if cnt s.known s.sent = s.sent ∧ s.sent < places s ∧ s.edge ≤ s.sent then (s.sent : Int) + 1 else s.edge)
            split <;> omega
          · show (if cnt s.known s.sent = s.sent ∧ s.sent < places s ∧ s.edge ≤ s.sent then (s.sent : Int) + 1 else s.edge) ≤ E + 1
            split <;> omega
        · by_cases k3 : d.kind = 3
          · rw [deed_poll s d k3]
            have h1 := h.edge; have h2 := h.sent
            show Bd (polls s).2 (E + 1)
            have hK := polls_K hok
            generalize (polls s).1 = t at hK
            generalize (polls s).2 = s' at hK
            cases hK with
            | again a m fin hA hl hw hu => exact ⟨h.isl, h2, by show s.edge ≤ E + 1; omega⟩
            | new m fin hn hl hp hle hw =>
              have h0 := hok.e0
              have : (lim s : Int) ≤ s.edge := by unfold lim; omega
              exact ⟨h.isl, by show ((s.sent + m + (if fin then 1 else 0) : Nat) : Int) ≤ s.edge; omega, by show s.edge ≤ E + 1; omega⟩
            | idle hn hl hw => exact up
          · unfold deed
            simp only [k1, k5, k2, k4, k3, if_false]
            exact up
theorem sds_bd : ∀ (l : List Dd) (s : Sd) (E : Int), SdOk s → Bd s E → 349 ≤ E → (∀ d ∈ l, d.ack + d.win ≤ 349) → Bd (sds s l) (E + l.length)
  | [], s, E, _, h, _, _ => by simpa [sds] using h
  | d :: t, s, E, hok, h, hE, hd => by
    have h1 := deed_bd hok h hE d (hd d (List.mem_cons_self ..))
    have h2 := sds_bd t _ _ (deed_ok hok d) h1 (by omega) (fun x hx => hd x (List.mem_cons_of_mem _ hx))
    have e : E + 1 + (t.length : Int) = E + ((d :: t).length : Int) := by simp; omega
    rw [e] at h2
    exact h2
theorem sd0_bd {w : Int} (h0 : 0 ≤ w) (h1 : w ≤ 349) : Bd (sd0 w) 349 := ⟨by simp [sd0, islands, isl], by simpa [sd0] using h0, h1⟩

/-- how much is not heard of, and was sent -/
theorem cf_cnt (s : Sd) : ∀ n, n ≤ s.sent → cf (unk s) 0 n + cnt s.known n = n
  | 0, _ => rfl
  | n + 1, h => by
    have ih := cf_cnt s n (by omega)
    have e1 : cf (unk s) 0 (n + 1) = cf (unk s) 0 n + (if unk s (0 + n) then 1 else 0) := rfl
    have e2 : cnt s.known (n + 1) = cnt s.known n + (if hd s.known n then 1 else 0) := rfl
    have hu : unk s n = !hd s.known n := by unfold unk; rw [decide_eq_true (by omega)]; rfl
    rw [e1, e2, Nat.zero_add, hu]
    rcases hd s.known n with _ | _ <;> simp <;> omega
theorem left_unk {s : Sd} (h : SdOk s) : (cf (unk s) 0 s.sent : Int) ≤ left s := by
  have h1 := cf_cnt s s.sent (Nat.le_refl _)
  have h2 := h.sent
  unfold left; omega

/-- what the loop of SendAll keeps -/
structure AllI (s : Sd) (W j : Nat) (L at_ : Int) (sum : Nat) (idle : Bool) : Prop where
  at_le : at_ ≤ s.todo
  sum_le : (sum : Int) + (cf (unk s) s.todo (s.sent - s.todo) : Nat) ≤ L
  yes : idle = true → work s = 0
  no : idle = false → work s + 64 * j ≤ W
theorem all_step {s : Sd} {W j : Nat} {L at_ : Int} {sum : Nat} {idle : Bool} (hok : SdOk s) (h : AllI s W j L at_ sum idle) :
    ((polls s).1.idle = true ∧ AllI (polls s).2 W (j + 1) L at_ sum true) ∨
    ((polls s).1.idle = false ∧ (polls s).1.again = false ∧ idle = false ∧ AllI (polls s).2 W (j + 1) L at_ sum false) ∨
    ((polls s).1.idle = false ∧ (polls s).1.again = true ∧ idle = false ∧ at_ ≤ (polls s).1.at_ ∧ (polls s).1.data.length ≤ 64 ∧ 0 ≤ (polls s).1.at_ ∧ (polls s).1.at_ ≤ 1048576 ∧
      AllI (polls s).2 W (j + 1) L ((polls s).1.at_ + (polls s).1.data.length) (sum + (polls s).1.data.length + (if (polls s).1.fin then 1 else 0)) false) := by
  have hK := polls_K hok
  have hf : (polls s).1.data.length ≤ 64 := by
    rcases poll_good hok with e | ⟨a, m, fin, ag, s1, e, G⟩
    · rw [e]; simp [st0]
    · rw [e]; simp only [List.length_take]; have := G.few; omega
  generalize (polls s).1 = t at hK hf
  generalize (polls s).2 = s' at hK
  have hl0 := h.sum_le
  have ha0 := h.at_le
  have hlim : s.sent ≤ 1048576 := by have := hok.sent; have := hok.len; have := places_le s; omega
  cases hK with
  | again a m fin hA hl hw hu =>
    right; right
    have hid : idle = false := by
      rcases hi : idle with _ | _
      · rfl
      · have := h.yes hi; omega
    have h1 := hA.t; have h2 := hA.lt; have h3 := hA.le
    have hno := h.no hid
    refine ⟨rfl, rfl, hid, by simp only; omega, hf, by simp, by simp only; omega, ⟨?_, ?_, (fun g => by cases g), fun _ => by omega⟩⟩
    · simp only [hl]; split <;> omega
    · simp only [hl]
      show ((sum + m + (if fin then 1 else 0) : Nat) : Int) + ((cf (unk s) (a + m + (if fin then 1 else 0)) (s.sent - (a + m + (if fin then 1 else 0))) : Nat) : Int) ≤ L
      omega
  | new m fin hn hl hp hle hw =>
    right; left
    have hid : idle = false := by
      rcases hi : idle with _ | _
      · rfl
      · have := h.yes hi; omega
    have hno := h.no hid
    have ht := hok.todo
    refine ⟨rfl, rfl, hid, ⟨by show at_ ≤ ((s.sent + m + (if fin then 1 else 0) : Nat) : Int); omega, ?_, (fun g => by cases g), fun _ => by omega⟩⟩
    simp only
    rw [Nat.sub_self]
    show (sum : Int) + ((0 : Nat) : Int) ≤ L
    omega
  | idle hn hl hw =>
    left
    exact ⟨rfl, h.at_le, h.sum_le, fun _ => hw, (fun g => by cases g)⟩

/-! what is told of one deed of many -/
theorem sent_get : ∀ (l : List Dd) (s : Sd) (k : Nat) (d : Dd), l[k]? = some d → (sent s l)[k]? = some (deed (sds s (l.take k)) d).1
  | [], s, k, d, h => by simp at h
  | x :: t, s, 0, d, h => by simp at h; subst h; rfl
  | x :: t, s, k + 1, d, h => by
    have := sent_get t (deed s x).2 k d (by simpa using h)
    simpa [sent, sds] using this
theorem sds_take (s : Sd) (l : List Dd) (k : Nat) (d : Dd) (h : l[k]? = some d) : sds s (l.take (k + 1)) = (deed (sds s (l.take k)) d).2 := (sent_take s l k d h).2

end Go.Proofs.Ytehckiihipnimaa
