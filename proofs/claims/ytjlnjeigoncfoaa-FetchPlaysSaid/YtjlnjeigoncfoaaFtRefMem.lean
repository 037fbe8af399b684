/-
  The document's fetch, in memory: what is asked for, where it asks on, the end, a map of the bytes.
-/
import Derived.Test.YtjlnjeigoncfoaaFtNext
import Derived.Test.YtjlnjeigoncfoaaMapB
import Derived.Maps.OwnOps
namespace Go.Proofs.Ytjlnjeigoncfoaa
open Go.RowKit Go.Maps
set_option linter.unusedVariables false
set_option linter.unusedSimpArgs false

section
variable (w : World) {ops : Array Oper} {rest : List Oper} {o : Oper} {a : Act} {Q : Exit → Act → World → Prop}
/-- 'm[k]' -/
theorem wpList_look0 (hg : o.guard = none) (m x : Operand) (hop : o.op = Op.lookup 49 m x false) (b K : Nat) (M : Int → Option Int) (hm : a.eval m = .map (some b)) (hown : MapIs w b K M) (z : Int) (hz : i64in z) (hx : a.eval x = .int .i64 z)
    (hK : wpList Try.prog ops Q rest (a.put o.dst (.int .u8 ((M z).getD 0))) w) : wpList Try.prog ops Q (o :: rest) a w := by
  obtain ⟨D, h1, h2⟩ := hown
  refine wpList_lookup_own_int w hg m x _ hop 3 5 .u8 lawI Try.underlying49 Try.underlying5 (zeroU _) b K D hm h1 _ _ hx (keyOf_int_mk Try.underlying3 (wf_i hz)) ?_
  intro c hat hwc
  have e : c = (M z).getD 0 := by
    obtain ⟨h3, h4⟩ := h2 z hz
    rcases hM : M z with _ | c'
    · rw [hM] at h3
      rw [atKey_of_not_has h3] at hat
      injection hat with hat
      injection hat with _ hat
      exact hat.symm
    · have := h4 c' hM
      rw [hat] at this
      injection this with this
      injection this with _ this
  rw [e]
  exact hK
end

/-- the end, as the document keeps it -/
def endV (s : Fs) : Int := if s.ended then s.fin else 1099511627776
theorem endV_known {s : Fs} (h : s.ended = true) : endV s = s.fin := by unfold endV; rw [if_pos h]
theorem endV_open {s : Fs} (h : s.ended = false) : endV s = 1099511627776 := by unfold endV; rw [h]; rfl

/-- the document's state lies from block B on; its row lies in none of T -/
def DM (w : World) (T : Nat → Prop) (B K : Nat) (s : Fs) : Prop :=
  ∃ A c M, (Bx 27 w B #[.slice A s.out.length c] ∧ Bx 49 w (B + 2) #[.map (some (B + 1))] ∧ Bx 3 w (B + 3) #[.int .i64 s.front] ∧ Bx 3 w (B + 4) #[.int .i64 (endV s)]) ∧
    (MapIs w (B + 1) K M ∧ ∀ x : Nat, x < room → (M x).getD 0 = s.dat.getD x 0) ∧
    OwnL wtS 33 w (B + 5) A s.out.length c s.out ∧ (∀ k, (Value.slice A s.out.length c).ownBlock = some k → ¬ T k) ∧ (∀ j, j ≤ 4 → ¬ T (B + j)) ∧ s.dat.length = room

section
variable {w w' : World} {T T' S : Nat → Prop} {B K : Nat} {s s' : Fs}
theorem DM.lt (h : DM w T B K s) : B + 4 < w.heap.size := by obtain ⟨A, c, M, ⟨-, -, -, h1⟩, -⟩ := h; exact h1.lt
theorem DM.notT (h : DM w T B K s) : ∀ j, j ≤ 4 → ¬ T (B + j) := by obtain ⟨A, c, M, -, -, -, -, h4, -⟩ := h; exact h4
theorem DM.only (h : DM w T B K s) (ho : Only S w w') (hS : ∀ k, S k → T k ∨ w.heap.size ≤ k) (hT : ∀ k, T' k → T k ∨ w.heap.size ≤ k) : DM w' T' B K s := by
  have hlt := h.lt
  obtain ⟨A, c, M, ⟨x0, x2, x3, x4⟩, ⟨hm, hb⟩, h2, h3, h4, h5⟩ := h
  have hn : ∀ j, j ≤ 4 → ¬ S (B + j) := fun j hj g => by
    rcases hS _ g with g | g
    · exact h4 j hj g
    · omega
  refine ⟨A, c, M, ⟨x0.only ho (hn 0 (by omega)), x2.only ho (hn 2 (by omega)), x3.only ho (hn 3 (by omega)), x4.only ho (hn 4 (by omega))⟩, ⟨hm.only ho (hn 1 (by omega)), hb⟩, h2.only ho fun k hk g => ?_, fun k hk g => ?_, fun j hj g => ?_, h5⟩
  · rcases hS k g with g | g
    · exact h3 k hk g
    · have := (h2.lt k hk).2; omega
  · rcases hT k g with g | g
    · exact h3 k hk g
    · have := (h2.lt k hk).2; omega
  · rcases hT _ g with g | g
    · exact h4 j hj g
    · omega
theorem DM.new (h : DM w T B K s) (ho : Below w.heap.size w w') : DM w' T B K s := h.only (S := fun _ => False) (only_new ho) (fun _ h => h.elim) (fun _ h => .inl h)
theorem DM.less (h : DM w T B K s) (hT : ∀ k, T' k → T k) : DM w T' B K s := h.only (S := fun _ => False) (Only.refl _ _) (fun _ h => h.elim) (fun k hk => .inl (hT k hk))
theorem DM.more (h : DM w T B K s) (hT : ∀ k, T' k → T k ∨ w.heap.size ≤ k) : DM w T' B K s := h.only (S := fun _ => False) (Only.refl _ _) (fun _ h => h.elim) hT
theorem DM.mono (h : DM w T B K s) {K' : Nat} (hK : K ≤ K') : DM w T B K' s := by
  obtain ⟨A, c, M, x, ⟨hm, hb⟩, r⟩ := h
  exact ⟨A, c, M, x, ⟨hm.mono hK, hb⟩, r⟩
/-- what can be read -/
theorem DM.cells (h : DM w T B K s) : ∃ A c M,
    (w.cell? ⟨B, 0, none⟩ = some (.slice A s.out.length c) ∧ w.cell? ⟨B + 2, 0, none⟩ = some (.map (some (B + 1))) ∧ w.cell? ⟨B + 3, 0, none⟩ = some (.int .i64 s.front) ∧ w.cell? ⟨B + 4, 0, none⟩ = some (.int .i64 (endV s))) ∧
    (w.frozen? ⟨B, 0, none⟩ = false ∧ w.frozen? ⟨B + 3, 0, none⟩ = false ∧ w.frozen? ⟨B + 4, 0, none⟩ = false) ∧
    (MapIs w (B + 1) K M ∧ ∀ x : Nat, x < room → (M x).getD 0 = s.dat.getD x 0) ∧
    OwnL wtS 33 w (B + 5) A s.out.length c s.out ∧ (∀ k, (Value.slice A s.out.length c).ownBlock = some k → B + 5 ≤ k ∧ k < w.heap.size ∧ ¬ T k) := by
  obtain ⟨A, c, M, ⟨x0, x2, x3, x4⟩, hm, h2, h3, h4, h5⟩ := h
  exact ⟨A, c, M, ⟨x0.cell 0 _ rfl, x2.cell 0 _ rfl, x3.cell 0 _ rfl, x4.cell 0 _ rfl⟩, ⟨x0.soft 0, x3.soft 0, x4.soft 0⟩, hm, h2, fun k hk => ⟨(h2.lt k hk).1, (h2.lt k hk).2, h3 k hk⟩⟩
theorem own_off {w : World} {A : Option Addr} {n c B j : Nat} {l : List Wt} {t : TypeId} (h : OwnL wtS t w (B + 5) A n c l) (hj : j ≤ 4) : Off (B + j) (.slice A n c) := Off.under (fun k hk => (h.lt k hk).1) (by omega)
/-- where it asks on -/
theorem DM.front (h : DM w T B K s) (v : Int) (hd : s'.dat = s.dat ∧ s'.out = s.out ∧ endV s' = endV s ∧ s'.front = v) : DM (w.setCell ⟨B + 3, 0, none⟩ (.int .i64 v)) T B K s' := by
  obtain ⟨A, c, M, ⟨x0, x2, x3, x4⟩, ⟨hm, hb⟩, h2, h3, h4, h5⟩ := h
  obtain ⟨d1, d2, d3, d4⟩ := hd
  refine ⟨A, c, M, ⟨by rw [d2]; exact x0.other (by omega) _, x2.other (by omega) _, by rw [d4]; exact x3.set 0 _, by rw [d3]; exact x4.other (by omega) _⟩, ⟨hm.heap (Below.heap_setCell _ _ _ _ (fun e => by simp at e)), by rw [d1]; exact hb⟩, ?_, by rw [d2]; exact h3, h4, by rw [d1]; exact h5⟩
  rw [d2]; exact h2.set (own_off h2 (by omega)) _ _
/-- where it ends -/
theorem DM.fin (h : DM w T B K s) (v : Int) (hd : s'.dat = s.dat ∧ s'.out = s.out ∧ endV s' = v ∧ s'.front = s.front) : DM (w.setCell ⟨B + 4, 0, none⟩ (.int .i64 v)) T B K s' := by
  obtain ⟨A, c, M, ⟨x0, x2, x3, x4⟩, ⟨hm, hb⟩, h2, h3, h4, h5⟩ := h
  obtain ⟨d1, d2, d3, d4⟩ := hd
  refine ⟨A, c, M, ⟨by rw [d2]; exact x0.other (by omega) _, x2.other (by omega) _, by rw [d4]; exact x3.other (by omega) _, by rw [d3]; exact x4.set 0 _⟩, ⟨hm.heap (Below.heap_setCell _ _ _ _ (fun e => by simp at e)), by rw [d1]; exact hb⟩, ?_, by rw [d2]; exact h3, h4, by rw [d1]; exact h5⟩
  rw [d2]; exact h2.set (own_off h2 (by omega)) _ _
/-- its row has turned, or is another one: it is stored -/
theorem DM.row (h : DM w T B K s) (A : Option Addr) (c : Nat) (h0 : w.cell? ⟨B, 0, none⟩ = some (.slice A s.out.length c)) (A' : Option Addr) (n' c' : Nat) (hd : s'.dat = s.dat ∧ s'.front = s.front ∧ endV s' = endV s) (hn : s'.out.length = n')
    (ho : Only (fun k => (Value.slice A s.out.length c).ownBlock = some k) w w') (hl : OwnL wtS 33 w' (B + 5) A' n' c' s'.out) (hk : ∀ k, (Value.slice A' n' c').ownBlock = some k → (Value.slice A s.out.length c).ownBlock = some k ∨ w.heap.size ≤ k) (hT : ∀ k, T k → k < w.heap.size) :
    DM (w'.setCell ⟨B, 0, none⟩ (.slice A' n' c')) T B K s' ∧ Only (fun k => B ≤ k ∧ ¬ T k) w (w'.setCell ⟨B, 0, none⟩ (.slice A' n' c')) := by
  obtain ⟨A1, c1, M, ⟨x0, x2, x3, x4⟩, ⟨hm, hb⟩, h2, h3, h4, h5⟩ := h
  have g := x0.cell 0 _ rfl
  rw [g] at h0
  injection h0 with h0
  injection h0 with e1 e2 e3
  subst e1; subst e3; subst hn
  obtain ⟨d1, d2, d3⟩ := hd
  have hq : ∀ j, j ≤ 4 → ¬ (Value.slice A1 s.out.length c1).ownBlock = some (B + j) := fun j hj e => by have := (h2.lt _ e).1; omega
  refine ⟨⟨A', c', M, ⟨(x0.only ho (hq 0 (by omega))).set 0 _, (x2.only ho (hq 2 (by omega))).other (by omega) _, by rw [d2]; exact (x3.only ho (hq 3 (by omega))).other (by omega) _, by rw [d3]; exact (x4.only ho (hq 4 (by omega))).other (by omega) _⟩, ⟨(hm.only ho (hq 1 (by omega))).heap (Below.heap_setCell _ _ _ _ (fun e => by simp at e)), by rw [d1]; exact hb⟩, hl.set (own_off hl (Nat.zero_le 4)) _ _, ?_, h4, by rw [d1]; exact h5⟩, ?_⟩
  · intro k hk' ht
    rcases hk k hk' with g | g
    · exact h3 k g ht
    · have := hT k ht; omega
  · refine (ho.mono (fun k hk => ?_)).setCell (.inl ⟨Nat.le_refl _, h4 0 (by omega)⟩) _
    have := (h2.lt k hk).1
    exact ⟨by omega, h3 k hk⟩
/-- one byte more -/
theorem DM.byte (h : DM w T B K s) (M' : Int → Option Int) (hm' : MapIs w' (B + 1) (K + 1) M') (ho : Only (fun k => k = B + 1) w w') (hd : s'.out = s.out ∧ s'.front = s.front ∧ endV s' = endV s ∧ s'.dat.length = room) (hb' : ∀ x : Nat, x < room → (M' x).getD 0 = s'.dat.getD x 0) : DM w' T B (K + 1) s' := by
  obtain ⟨A, c, M, ⟨x0, x2, x3, x4⟩, ⟨hm, hb⟩, h2, h3, h4, h5⟩ := h
  obtain ⟨d1, d2, d3, d4⟩ := hd
  refine ⟨A, c, M', ⟨by rw [d1]; exact x0.only ho (by omega), x2.only ho (by omega), by rw [d2]; exact x3.only ho (by omega), by rw [d3]; exact x4.only ho (by omega)⟩, ⟨hm', hb'⟩, ?_, by rw [d1]; exact h3, h4, d4⟩
  rw [d1]; exact h2.only ho (fun k hk e => by have := (h2.lt k hk).1; omega)
end

/-- the bytes of a list that was spliced -/
theorem splice_getD (l : List Int) (k : Nat) (ys : List Int) (h : k + ys.length ≤ l.length) (x : Nat) : (splice l k ys).getD x 0 = if k ≤ x ∧ x < k + ys.length then ys.getD (x - k) 0 else l.getD x 0 := by
  unfold splice
  simp only [List.getD_eq_getElem?_getD]
  by_cases h1 : x < k
  · rw [if_neg (by omega), List.append_assoc, List.getElem?_append_left (by simp; omega), List.getElem?_take_of_lt h1]
  · by_cases h2 : x < k + ys.length
    · rw [if_pos ⟨by omega, h2⟩, List.append_assoc, List.getElem?_append_right (by simp; omega), List.getElem?_append_left (by simp; omega)]
      rw [List.length_take, Nat.min_eq_left (by omega)]
    · rw [if_neg (by omega), List.getElem?_append_right (by simp; omega), List.getElem?_drop]
      rw [List.length_append, List.length_take, Nat.min_eq_left (by omega)]
      congr 2
      omega

end Go.Proofs.Ytjlnjeigoncfoaa
