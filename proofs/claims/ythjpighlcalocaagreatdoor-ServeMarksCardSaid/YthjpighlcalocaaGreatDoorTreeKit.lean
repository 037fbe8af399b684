/-
  Assertions on nodes; places in boxes.
-/
import Derived.Test.YthjpighlcalocaaGreatDoorTreeIs
import Derived.Test.YthjpighlcalocaaGreatDoorBox
namespace Go.Proofs.YthjpighlcalocaaGreatDoor
open Go.RowKit Go.Maps
set_option linter.unusedVariables false
set_option linter.unusedSimpArgs false

theorem ta_hit (t : Nat) (x : Value) (w : World) (ht : t = 68 ∨ t = 73 ∨ t = 112) : (Instr.typeAssert (.iface t x) 109 t true).run Tryz.prog w = .ok (.tuple #[x, .bool true]) w := by
  rcases ht with rfl | rfl | rfl
  · unfold Instr.typeAssert
    simp [run_underlying Tryz.underlying68, Sem.run_bind, Sem.run_pure, Result.andThen]
  · unfold Instr.typeAssert
    simp [run_underlying Tryz.underlying73, Sem.run_bind, Sem.run_pure, Result.andThen]
  · unfold Instr.typeAssert
    simp [run_underlying Tryz.underlying112, Sem.run_bind, Sem.run_pure, Result.andThen]
theorem zeroPD (w : World) : (zeroValue 68).run Tryz.prog w = .ok (.pointer none) w := by kernel_rfl
theorem zeroPF (w : World) : (zeroValue 73).run Tryz.prog w = .ok (.pointer none) w := by kernel_rfl
theorem zeroPL (w : World) : (zeroValue 112).run Tryz.prog w = .ok (.pointer none) w := by kernel_rfl
theorem ta_miss (t a : Nat) (x : Value) (w : World) (ha : a = 68 ∨ a = 73 ∨ a = 112) (hne : t ≠ a) : (Instr.typeAssert (.iface t x) 109 a true).run Tryz.prog w = .ok (.tuple #[.pointer none, .bool false]) w := by
  rcases ha with rfl | rfl | rfl
  · unfold Instr.typeAssert
    simp [run_underlying Tryz.underlying68, Sem.run_bind, Sem.run_pure, Result.andThen, hne, zeroPD]
  · unfold Instr.typeAssert
    simp [run_underlying Tryz.underlying73, Sem.run_bind, Sem.run_pure, Result.andThen, hne, zeroPF]
  · unfold Instr.typeAssert
    simp [run_underlying Tryz.underlying112, Sem.run_bind, Sem.run_pure, Result.andThen, hne, zeroPL]
theorem ta_nil (a : Nat) (w : World) (ha : a = 68 ∨ a = 73 ∨ a = 112) : (Instr.typeAssert .nilIface 109 a true).run Tryz.prog w = .ok (.tuple #[.pointer none, .bool false]) w := by
  rcases ha with rfl | rfl | rfl
  · unfold Instr.typeAssert
    simp [run_underlying Tryz.underlying68, Sem.run_bind, Sem.run_pure, Result.andThen, zeroPD]
  · unfold Instr.typeAssert
    simp [run_underlying Tryz.underlying73, Sem.run_bind, Sem.run_pure, Result.andThen, zeroPF]
  · unfold Instr.typeAssert
    simp [run_underlying Tryz.underlying112, Sem.run_bind, Sem.run_pure, Result.andThen, zeroPL]

section
variable {t : TypeId} {w w' : World} {B : Nat} {cs : Array Value}
theorem Bx.put3 {a b c : Value} (h : Bx t w B #[a, b, c]) (a' b' c' : Value) : Bx t (((w.setCell ⟨B, 0, none⟩ a').setCell ⟨B, 1, none⟩ b').setCell ⟨B, 2, none⟩ c') B #[a', b', c'] := ((h.set 0 _).set 1 _).set 2 _
theorem Bx.all3 {a b c : Value} (h : Bx t w B #[a, b, c]) :
    B < w.heap.size ∧ w.cell? ⟨B, 0, none⟩ = some a ∧ w.cell? ⟨B, 1, none⟩ = some b ∧ w.cell? ⟨B, 2, none⟩ = some c ∧ w.frozen? ⟨B, 0, none⟩ = false ∧ w.frozen? ⟨B, 1, none⟩ = false ∧ w.frozen? ⟨B, 2, none⟩ = false :=
  ⟨h.lt, h.cell 0 _ rfl, h.cell 1 _ rfl, h.cell 2 _ rfl, h.soft 0, h.soft 1, h.soft 2⟩
theorem Bx.one {a : Value} (h : Bx t w B #[a]) : B < w.heap.size ∧ w.cell? ⟨B, 0, none⟩ = some a := ⟨h.lt, h.cell 0 _ rfl⟩
end

theorem name_len {l : List Byt} (h : ∀ x ∈ l, nameB x = true) {k : Nat} (hk : k < l.length) : (l.getD k []).length ≤ maxLen := by
  have := (nameB_is.1 (h _ (getD_mem hk))).2.1
  unfold maxLen; omega
theorem walkT_step {T : Wd} (done : List Byt) (d : Nat) {l : List Byt} {k : Nat} (hk : k < l.length) : walkT T done d (l.drop k) =
    if (nd T d).kind = 1 then
      match child T d (l.getD k []) with
      | none => .err 7
      | some c => if (nd T c).kind = 3 then .link done c (l.drop (k + 1)) else walkT T (done ++ [l.getD k []]) c (l.drop (k + 1))
    else .err 15 := by
  rw [List.drop_eq_getElem_cons hk, List.getD_eq_getElem?_getD, List.getElem?_eq_getElem hk]; rfl
theorem take_snoc {l : List Byt} {k : Nat} (hk : k < l.length) : l.take k ++ [l.getD k []] = l.take (k + 1) := by
  rw [List.take_add_one, List.getD_eq_getElem?_getD, List.getElem?_eq_getElem hk]; rfl
theorem child_is {T : Wd} (h : WF T) {d i : Nat} {nm : Byt} (hc : child T d nm = some i) : 0 < i ∧ Live T i ∧ (nd T i).inn = d ∧ (nd T i).name = nm := (child_some h).1 hc
def WkOk (T : Wd) (l done : List Byt) : Wk → Prop
  | .err e => e = 7 ∨ e = 15
  | .stop c => Live T c ∧ (nd T c).kind ≠ 3 ∧ (l ≠ [] → 0 < c)
  | .link dn c r => Live T c ∧ 0 < c ∧ (nd T c).kind = 3 ∧ ∃ k, k < l.length ∧ dn = done ++ l.take k ∧ r = l.drop (k + 1)
theorem walkT_cons (T : Wd) (done : List Byt) (d : Nat) (n : Byt) (r : List Byt) : walkT T done d (n :: r) =
    if (nd T d).kind = 1 then
      match child T d n with
      | none => .err 7
      | some c => if (nd T c).kind = 3 then .link done c r else walkT T (done ++ [n]) c r
    else .err 15 := rfl
/-- where a walk ends -/
theorem walkT_is {T : Wd} (h : WF T) : ∀ (l done : List Byt) (d : Nat), Live T d → (nd T d).kind ≠ 3 → WkOk T l done (walkT T done d l)
  | [], done, d, hl, hk => ⟨hl, hk, fun g => absurd rfl g⟩
  | n :: r, done, d, hl, hk => by
    rw [walkT_cons]
    by_cases h1 : (nd T d).kind = 1
    · rw [if_pos h1]
      rcases hc : child T d n with _ | c
      · exact .inl rfl
      · obtain ⟨g0, g1, g2, g3⟩ := child_is h hc
        by_cases h3 : (nd T c).kind = 3
        · show WkOk T (n :: r) done (if _ then _ else _)
          rw [if_pos h3]
          exact ⟨g1, g0, h3, 0, by simp, by simp, by simp⟩
        · show WkOk T (n :: r) done (if _ then _ else _)
          rw [if_neg h3]
          have ih := walkT_is h r (done ++ [n]) c g1 h3
          rcases hw : walkT T (done ++ [n]) c r with e | c' | ⟨dn, c', r'⟩
          · rw [hw] at ih; exact ih
          · rw [hw] at ih
            refine ⟨ih.1, ih.2.1, fun _ => ?_⟩
            rcases r with _ | ⟨x, t⟩
            · simp only [walkT] at hw; injection hw with hw; subst hw; exact g0
            · exact ih.2.2 (by simp)
          · rw [hw] at ih
            obtain ⟨i1, i2, i3, k, i4, i5, i6⟩ := ih
            refine ⟨i1, i2, i3, k + 1, by simp; omega, ?_, ?_⟩
            · rw [i5]; simp
            · rw [i6]; simp
    · rw [if_neg h1]
      exact .inr rfl

end Go.Proofs.YthjpighlcalocaaGreatDoor
