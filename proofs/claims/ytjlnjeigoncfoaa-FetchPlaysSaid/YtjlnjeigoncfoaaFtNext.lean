/-
  The program's file: next.
-/
import Derived.Test.YtjlnjeigoncfoaaFtCame
import Derived.Test.YtjlnjeigoncfoaaClone
namespace Go.Proofs.Ytjlnjeigoncfoaa
open Go.RowKit
set_option linter.unusedVariables false
set_option linter.unusedSimpArgs false

theorem wclone_any (A : Option Addr) (n c : Nat) (l : List Wt) (w : World) (hb : Ls wtS w A l) (hn : l.length = n) (hm : n ≤ 1000000) (h0 : A = none → n = 0 ∧ c = 0) :
    Calls Try.prog 17 #[.slice A n c] w fun e w' => ∃ A' c', e = .returned (.slice A' n c') ∧ OwnL wtS 33 w' w.heap.size A' n c' l ∧ Below w.heap.size w w' := by
  have HB := Lib.hid hb
  have HN := Lib.hid hn
  rcases A with _ | ⟨b, o, t⟩
  · obtain ⟨rfl, rfl⟩ := h0 rfl
    clear hb hn
    have hnil : ∀ w : World, (binOp .eql 27 (.slice none 0 0) (.slice none 0 0)).run Try.prog w = .ok (.bool true) w := fun w => Lib.run_eql_slice_nil w 27 33 none 0 0 0 0 Try.underlying27
    go_enter Try.func17, Try.ntmps17
    go_wp2
    go_ret
    obtain rfl : l = [] := List.eq_nil_of_length_eq_zero HN.out
    exact ⟨none, 0, rfl, OwnL.nil _ _, Below.refl _ _⟩
  · clear hb hn h0
    have hnil : ∀ w : World, (binOp .eql 27 (.slice (some ⟨b, o, t⟩) n c) (.slice none 0 0)).run Try.prog w = .ok (.bool false) w := fun w => Lib.run_eql_slice_nil w 27 33 (some ⟨b, o, t⟩) n c 0 0 Try.underlying27
    go_enter Try.func17, Try.ntmps17
    go_wp2_with (at_builtin; refine wpList_appL (F := wtS) rfl _ (.tmp 5) (.tmp 6) 27 rfl _ 16 Try.underlying27 wtInfo rfl w.heap.size (some ⟨w.heap.size, 0, none⟩) 0 0 [] rfl (ownL_new w w.heap.size (Nat.le_refl _) [] 0 _ rfl rfl (by omega) _ rfl) (some ⟨b, o, t⟩) n c l rfl (HB.out.below (ba1 _ _)) HN.out n (by omega) (by omega) (by omega) (by simp) ?_; intro A5 c5 w5 ho5 hb5 _; have O5 := Lib.hid ho5; have HB5 := Lib.hid ((ba1 w (.cells #[] 33)).trans hb5); clear ho5 hb5)
    go_ret
    exact ⟨A5, c5, rfl, by simpa using O5.out, HB5.out⟩

theorem askOnN_len (n : Nat) : ∀ s : Fs, s.out.length ≤ (askOnN n s).out.length := by
  induction n with
  | zero => intro s; exact Nat.le_refl _
  | succ n ih =>
    intro s
    unfold askOnN
    split
    · exact Nat.le_trans (by simp [askOne]) (ih (askOne s))
    · exact Nat.le_refl _
theorem askOn_len (s : Fs) : s.out.length ≤ (askOn s).out.length := askOnN_len 6 s

def TS (A : Option Addr) (j : Nat) : Prop := ∃ a, A = some a ∧ a.block = j
theorem own_ts {A : Option Addr} {n c k : Nat} : (Value.slice A n c).ownBlock = some k ↔ TS A k := by
  rcases A with _ | a
  · constructor
    · intro h; cases h
    · rintro ⟨a, h, _⟩; cases h
  · constructor
    · intro h; injection h with h; exact ⟨a, rfl, h⟩
    · rintro ⟨b, h, g⟩; injection h with h; subst h; subst g; rfl
/-- what next leaves -/
def RetX (w : World) (T : Nat → Prop) (B : Nat) (r : Nx × Fs) (e : Ending) (w' : World) : Prop :=
  ∃ S m sc A n c, e = .returned (.agg #[.int .i64 r.1.code, .slice S m sc, .bool r.1.done, .slice A n c]) ∧ r.1.wants.length = m ∧ OwnL wtS 33 w' w.heap.size S m sc r.1.wants ∧ r.1.data.length = n ∧ OwnL byS 5 w' w.heap.size A n c r.1.data ∧
    FM w' (fun j => T j ∨ TS S j ∨ TS A j) B r.2 ∧ Only (fun k => B ≤ k ∧ ¬ T k) w w'
theorem FM.ls {w : World} {T : Nat → Prop} {B : Nat} {s : Fs} (h : FM w T B s) : Ls byS w (some ⟨B, 0, none⟩) s.dat := by
  obtain ⟨A, c, h1, -, -, -, h5⟩ := h
  refine ls_of _ _ _ _ (fun _ => h1.lt) fun i x hi j v hj => ?_
  have hlt := (List.getElem?_eq_some_iff.1 hi).1
  obtain ⟨rfl, rfl⟩ : j = 0 ∧ v = .int .u8 x := by
    rcases j with _ | j
    · simp [byS] at hj; exact ⟨rfl, hj.symm⟩
    · simp [byS] at hj
  refine h1.cell _ _ ?_
  show (ftL s A c).toArray[0 + i * 1 + 0]? = _
  rw [List.getElem?_toArray, ftL, List.getElem?_append_left (by rw [List.length_map]; omega), List.getElem?_map]
  simp [hi]
/-- a row from a place on -/
theorem wt_drop {w : World} {base : Nat} {A : Option Addr} {n c : Nat} {l : List Wt} (h : OwnL wtS 33 w base A n c l) (g : Nat) (hA : A = some ⟨g, 0, none⟩) (k : Nat) (hk : k ≤ n) : Ls wtS w (some ⟨g, k * 2, none⟩) (l.drop k) := by
  have hl := h.1
  subst hA
  refine ls_of _ _ _ _ (fun _ => (h.lt g rfl).2) fun i x hi j v hj => ?_
  rw [List.getElem?_drop] at hi
  obtain ⟨b, o, e, -, hc⟩ := h.ls.at (k + i) x hi
  injection e with e
  injection e with e1 e2
  subst e1; subst e2
  have := hc j v hj
  rw [show (0 : Nat) + (k + i) * wtS.size + j = k * 2 + i * wtS.size + j from by simp [wtS]; omega] at this
  exact this

end Go.Proofs.Ytjlnjeigoncfoaa
