/-
  Mathematics of who sends: the document's answer, place by place.
-/
import Derived.Test.YtehckiihipnimaaHoleMath
import Derived.Lib.Hide
namespace Go.Proofs.Ytehckiihipnimaa
set_option linter.unusedVariables false

/-- a deed -/
structure Dd where
  kind : Int
  data : List Int
  ack : Int
  win : Int
  sacks : List Rg
/-- what a deed came to -/
structure St where
  code : Int
  at_ : Int
  data : List Int
  fin : Bool
  again : Bool
  idle : Bool
  left : Int
deriving DecidableEq
/-- who sends -/
structure Sd where
  data : List Int
  closed : Bool
  edge : Int
  sent : Nat
  known : List Bool
  todo : Nat

def st0 : St := ⟨0, 0, [], false, false, false, 0⟩
def sd0 (window : Int) : Sd := ⟨[], false, window, 0, [], 0⟩
def places (s : Sd) : Nat := s.data.length + (if s.closed then 1 else 0)
def hd (k : List Bool) (n : Nat) : Bool := k.getD n false
/-- places a, a + 1, .. (n of them) are heard of -/
def fill (l : List Bool) (a : Nat) : Nat → List Bool
  | 0 => l
  | n + 1 => (fill l a n).set (a + n) true
/-- how many ranges begin ahead of k -/
def isl (l : List Bool) : Nat → Nat
  | 0 => 0
  | k + 1 => isl l k + (if hd l k && !hd l (k - 1) then 1 else 0)
def islands (l : List Bool) : Nat := isl l l.length
def mark (l : List Bool) (r : Rg) : List Bool := fill l r.1.toNat (r.2 - r.1).toNat
/-- all ranges, one by one; none: too many islands -/
def marks : List Bool → List Rg → Option (List Bool)
  | l, [] => some l
  | l, r :: t => if 16 < islands (mark l r) then none else marks (mark l r) t
def pad (k : List Bool) (n : Nat) : List Bool := k ++ List.replicate (n - k.length) false
def badR (n : Nat) (r : Rg) : Prop := r.1 < 0 ∨ r.2 ≤ r.1 ∨ (n : Int) < r.2
instance (n : Nat) (r : Rg) : Decidable (badR n r) := by unfold badR; infer_instance
/-- who sends behind what is heard, all told (none: too many islands) -/
def hearK (s : Sd) (d : Dd) : Option (List Bool) → Int × Sd
  | none => (9, s)
  | some k => (0, { s with known := k, edge := max s.edge (d.ack + d.win) })
/-- what is heard: the code, and who sends behind it -/
def hears (s : Sd) (d : Dd) : Int × Sd :=
  if d.ack < 0 ∨ (s.sent : Int) < d.ack ∨ d.win < 0 ∨ 65535 < d.win then (2, s)
  else if 3 < d.sacks.length then (1, s)
  else if ∃ r ∈ d.sacks, badR s.sent r then (2, s)
  else hearK s d (marks (pad s.known s.sent) ((0, d.ack) :: d.sacks))

/-- the first place from n on that was not sent or is not heard of -/
def skip (k : List Bool) (sent : Nat) : Nat → Nat → Nat
  | 0, n => n
  | f + 1, n => if n < sent ∧ hd k n = true then skip k sent f (n + 1) else n
def skips (k : List Bool) (sent n : Nat) : Nat := skip k sent (sent - n) n
/-- may place n go out? -/
def goes (s : Sd) (again : Bool) (limit : Int) (n : Nat) : Prop := (n : Int) < limit ∧ n < places s ∧ ¬ (again = true ∧ hd s.known n = true)
instance (s : Sd) (a : Bool) (l : Int) (n : Nat) : Decidable (goes s a l n) := by unfold goes; infer_instance
/-- how many bytes go out from n on, m gone before; and whether the end goes with them -/
def run (s : Sd) (again : Bool) (limit : Int) : Nat → Nat → Nat → Nat × Bool
  | 0, n, m => (m, false)
  | f + 1, n, m => if goes s again limit n then (if n = s.data.length then (m, true) else if m = 64 then (m, false) else run s again limit f (n + 1) (m + 1)) else (m, false)
def runs (s : Sd) (again : Bool) (limit : Int) (n : Nat) : Nat × Bool := run s again limit 66 n 0
def polls (s : Sd) : St × Sd :=
  let p := skips s.known s.sent s.todo
  let again := decide (p < s.sent)
  let at_ := if again then p else s.sent
  let limit : Int := if again then s.sent else s.edge
  let r := runs s again limit at_
  let to := at_ + r.1 + (if r.2 then 1 else 0)
  if to = at_ then ({ st0 with idle := true }, s)
  else (⟨0, at_, (s.data.drop at_).take r.1, r.2, again, false, 0⟩, { s with sent := if again then s.sent else to, todo := to })
/-- how many of the first n places are heard of -/
def cnt (k : List Bool) : Nat → Nat
  | 0 => 0
  | n + 1 => cnt k n + (if hd k n then 1 else 0)
def left (s : Sd) : Int := (places s : Int) - (cnt s.known s.sent : Int)
def deed (s : Sd) (d : Dd) : St × Sd :=
  let r : St × Sd :=
    if d.kind = 1 then
      (if s.closed then ({ st0 with code := 10 }, s) else if 4096 < d.data.length then ({ st0 with code := 1 }, s)
        else if 1048575 < s.data.length + d.data.length then ({ st0 with code := 9 }, s) else (st0, { s with data := s.data ++ d.data }))
    else if d.kind = 5 then (if s.closed then ({ st0 with code := 10 }, s) else (st0, { s with closed := true }))
    else if d.kind = 2 then ({ st0 with code := (hears s d).1 }, (hears s d).2)
    else if d.kind = 4 then
      (st0, { s with todo := 0, edge := if cnt s.known s.sent = s.sent ∧ s.sent < places s ∧ s.edge ≤ s.sent then s.sent + 1 else s.edge })
    else if d.kind = 3 then polls s
    else ({ st0 with code := 3 }, s)
  ({ r.1 with left := left r.2 }, r.2)
def sds : Sd → List Dd → Sd
  | s, [] => s
  | s, d :: t => sds (deed s d).2 t
def sent : Sd → List Dd → List St
  | _, [] => []
  | s, d :: t => (deed s d).1 :: sent (deed s d).2 t

/-- what holds of who sends, whatever was done -/
structure SdOk (s : Sd) : Prop where
  len : s.data.length ≤ 1048575
  sent : s.sent ≤ places s
  known : s.known.length ≤ s.sent
  todo : s.todo ≤ s.sent
  e0 : 0 ≤ s.edge
  e1 : s.edge ≤ 1114112

theorem sd0_ok {w : Int} (h0 : 0 ≤ w) (h1 : w ≤ 65535) : SdOk (sd0 w) := ⟨by simp [sd0], by simp [sd0], by simp [sd0], by simp [sd0], h0, by simp only [sd0]; omega⟩
theorem fill_len (l : List Bool) (a : Nat) : ∀ n, (fill l a n).length = l.length
  | 0 => rfl
  | n + 1 => by simp [fill, fill_len l a n]
theorem marks_len : ∀ (rs : List Rg) (l k : List Bool), marks l rs = some k → k.length = l.length
  | [], l, k, h => by simp [marks] at h; rw [h]
  | r :: t, l, k, h => by
    unfold marks at h
    split at h
    · cases h
    · rw [marks_len t _ k h]; exact fill_len _ _ _
theorem pad_len {k : List Bool} {n : Nat} (h : k.length ≤ n) : (pad k n).length = n := by simp [pad]; omega
theorem places_le (s : Sd) : s.data.length ≤ places s ∧ places s ≤ s.data.length + 1 := by unfold places; split <;> omega
theorem skip_bd (k : List Bool) (sent : Nat) : ∀ f n, n ≤ sent → n ≤ skip k sent f n ∧ skip k sent f n ≤ sent
  | 0, n, h => ⟨Nat.le_refl _, h⟩
  | f + 1, n, h => by
    unfold skip
    split
    · rename_i g; have := skip_bd k sent f (n + 1) (by omega); omega
    · exact ⟨Nat.le_refl _, h⟩
theorem skips_step (k : List Bool) (sent n : Nat) : skips k sent n = if n < sent ∧ hd k n = true then skips k sent (n + 1) else n := by
  unfold skips
  by_cases h : n < sent
  · obtain ⟨f, hf⟩ : ∃ f, sent - n = f + 1 := ⟨sent - n - 1, by omega⟩
    rw [hf, show sent - (n + 1) = f by omega]
    rfl
  · rw [if_neg (fun g => h g.1), show sent - n = 0 by omega]; rfl
theorem run_bd (s : Sd) (ag : Bool) (li : Int) : ∀ f n m, m ≤ 64 → n ≤ s.data.length → m ≤ (run s ag li f n m).1 ∧ (run s ag li f n m).1 ≤ 64 ∧ n + ((run s ag li f n m).1 - m) ≤ s.data.length ∧ ((run s ag li f n m).2 = true → n + ((run s ag li f n m).1 - m) = s.data.length ∧ s.closed = true ∧ (s.data.length : Int) < li) ∧ ((run s ag li f n m).1 = m ∨ (n : Int) + ((run s ag li f n m).1 - m : Int) ≤ li)
  | 0, n, m, h, hn => ⟨Nat.le_refl _, h, by simp [run]; omega, by simp [run], .inl rfl⟩
  | f + 1, n, m, h, hn => by
    unfold run
    split
    · rename_i g
      obtain ⟨g1, g2, g3⟩ := g
      split
      · rename_i e
        refine ⟨Nat.le_refl _, h, by simp; omega, fun _ => ⟨by simp; omega, ?_, by omega⟩, .inl rfl⟩
        unfold places at g2
        split at g2
        · assumption
        · omega
      · split
        · exact ⟨Nat.le_refl _, h, by simp; omega, by simp, .inl rfl⟩
        · obtain ⟨i1, i2, i3, i4, i5⟩ := run_bd s ag li f (n + 1) (m + 1) (by omega) (by omega)
          refine ⟨by omega, i2, by omega, fun h2 => ?_, .inr ?_⟩
          · obtain ⟨j1, j2, j3⟩ := i4 h2
            exact ⟨by omega, j2, j3⟩
          · omega
    · exact ⟨Nat.le_refl _, h, by simp; omega, by simp, .inl rfl⟩

end Go.Proofs.Ytehckiihipnimaa
