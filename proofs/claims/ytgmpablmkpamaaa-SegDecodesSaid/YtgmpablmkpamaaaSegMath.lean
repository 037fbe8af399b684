/-
  Plain mathematics of layer 4: the bytes of a segment, and the segment that bytes are of.
-/
import Derived.Test.YtgmpablmkpamaaaInetMath2
import Derived.Test.YtgmpablmkpamaaaHoleMath
namespace Go.Proofs.Ytgmpablmkpamaaa
set_option linter.unusedVariables false

structure Sg where
  (seq ack win : Int) (f0 f1 f2 f3 : Bool) (sacks : List Rg) (data : List Int)

/-- a serial number? -/
def sm (n : Int) : Bool := decide (0 ≤ n) && decide (n ≤ 65535)
theorem sm_t {n : Int} : sm n = true ↔ 0 ≤ n ∧ n ≤ 65535 := by simp [sm]
theorem sm_f {n : Int} : sm n = false ↔ n < 0 ∨ 65535 < n := by simp [sm]; omega
def two (n : Int) : List Int := [n / 256, n % 256]
def b2 (f : Bool) (k : Int) : Int := if f = true then k else 0
def fl (f0 f1 f2 f3 : Bool) : Int := b2 f0 1 + b2 f1 2 + b2 f2 4 + b2 f3 8
def okR (x : Rg) : Bool := sm x.1 && sm x.2
/-- what there is against a segment -/
def fault (s : Sg) : Int :=
  if (sm s.seq && sm s.ack && sm s.win) = false then 2
  else if 3 < s.sacks.length ∨ 64 < s.data.length then 1
  else if s.sacks.all okR = false then 2
  else if s.f3 = false ∧ (s.ack ≠ 0 ∨ s.win ≠ 0 ∨ s.sacks ≠ []) then 4 else 0
def sackB : List Rg → List Int
  | [] => []
  | x :: t => two x.1 ++ two x.2 ++ sackB t
def heads (s : Sg) : List Int := two s.seq ++ two s.ack ++ two s.win ++ [fl s.f0 s.f1 s.f2 s.f3, s.sacks.length, 0, 0]
def bodyB (s : Sg) : List Int := heads s ++ sackB s.sacks ++ s.data
def sealB (l : List Int) : List Int := put2 l 8 (65535 - fo (tot 0 l))
def bytesOf (s : Sg) : List Int := sealB (bodyB s)

theorem sackB_len : ∀ l : List Rg, (sackB l).length = 4 * l.length
  | [] => rfl
  | x :: t => by simp [sackB, two, sackB_len t]; omega
theorem sackB_app : ∀ l m : List Rg, sackB (l ++ m) = sackB l ++ sackB m
  | [], m => rfl
  | x :: t, m => by simp [sackB, sackB_app t m]
theorem heads_len (s : Sg) : (heads s).length = 10 := rfl
theorem bodyB_len (s : Sg) : (bodyB s).length = 10 + 4 * s.sacks.length + s.data.length := by simp [bodyB, heads_len, sackB_len]; omega
theorem bytesOf_len (s : Sg) : (bytesOf s).length = 10 + 4 * s.sacks.length + s.data.length := by simp [bytesOf, sealB, put2_len, bodyB_len]

theorem two_bd (n : Int) (h0 : 0 ≤ n) (h1 : n ≤ 65535) : ∀ z ∈ two n, 0 ≤ z ∧ z ≤ 255 := by
  intro z hz; simp [two] at hz; rcases hz with rfl | rfl <;> omega
theorem fl_bd (a b c d : Bool) : 0 ≤ fl a b c d ∧ fl a b c d ≤ 15 := by cases a <;> cases b <;> cases c <;> cases d <;> decide
theorem sackB_bd : ∀ l : List Rg, l.all okR = true → ∀ z ∈ sackB l, 0 ≤ z ∧ z ≤ 255
  | [], _, z, hz => by simp [sackB] at hz
  | x :: t, h, z, hz => by
    simp only [List.all_cons, Bool.and_eq_true, okR, sm_t] at h
    simp only [sackB, List.mem_append] at hz
    rcases hz with (hz | hz) | hz
    · exact two_bd _ h.1.1.1 h.1.1.2 z hz
    · exact two_bd _ h.1.2.1 h.1.2.2 z hz
    · exact sackB_bd t h.2 z hz

/-- what a segment without fault is -/
theorem fault_zero {s : Sg} (h : fault s = 0) : (0 ≤ s.seq ∧ s.seq ≤ 65535) ∧ (0 ≤ s.ack ∧ s.ack ≤ 65535) ∧ (0 ≤ s.win ∧ s.win ≤ 65535) ∧ s.sacks.length ≤ 3 ∧ s.data.length ≤ 64 ∧ s.sacks.all okR = true ∧ (s.f3 = false → s.ack = 0 ∧ s.win = 0 ∧ s.sacks = []) := by
  unfold fault at h
  split at h
  · cases h
  · rename_i h1
    split at h
    · cases h
    · rename_i h2
      split at h
      · cases h
      · rename_i h3
        split at h
        · cases h
        · rename_i h4
          simp only [Bool.not_eq_false, Bool.and_eq_true, sm_t] at h1 h3
          refine ⟨h1.1.1, h1.1.2, h1.2, by omega, by omega, h3, fun hf => ?_⟩
          refine ⟨?_, ?_, ?_⟩ <;> (apply Classical.byContradiction; intro hc; exact h4 ⟨hf, by simp [hc]⟩)

theorem heads_bd (s : Sg) (h : fault s = 0) : ∀ z ∈ heads s, 0 ≤ z ∧ z ≤ 255 := by
  obtain ⟨h1, h2, h3, h4, h5, h6, h7⟩ := fault_zero h
  intro z hz
  simp only [heads, List.mem_append] at hz
  rcases hz with ((hz | hz) | hz) | hz
  · exact two_bd _ h1.1 h1.2 z hz
  · exact two_bd _ h2.1 h2.2 z hz
  · exact two_bd _ h3.1 h3.2 z hz
  · have := fl_bd s.f0 s.f1 s.f2 s.f3
    simp at hz
    rcases hz with rfl | rfl | rfl <;> omega
theorem bodyB_bd (s : Sg) (h : fault s = 0) (hd : ∀ z ∈ s.data, 0 ≤ z ∧ z ≤ 255) : ∀ z ∈ bodyB s, 0 ≤ z ∧ z ≤ 255 := by
  intro z hz
  simp only [bodyB, List.mem_append] at hz
  rcases hz with (hz | hz) | hz
  · exact heads_bd s h z hz
  · exact sackB_bd _ (fault_zero h).2.2.2.2.2.1 z hz
  · exact hd z hz
theorem sum_bd (l : List Int) (h : ∀ z ∈ l, 0 ≤ z ∧ z ≤ 255) : 0 ≤ 65535 - fo (tot 0 l) ∧ 65535 - fo (tot 0 l) ≤ 65535 := by
  have := fo_bd (tot 0 l) (tot_bd0 l h).1; omega
theorem sealB_bd (l : List Int) (h : ∀ z ∈ l, 0 ≤ z ∧ z ≤ 255) : ∀ z ∈ sealB l, 0 ≤ z ∧ z ≤ 255 := put2_bd l h 8 _ (sum_bd l h).1 (sum_bd l h).2
theorem bytesOf_bd (s : Sg) (h : fault s = 0) (hd : ∀ z ∈ s.data, 0 ≤ z ∧ z ≤ 255) : ∀ z ∈ bytesOf s, 0 ≤ z ∧ z ≤ 255 := sealB_bd _ (bodyB_bd s h hd)

/-- the number that stands at a place -/
def wd (l : List Int) (i : Nat) : Int := 256 * l.getD i 0 + l.getD (i + 1) 0
def bare (l : List Int) : List Int := (l.set 8 0).set 9 0
def bit (x k : Int) : Bool := decide (x / k % 2 = 1)
/-- n ranges from place p on -/
def sacksAt (l : List Int) (p : Nat) : Nat → List Rg
  | 0 => []
  | n + 1 => sacksAt l p n ++ [(wd l (p + 4 * n), wd l (p + 4 * n + 2))]
def cnt (l : List Int) : Nat := (l.getD 7 0).toNat
def dec (l : List Int) : Sg where
  seq := wd l 0
  ack := wd l 2
  win := wd l 4
  f0 := bit (l.getD 6 0) 1
  f1 := bit (l.getD 6 0) 2
  f2 := bit (l.getD 6 0) 4
  f3 := bit (l.getD 6 0) 8
  sacks := sacksAt l 10 (cnt l)
  data := l.drop (10 + 4 * cnt l)
/-- what Decode answers beside the segment -/
def codeD (l : List Int) : Int :=
  if l.length < 10 then 5 else if wd l 8 ≠ 65535 - fo (tot 0 (bare l)) then 6
  else if 15 < l.getD 6 0 ∨ l.length < 10 + 4 * cnt l ∨ fault (dec l) ≠ 0 then 4 else 0
def zeroS : Sg := ⟨0, 0, 0, false, false, false, false, [], []⟩

theorem sacksAt_len (l : List Int) (p : Nat) : ∀ n, (sacksAt l p n).length = n
  | 0 => rfl
  | n + 1 => by simp [sacksAt, sacksAt_len l p n]

theorem getD_eq (l : List Int) (i : Nat) (h : i < l.length) : l.getD i 0 = l[i] := by simp [List.getD, h]
theorem two_wd (a b : Int) (ha : 0 ≤ a ∧ a ≤ 255) (hb : 0 ≤ b ∧ b ≤ 255) : two (256 * a + b) = [a, b] := by
  simp only [two, List.cons.injEq, and_true]; omega
theorem wd_two (n : Int) (h0 : 0 ≤ n) (h1 : n ≤ 65535) : 256 * (n / 256) + n % 256 = n := by omega

theorem two_at (l : List Int) (h : ∀ z ∈ l, 0 ≤ z ∧ z ≤ 255) (i : Nat) (hi : i + 2 ≤ l.length) : two (wd l i) = (l.drop i).take 2 := by
  have e : l.drop i = l.getD i 0 :: l.getD (i + 1) 0 :: l.drop (i + 2) := by
    rw [List.drop_eq_getElem_cons (by omega), List.drop_eq_getElem_cons (by omega), getD_eq l i (by omega), getD_eq l (i + 1) (by omega)]
  rw [e, wd, two_wd _ _ (getD_bd l h i) (getD_bd l h (i + 1))]
  rfl
theorem take_add (l : List Int) (i j : Nat) : l.take (i + j) = l.take i ++ (l.drop i).take j := List.take_add
theorem sackB_at (l : List Int) (h : ∀ z ∈ l, 0 ≤ z ∧ z ≤ 255) (p : Nat) : ∀ n, p + 4 * n ≤ l.length → sackB (sacksAt l p n) = (l.drop p).take (4 * n)
  | 0, _ => rfl
  | n + 1, hn => by
    rw [sacksAt, sackB_app, sackB_at l h p n (by omega), show 4 * (n + 1) = 4 * n + 4 by omega, take_add, List.drop_drop]
    congr 1
    simp only [sackB, List.append_nil]
    rw [two_at l h _ (by omega), two_at l h _ (by omega), show (4 : Nat) = 2 + 2 by rfl, take_add, List.drop_drop]

theorem fl_bit (x : Int) (h0 : 0 ≤ x) (h1 : x ≤ 255) : fl (bit x 1) (bit x 2) (bit x 4) (bit x 8) = x % 16 := by
  simp only [fl, b2, bit, decide_eq_true_eq]
  split <;> split <;> split <;> split <;> omega
theorem bit_fl (a b c d : Bool) : bit (fl a b c d) 1 = a ∧ bit (fl a b c d) 2 = b ∧ bit (fl a b c d) 4 = c ∧ bit (fl a b c d) 8 = d := by
  cases a <;> cases b <;> cases c <;> cases d <;> decide

end Go.Proofs.Ytgmpablmkpamaaa
