/-
  packthreadkeep.PathBy: a short path by a number.
  packthreadkeep.Acts: jobs turned into acts.
  How a list of jobs that comes in is opened.
-/
import Derived.Test.YtdekpmidaleipaaDoorText
import Derived.Test.YtdekpmidaleipaaDoorPicked
import Derived.Test.YtdekpmidaleipaaDoorKit
import Derived.Test.YtdekpmidaleipaaDoorTool
import Derived.Test.YtdekpmidaleipaaDoorTPlay
import Derived.Test.YtdekpmidaleipaaDoorOct2
import Derived.Test.YtdekpmidaleipaaDoorRowArg
namespace Go.Proofs.YtdekpmidaleipaaDoor
open Go.RowKit
set_option linter.unusedVariables false
set_option linter.unusedSimpArgs false

def letters : List Byt := [[97], [98], [99], [100]]
/-- the name that stands at a place of the path -/
def pbAt (n : Int) (i : Nat) : Byt := letters.getD ((n.tdiv (7 * ((i : Int) + 1))) % 4).toNat []
def pbN (n : Int) : Nat := 1 + (n % 3).toNat
def pbs (n : Int) : List Byt := (List.range (pbN n)).map (pbAt n)
def pathBy (n : Int) : Byt := joinP (pbs n)

theorem joinP_snoc : ∀ (l : List Byt) (x : Byt), joinP (l ++ [x]) = joinP l ++ 47 :: x
  | [], x => by simp [joinP]
  | y :: r, x => by simp only [List.cons_append, joinP, joinP_snoc r x, List.append_assoc]
def pbk (n : Int) (k : Nat) : List Byt := (List.range k).map (pbAt n)
theorem pbk_succ (n : Int) (k : Nat) : pbk n (k + 1) = pbk n k ++ [pbAt n k] := by unfold pbk; rw [List.range_succ, List.map_append]; rfl
theorem tdiv_b (n : Int) (d : Int) (hd : 0 < d) (h1 : -9223372036854775808 ≤ n) (h2 : n ≤ 9223372036854775807) (h7 : 2 ≤ d) : -9223372036854775808 ≤ n.tdiv d ∧ n.tdiv d ≤ 9223372036854775807 := by
  by_cases h : 0 ≤ n
  · rw [Int.tdiv_eq_ediv_of_nonneg h]
    have a := Int.ediv_nonneg h (Int.le_of_lt hd)
    have b := Int.ediv_le_self d h
    omega
  · have e : n.tdiv d = -((-n).tdiv d) := by rw [← Int.neg_tdiv, Int.neg_neg]
    rw [e, Int.tdiv_eq_ediv_of_nonneg (by omega)]
    have a := Int.ediv_nonneg (show 0 ≤ -n by omega) (Int.le_of_lt hd)
    have b := Int.ediv_le_self d (show 0 ≤ -n by omega)
    omega
theorem pbAt_len (n : Int) (i : Nat) : (pbAt n i).length = 1 := by
  unfold pbAt
  have h0 := Int.emod_nonneg (n.tdiv (7 * ((i : Int) + 1))) (show (4 : Int) ≠ 0 by decide)
  have h1 := Int.emod_lt_of_pos (n.tdiv (7 * ((i : Int) + 1))) (show (0 : Int) < 4 by decide)
  generalize (n.tdiv (7 * ((i : Int) + 1))) % 4 = v at h0 h1
  have : v.toNat = 0 ∨ v.toNat = 1 ∨ v.toNat = 2 ∨ v.toNat = 3 := by omega
  rcases this with e | e | e | e <;> rw [e] <;> rfl
theorem pbk_len (n : Int) (k : Nat) : (joinP (pbk n k)).length = 2 * k := by
  induction k with
  | zero => rfl
  | succ k ih => rw [pbk_succ, joinP_snoc, List.length_append, ih, List.length_cons, pbAt_len]; omega

set_option maxHeartbeats 4000000 in
theorem pathBy_any (n : Int) (w : World) (h1 : -9223372036854775808 ≤ n) (h2 : n ≤ 9223372036854775807) :
    Calls Tryd.prog 10 #[.int .i64 n] w fun e w' => e = .returned (.string (tx (pathBy n))) ∧ Below w.heap.size w w' := by
  obtain ⟨t, HT, ht⟩ := pick_nat n 3 (by omega)
  have HP := Lib.hid (fun wx => picked_n n 3 t wx HT h1 h2 (by omega) (by omega))
  have HPN : Hid (pathBy n = joinP (pbk n (t + 1))) := Lib.hid (by
    show joinP (pbk n (pbN n)) = _
    unfold pbN
    rw [← HT.out, Int.toNat_natCast, Nat.add_comm])
  have ht3 : t < 3 := by omega
  have H12 := Lib.hid (And.intro h1 h2)
  clear ht
  go_enter Tryd.func10, Tryd.ntmps10
  go_wp2_with fail
  go_loopw [3, 4] (fun s i wr => ∃ k : Nat, i = .int .i64 (k : Int) ∧ k ≤ t + 1 ∧ s = .string (tx (joinP (pbk n k))) ∧ Below w.heap.size w wr) (fun _ i _ => 3 - (intOf i).toNat)
  case atStart => exact ⟨0, rfl, Nat.zero_le _, rfl, Below.refl _ _⟩
  case round =>
    obtain ⟨k, rfl, hk, rfl, hbw⟩ := hrel
    have HBW := Lib.hid hbw
    clear hbw
    by_cases hlt : k < t + 1
    · have g1 : (k : Int) < 1 + (t : Int) := by omega
      obtain ⟨v, hv⟩ : ∃ v, v = n.tdiv (7 * ((k : Int) + 1)) := ⟨_, rfl⟩
      obtain ⟨hv1, hv2⟩ : -9223372036854775808 ≤ v ∧ v ≤ 9223372036854775807 := by rw [hv]; exact tdiv_b n _ (by omega) h1 h2 (by omega)
      obtain ⟨j, HJ, hj⟩ := pick_nat v 4 (by omega)
      have HPJ := Lib.hid (fun wx => picked_n v 4 j wx HJ hv1 hv2 (by omega) (by omega))
      have HPA : Hid (pbAt n k = letters.getD j []) := Lib.hid (by unfold pbAt; rw [← hv, ← HJ.out]; rfl)
      have HS : Hid (joinP (pbk n (k + 1)) = joinP (pbk n k) ++ 47 :: letters.getD j []) := Lib.hid (by rw [pbk_succ, joinP_snoc, HPA.out])
      have hJl := pbk_len n k
      obtain ⟨J, hJ⟩ : ∃ J, joinP (pbk n k) = J := ⟨_, rfl⟩
      rw [hJ] at HS hJl ⊢
      have z2 := tx_size J
      clear hJ
      have hk3 : k = 0 ∨ k = 1 ∨ k = 2 := by omega
      have hj4 : j = 0 ∨ j = 1 ∨ j = 2 ∨ j = 3 := by omega
      rcases hk3 with rfl | rfl | rfl
      · simp at hv
        have hv' : v = n.tdiv 7 := hv
        have hw : IntKind.i64.wrap (n.tdiv 7) = v := by rw [← hv', IntKind.wrap_i64]; omega
        clear hv hv'
        rcases hj4 with rfl | rfl | rfl | rfl
        all_goals
          go_wp2_with (go_at_call 12; first | ((with_reducible refine (HP.out _).mono ?_); rintro e w1 ⟨rfl, rfl⟩) | ((with_reducible refine (HPJ.out _).mono ?_); rintro e w1 ⟨rfl, rfl⟩))
        all_goals
          refine ⟨⟨1, by go_num, by omega, ?_, bthen HBW.out (ba1 _ _)⟩, by simp [intOf]⟩
          rw [HS.out, ← tx_app]
          rfl
      · simp at hv
        have hv' : v = n.tdiv 14 := hv
        have hw : IntKind.i64.wrap (n.tdiv 14) = v := by rw [← hv', IntKind.wrap_i64]; omega
        clear hv hv'
        rcases hj4 with rfl | rfl | rfl | rfl
        all_goals
          go_wp2_with (go_at_call 12; first | ((with_reducible refine (HP.out _).mono ?_); rintro e w1 ⟨rfl, rfl⟩) | ((with_reducible refine (HPJ.out _).mono ?_); rintro e w1 ⟨rfl, rfl⟩))
        all_goals
          refine ⟨⟨2, by go_num, by omega, ?_, bthen HBW.out (ba1 _ _)⟩, by simp [intOf]⟩
          rw [HS.out, ← tx_app]
          rfl
      · simp at hv
        have hv' : v = n.tdiv 21 := hv
        have hw : IntKind.i64.wrap (n.tdiv 21) = v := by rw [← hv', IntKind.wrap_i64]; omega
        clear hv hv'
        rcases hj4 with rfl | rfl | rfl | rfl
        all_goals
          go_wp2_with (go_at_call 12; first | ((with_reducible refine (HP.out _).mono ?_); rintro e w1 ⟨rfl, rfl⟩) | ((with_reducible refine (HPJ.out _).mono ?_); rintro e w1 ⟨rfl, rfl⟩))
        all_goals
          refine ⟨⟨3, by go_num, by omega, ?_, bthen HBW.out (ba1 _ _)⟩, by simp [intOf]⟩
          rw [HS.out, ← tx_app]
          rfl
    · obtain rfl : k = t + 1 := by omega
      have g1 : ¬ ((t + 1 : Nat) : Int) < 1 + (t : Int) := by omega
      go_wp2_with (go_at_call 12; ((with_reducible refine (HP.out _).mono ?_); rintro e w1 ⟨rfl, rfl⟩))
      go_ret
      exact ⟨by rw [HPN.out]; rfl, HBW.out⟩

end Go.Proofs.YtdekpmidaleipaaDoor

namespace Go.Proofs.YtdekpmidaleipaaDoor
open Go.RowKit Go.Maps
set_option linter.unusedVariables false
set_option linter.unusedSimpArgs false

/-- a job as it lies -/
structure Jv where
  kind : Int
  a : Int
  b : Int
  data : List Int
  D : Option Addr
  n : Nat
  c : Nat
def jbS : Shape Jv := { cells := fun x => [.int .i64 x.kind, .int .i64 x.a, .int .i64 x.b, .slice x.D x.n x.c], size := 4, len := fun _ => rfl, pos := by decide, one := by intro x u hu; simp at hu; rcases hu with rfl | rfl | rfl | rfl <;> rfl }
def JIn (w : World) (l : List Jv) : Prop := ∀ x ∈ l, Ls byS w x.D x.data ∧ x.data.length = x.n ∧ x.n ≤ x.c ∧ x.c ≤ 140737488351232 ∧ (∀ z ∈ x.data, 0 ≤ z ∧ z ≤ 255) ∧ (-9223372036854775808 ≤ x.kind ∧ x.kind ≤ 9223372036854775807) ∧ (-9223372036854775808 ≤ x.a ∧ x.a ≤ 9223372036854775807) ∧ (-9223372036854775808 ≤ x.b ∧ x.b ≤ 9223372036854775807)
/-- an act's bytes lie where it says, and in none of S -/
def AcI1 (w : World) (S : Nat → Prop) (x : Acv) : Prop := (Ls byS w x.D x.a.data ∧ x.a.data.length = x.m ∧ ∀ z ∈ x.a.data, 0 ≤ z ∧ z ≤ 255) ∧ Clear (fun k => S k ∨ w.heap.size ≤ k) x.D
def AcI (w : World) (S : Nat → Prop) (l : List Acv) : Prop := ∀ x ∈ l, AcI1 w S x
theorem AcI1.only {w w' : World} {S S' T : Nat → Prop} {x : Acv} (h : AcI1 w S x) (ho : Only S' w w') (hS : ∀ k, S' k → S k ∨ w.heap.size ≤ k) (hT : ∀ k, T k → S k ∨ w.heap.size ≤ k) : AcI1 w' T x := by
  obtain ⟨⟨h1, h2, h3⟩, h4⟩ := h
  have hc : ∀ k, T k ∨ w'.heap.size ≤ k → S k ∨ w.heap.size ≤ k := fun k hk => hk.elim (hT k) (fun g => .inr (Nat.le_trans ho.size g))
  exact ⟨⟨h1.only ho (h4.mono hS), h2, h3⟩, h4.mono hc⟩
theorem AcI1.new {w w' : World} {S : Nat → Prop} {x : Acv} (h : AcI1 w S x) (hb : Below w.heap.size w w') : AcI1 w' S x := h.only (S' := fun _ => False) (only_new hb) (fun _ h => h.elim) (fun _ h => .inl h)
theorem AcI.only {w w' : World} {S S' T : Nat → Prop} {l : List Acv} (h : AcI w S l) (ho : Only S' w w') (hS : ∀ k, S' k → S k ∨ w.heap.size ≤ k) (hT : ∀ k, T k → S k ∨ w.heap.size ≤ k) : AcI w' T l := fun x hx => (h x hx).only ho hS hT
theorem AcI.new {w w' : World} {S : Nat → Prop} {l : List Acv} (h : AcI w S l) (hb : Below w.heap.size w w') : AcI w' S l := fun x hx => (h x hx).new hb
theorem AcI.app {w : World} {S : Nat → Prop} {l : List Acv} {x : Acv} (h : AcI w S l) (h1 : AcI1 w S x) : AcI w S (l ++ [x]) := fun y hy => by
  rcases List.mem_append.1 hy with hy | hy
  · exact h y hy
  · simp at hy; subst hy; exact h1
theorem AcI.acin {w : World} {S : Nat → Prop} {l : List Acv} (h : AcI w S l) : AcIn w l := fun x hx => (h x hx).1

theorem lo_joinP : ∀ (l : List Byt), (∀ x ∈ l, Lo x) → Lo (joinP l)
  | [], _ => lo_nil
  | x :: r, h => fun b hb => by
    simp only [joinP] at hb
    rcases List.mem_cons.1 hb with rfl | hb
    · decide
    · rcases List.mem_append.1 hb with hb | hb
      · exact h x (by simp) b hb
      · exact lo_joinP r (fun y hy => h y (by simp [hy])) b hb
theorem getD_in (l : List Byt) (k : Nat) : l.getD k [] ∈ l ∨ l.getD k [] = [] := by
  rw [List.getD_eq_getElem?_getD]
  rcases h : l[k]? with _ | x
  · exact .inr rfl
  · exact .inl (List.mem_of_getElem? h)
theorem lo_pathBy (n : Int) : Lo (pathBy n) := by
  refine lo_joinP _ fun x hx => ?_
  obtain ⟨i, -, rfl⟩ := List.mem_map.1 hx
  unfold pbAt
  rcases getD_in letters ((n.tdiv (7 * ((i : Int) + 1))) % 4).toNat with h | h
  · have : ∀ x ∈ letters, ∀ b ∈ x, b < 122 := by decide
    exact this _ h
  · rw [h]; exact lo_nil
def LoA (l : List Acv) : Prop := ∀ x ∈ l, Lo x.a.path ∧ Lo x.a.to
theorem LoA.app {l : List Acv} {x : Acv} (h : LoA l) (hx : Lo x.a.path ∧ Lo x.a.to) : LoA (l ++ [x]) := fun y hy => by
  rcases List.mem_append.1 hy with hy | hy
  · exact h y hy
  · simp at hy; subst hy; exact hx
def AcsI (w : World) (n m : Nat) (o i : Value) (wr : World) : Prop :=
  ∃ (k : Nat) (A : Option Addr) (c : Nat) (xs : List Acv), k ≤ n ∧ k ≤ m ∧ i = .int .i64 k ∧ o = .slice A k c ∧ OwnL acS 36 wr w.heap.size A k c xs ∧ AcI wr (fun j => (Value.slice A k c).ownBlock = some j) xs ∧ Below w.heap.size w wr ∧ LoA xs
def RetAs (w : World) (m : Nat) (e : Ending) (w' : World) : Prop :=
  ∃ k A c xs, e = .returned (.slice A k c) ∧ k ≤ m ∧ OwnL acS 36 w' w.heap.size A k c xs ∧ AcI w' (fun j => (Value.slice A k c).ownBlock = some j) xs ∧ Below w.heap.size w w' ∧ LoA xs
theorem Bx.all6 {t : TypeId} {w : World} {B : Nat} {a b c d e f : Value} (h : Bx t w B #[a, b, c, d, e, f]) :
    B < w.heap.size ∧ w.cell? ⟨B, 0, none⟩ = some a ∧ w.cell? ⟨B, 1, none⟩ = some b ∧ w.cell? ⟨B, 2, none⟩ = some c ∧ w.cell? ⟨B, 3, none⟩ = some d ∧ w.cell? ⟨B, 4, none⟩ = some e ∧ w.cell? ⟨B, 5, none⟩ = some f ∧
    w.frozen? ⟨B, 0, none⟩ = false ∧ w.frozen? ⟨B, 1, none⟩ = false ∧ w.frozen? ⟨B, 2, none⟩ = false ∧ w.frozen? ⟨B, 3, none⟩ = false ∧ w.frozen? ⟨B, 4, none⟩ = false ∧ w.frozen? ⟨B, 5, none⟩ = false :=
  ⟨h.lt, h.cell 0 _ rfl, h.cell 1 _ rfl, h.cell 2 _ rfl, h.cell 3 _ rfl, h.cell 4 _ rfl, h.cell 5 _ rfl, h.soft 0, h.soft 1, h.soft 2, h.soft 3, h.soft 4, h.soft 5⟩
theorem Bx.put6 {t : TypeId} {w : World} {B : Nat} {a b c d e f : Value} (h : Bx t w B #[a, b, c, d, e, f]) (a' b' c' d' e' f' : Value) : Bx t ((((((w.setCell ⟨B, 0, none⟩ a').setCell ⟨B, 1, none⟩ b').setCell ⟨B, 2, none⟩ c').setCell ⟨B, 3, none⟩ d').setCell ⟨B, 4, none⟩ e').setCell ⟨B, 5, none⟩ f') B #[a', b', c', d', e', f'] := (((((h.set 0 _).set 1 _).set 2 _).set 3 _).set 4 _).set 5 _
theorem below_store6 {w0 w : World} {K S : Nat} (h : Below K w0 w) (hS : K ≤ S) (v0 v1 v2 v3 v4 v5 : Value) :
    Below K w0 ((((((w.setCell ⟨S, 0, none⟩ v0).setCell ⟨S, 1, none⟩ v1).setCell ⟨S, 2, none⟩ v2).setCell ⟨S, 3, none⟩ v3).setCell ⟨S, 4, none⟩ v4).setCell ⟨S, 5, none⟩ v5) := (((((h.setCell hS _).setCell hS _).setCell hS _).setCell hS _).setCell hS _).setCell hS _

/-- an act lies in a box -/
def AcX (w : World) (p : Value) (wx : World) : Prop :=
  ∃ q y, p = .pointer (some ⟨q, 0, none⟩) ∧ w.heap.size ≤ q ∧ Bx 36 wx q (acV y) ∧ AcI1 wx (fun k => k < w.heap.size) y ∧ Below w.heap.size w wx ∧ Lo y.a.path ∧ Lo y.a.to

theorem only_set6 (w : World) (B j : Nat) (u : Value) : Only (fun k => k = B) w (w.setCell ⟨B, j, none⟩ u) := (Only.refl (fun k => k = B) w).setCell (.inl rfl) u
theorem acX_plain {wr wx : World} {q : Nat} (k a b : Int) (p t : Byt) (h8 : wr.heap.size ≤ q) (hx : Bx 36 wx q #[.int .i64 k, .string (tx p), .string (tx t), .int .i64 a, .int .i64 b, .slice none 0 0]) (hb : Below wr.heap.size wr wx) (hlp : Lo p) (hlt : Lo t) : AcX wr (.pointer (some ⟨q, 0, none⟩)) wx :=
  ⟨q, ⟨⟨k, p, t, a, b, []⟩, none, 0, 0⟩, rfl, h8, hx, ⟨⟨Ls.nil _ _, rfl, by simp⟩, Clear.none _⟩, hb, hlp, hlt⟩

set_option maxRecDepth 100000 in
set_option maxHeartbeats 4000000 in
theorem acts_any (L : Option Addr) (n c m : Nat) (l : List Jv) (w : World) (hb : Ls jbS w L l) (hl : l.length = n) (hin : JIn w l) (hn : n ≤ 100000000000000) (hm : m ≤ 300) :
    Calls Tryd.prog 9 #[.slice L n c, .int .i64 m] w (RetAs w m) := by
  have HL := Lib.hid hb
  have HN := Lib.hid hl
  have HI := Lib.hid hin
  clear hb hl hin
  go_enter Tryd.func9, Tryd.ntmps9
  go_wp2
  go_loopw [5, 6] (fun o i wr => AcsI w n m o i wr) (fun _ i _ => n - (intOf i).toNat)
  case atStart => exact ⟨0, none, 0, [], Nat.zero_le _, Nat.zero_le _, rfl, rfl, OwnL.nil _ _, fun x hx => by (cases hx), Below.refl _ _, fun x hx => by (cases hx)⟩
  case round =>
    obtain ⟨k, A, c', xs, hk, hkm, rfl, rfl, hown, hei, hbw, hlo⟩ := hrel
    have HLO := Lib.hid hlo
    have HOW := Lib.hid hown
    have HEI := Lib.hid hei
    have HBW := Lib.hid hbw
    clear hown hei hbw hlo
    by_cases hlt : k < n
    · have hki : decide ((k : Int) < (n : Int)) = true := by simp; omega
      by_cases hltm : k < m
      · have hkm2 : decide ((k : Int) < (m : Int)) = true := by simp; omega
        obtain ⟨x, hx⟩ : ∃ x, l[k]? = some x := ⟨_, List.getElem?_eq_getElem (by rw [HN.out]; exact hlt)⟩
        obtain ⟨bL, oL, rfl, hbl, hcc⟩ := (HL.out.below HBW.out).at k x hx
        obtain ⟨hd1, hd2, hd3, hd4, hd5, hd6, hd7, hd8⟩ := HI.out x (List.mem_of_getElem? hx)
        have g0 := hcc 0 (.int .i64 x.kind) rfl
        have g1 := hcc 1 (.int .i64 x.a) rfl
        have g2 := hcc 2 (.int .i64 x.b) rfl
        have g3 := hcc 3 (.slice x.D x.n x.c) rfl
        simp only [jbS, Nat.add_zero] at g0 g1 g2 g3
        have HDW : Hid (Ls byS w x.D x.data) := Lib.hid hd1
        have HD2 := Lib.hid hd2
        have HD5 := Lib.hid hd5
        have HD6 := Lib.hid hd6
        have HD7 := Lib.hid hd7
        have HD8 := Lib.hid hd8
        obtain ⟨kd, hkd, hkd10⟩ := pick_nat x.kind 10 (by omega)
        have HPK := Lib.hid (fun wx => picked_n x.kind 10 kd wx hkd hd6.1 hd6.2 (by omega) (by omega))
        have HPA := Lib.hid (fun wx => pathBy_any x.a wx hd7.1 hd7.2)
        obtain ⟨q7, hq7⟩ : ∃ q, q = wr.heap.size := ⟨_, rfl⟩
        obtain ⟨w6, hw6⟩ : ∃ w6, w6 = wr.alloc (.cells #[.int .i64 x.kind, .int .i64 x.a, .int .i64 x.b, .slice x.D x.n x.c] 49) := ⟨_, rfl⟩
        have HB6 : Hid (Below wr.heap.size wr w6) := Lib.hid (by rw [hw6]; exact ba1 _ _)
        have HX7 : Hid (Bx 49 w6 q7 #[.int .i64 x.kind, .int .i64 x.a, .int .i64 x.b, .slice x.D x.n x.c]) := Lib.hid (by rw [hw6, hq7]; exact bx_new _ _ _)
        have HQ7 := Lib.hid hq7
        have HS6 : Hid (w6.heap.size = q7 + 1) := Lib.hid (by rw [hw6, hq7]; simp)
        clear hcc hx hd1 hd2 hd5 hd6 hd7 hd8
        go_upto_region 6 with fail
        rw [← hw6, ← hq7]
        clear hw6 g0 g1 g2 g3 hbl hq7
        have j0 := HX7.out.cell 0 (.int .i64 x.kind) rfl
        have j1 := HX7.out.cell 1 (.int .i64 x.a) rfl
        have jl := HX7.out.lt
        have hw11 : IntKind.i64.wrap (1 + (kd : Int)) = 1 + (kd : Int) := by rw [IntKind.wrap_i64]; omega
        go_cut [8] (fun p wx => ∃ q, p = .pointer (some ⟨q, 0, none⟩) ∧ Hid (w6.heap.size ≤ q) ∧ Hid (Bx 36 wx q #[.int .i64 (1 + (kd : Int)), .string (tx (pathBy x.a)), .string ⟨#[]⟩, .int .i64 0, .int .i64 0, .slice none 0 0]) ∧ Hid (Below w6.heap.size w6 wx))
        case first =>
          have HW2 : Hid (Below w6.heap.size w6 (w6.alloc (.cells #[.int .i64 0, .string ⟨#[]⟩, .string ⟨#[]⟩, .int .i64 0, .int .i64 0, .slice none 0 0] 36)).drew) := Lib.hid (ba1 _ _).drew
          have HX2 : Hid (Bx 36 (w6.alloc (.cells #[.int .i64 0, .string ⟨#[]⟩, .string ⟨#[]⟩, .int .i64 0, .int .i64 0, .slice none 0 0] 36)).drew w6.heap.size #[.int .i64 0, .string ⟨#[]⟩, .string ⟨#[]⟩, .int .i64 0, .int .i64 0, .slice none 0 0]) := Lib.hid ((bx_new w6 _ _).below (Below.refl _ _).drew)
          go_region_law (first
            | (go_simp; go_at_call 12; (with_reducible refine (HPK.out _).mono ?_); rintro e w' ⟨rfl, rfl⟩)
            | (go_simp; go_at_call 10; (with_reducible refine (HPA.out w6.drew).mono ?_); rintro e w5 ⟨rfl, hb5⟩; have HB5 : Hid (Below w6.heap.size w6 w5) := Lib.hid ((Below.refl _ _).drew.trans hb5); clear hb5)
            | (go_simp; go_at_call 10; (with_reducible refine (HPA.out (w6.alloc (.cells #[.int .i64 0, .string ⟨#[]⟩, .string ⟨#[]⟩, .int .i64 0, .int .i64 0, .slice none 0 0] 36)).drew).mono ?_); rintro e w7 ⟨rfl, hb7⟩; have HX72 := Lib.hid (HX2.out.below hb7); have HB7 : Hid (Below w6.heap.size w6 w7) := Lib.hid (bthen HW2.out hb7); obtain ⟨l7, v0, v1, v2, v3, v4, v5, f0, f1, f2, f3, f4, f5⟩ := HX72.out.all6; clear hb7))
          all_goals
            go_wp2_with fail
            go_meet
            first
              | exact ⟨w5.heap.size, rfl, Lib.hid HB5.out.size, Lib.hid (bx_new w5 _ _), Lib.hid (HB5.out.alloc HB5.out.size _)⟩
              | exact ⟨w6.heap.size, rfl, Lib.hid (Nat.le_refl _), Lib.hid (HX72.out.put6 (.int .i64 (1 + (kd : Int))) (.string (tx (pathBy x.a))) (.string ⟨#[]⟩) (.int .i64 0) (.int .i64 0) (.slice none 0 0)), Lib.hid (below_store6 HB7.out (Nat.le_refl _) _ _ _ _ _ _)⟩
        case rest =>
          obtain ⟨q8, rfl, HQ8, HX8, HB8⟩ := hcut
          obtain ⟨w8, hw8⟩ : ∃ w8, w8 = wc := ⟨_, rfl⟩
          subst hw8
          obtain ⟨kk, hkk⟩ : ∃ kk : Int, kk = 1 + (kd : Int) := ⟨_, rfl⟩
          rw [← hkk] at HX8
          have hk10 : kk = 1 ∨ kk = 2 ∨ kk = 3 ∨ kk = 4 ∨ kk = 5 ∨ kk = 6 ∨ kk = 7 ∨ kk = 8 ∨ kk = 9 ∨ kk = 10 := by omega
          have HX78 := Lib.hid (HX7.out.below HB8.out)
          have HBR8 : Hid (Below wr.heap.size wr w8) := Lib.hid (bthen HB6.out HB8.out)
          have HBW8 : Hid (Below w.heap.size w w8) := Lib.hid (bthen HBW.out HBR8.out)
          have HRQ : Hid (wr.heap.size ≤ q8) := Lib.hid (by have := HQ8.out; have := HS6.out; have := HQ7.out; omega)
          have HWQ : Hid (w.heap.size ≤ q8) := Lib.hid (Nat.le_trans HBW.out.size HRQ.out)
          have j2 := HX78.out.cell 2 (.int .i64 x.b) rfl
          have j3 := HX78.out.cell 3 (.slice x.D x.n x.c) rfl
          have l7 := HX78.out.lt
          have hq78 : ¬ q7 = q8 := by have := HQ8.out; have := HS6.out; omega
          have hq87 : ¬ q8 = q7 := fun h => hq78 h.symm
          obtain ⟨pth, hpth⟩ : ∃ s, s = pathBy x.a := ⟨_, rfl⟩
          rw [← hpth] at HX8
          have HLP : Hid (Lo pth) := Lib.hid (by rw [hpth]; exact lo_pathBy _)
          obtain ⟨pb, hpb, hpb60⟩ := pick_nat x.b 60 (by omega)
          have HPB := Lib.hid (fun wx => picked_n x.b 60 pb wx hpb HD8.out.1 HD8.out.2 (by omega) (by omega))
          have HPP := Lib.hid (fun wx => pathBy_any x.b wx HD8.out.1 HD8.out.2)
          obtain ⟨ptb, hptb⟩ : ∃ s, s = pathBy x.b := ⟨_, rfl⟩
          rw [← hptb] at HPP
          have HLB : Hid (Lo ptb) := Lib.hid (by rw [hptb]; exact lo_pathBy _)
          clear j0 j1 jl hw11 hkk hkd10 hpth hptb hpb60
          obtain ⟨l8, p0, p1, p2, p3, p4, p5, y0, y1, y2, y3, y4, y5⟩ := HX8.out.all6
          go_upto_block 2 with fail
          go_cut [8] (fun p wx => AcX wr p wx)
          case first =>
            rcases hk10 with rfl | rfl | rfl | rfl | rfl | rfl | rfl | rfl | rfl | rfl
            · go_wp2_with fail
              go_meet
              exact acX_plain 1 0 0 pth [] HRQ.out HX8.out HBR8.out HLP.out lo_nil
            · go_wp2_with fail
              go_meet
              exact acX_plain 2 0 0 pth [] HRQ.out HX8.out HBR8.out HLP.out lo_nil
            · obtain ⟨mm, hmm⟩ : ∃ q, q = min x.n 40 := ⟨_, rfl⟩
              have HMM := Lib.hid hmm
              have HXS : Hid (Bx 36 (w8.setCell ⟨q8, 3, none⟩ (.int .i64 (pb : Int))) q8 #[.int .i64 3, .string (tx pth), .string ⟨#[]⟩, .int .i64 (pb : Int), .int .i64 0, .slice none 0 0]) := Lib.hid (HX8.out.set 3 _)
              have HBS : Hid (Below w.heap.size w (w8.setCell ⟨q8, 3, none⟩ (.int .i64 (pb : Int)))) := Lib.hid (HBW8.out.setCell HWQ.out _)
              have HBRS : Hid (Below wr.heap.size wr (w8.setCell ⟨q8, 3, none⟩ (.int .i64 (pb : Int)))) := Lib.hid (HBR8.out.setCell HRQ.out _)
              have HDS : Hid (Ls byS (w8.setCell ⟨q8, 3, none⟩ (.int .i64 (pb : Int))) x.D x.data) := Lib.hid (HDW.out.below HBS.out)
              clear hmm
              go_wp2_with (first
                | (go_at_call 12; (with_reducible refine (HPB.out _).mono ?_); rintro e w' ⟨rfl, rfl⟩)
                | (go_at_call 11; refine (octets_any x.D x.n x.c 40 mm x.data (w8.setCell ⟨q8, 3, none⟩ (.int .i64 (pb : Int))) HDS.out HD2.out hd3 (by omega) (by omega) HMM.out).mono ?_; rintro e w9 ⟨A9, c9, rfl, ho9, hb9⟩; have HO9 := Lib.hid ho9; have HB9 := Lib.hid hb9; have HX9 := Lib.hid (HXS.out.below hb9); clear ho9 hb9; obtain ⟨l9, -, -, -, -, -, r5, -, -, -, -, -, z5⟩ := HX9.out.all6))
              go_meet
              have hsz : wr.heap.size ≤ (w8.setCell ⟨q8, 3, none⟩ (.int .i64 (pb : Int))).heap.size := HBRS.out.size
              have hq8s : q8 < (w8.setCell ⟨q8, 3, none⟩ (.int .i64 (pb : Int))).heap.size := HXS.out.lt
              have hown := HO9.out.lt
              have hon := only_set6 w9 q8 5 (.slice A9 mm c9)
              have hz9 := hon.size
              have ho10 := HO9.out.only hon (fun k hk hs => by have := (hown k hk).1; omega)
              exact ⟨q8, ⟨⟨3, pth, [], pb, 0, x.data.take mm⟩, A9, mm, c9⟩, rfl, HRQ.out, HX9.out.set 5 _, ⟨⟨ho10.ls, ho10.1, fun z hz => HD5.out z (List.mem_of_mem_take hz)⟩, clear_of_own ho10.2 (fun k hk => hk.imp (fun g => by omega) id)⟩, (bthen HBRS.out HB9.out).setCell HRQ.out _, HLP.out, lo_nil⟩
            · obtain ⟨v, hv⟩ : ∃ v, v = x.b.tdiv 60 := ⟨_, rfl⟩
              obtain ⟨hv1, hv2⟩ : -9223372036854775808 ≤ v ∧ v ≤ 9223372036854775807 := by rw [hv]; exact tdiv_b x.b 60 (by omega) HD8.out.1 HD8.out.2 (by omega)
              obtain ⟨pc, hpc, hpc60⟩ := pick_nat v 60 (by omega)
              have HPC := Lib.hid (fun wx => picked_n v 60 pc wx hpc hv1 hv2 (by omega) (by omega))
              have hw : IntKind.i64.wrap (x.b.tdiv 60) = v := by rw [← hv, IntKind.wrap_i64]; omega
              clear hv hv1 hv2 hpc60
              go_wp2_with (first
                | (go_at_call 12; (with_reducible refine (HPB.out _).mono ?_); rintro e w' ⟨rfl, rfl⟩)
                | (go_at_call 12; (with_reducible refine (HPC.out _).mono ?_); rintro e w' ⟨rfl, rfl⟩))
              go_meet
              exact acX_plain 4 pb pc pth [] HRQ.out ((HX8.out.set 3 _).set 4 _) ((HBR8.out.setCell HRQ.out _).setCell HRQ.out _) HLP.out lo_nil
            · go_wp2_with (go_at_call 12; (with_reducible refine (HPB.out _).mono ?_); rintro e w' ⟨rfl, rfl⟩)
              go_meet
              exact acX_plain 5 0 pb pth [] HRQ.out (HX8.out.set 4 _) (HBR8.out.setCell HRQ.out _) HLP.out lo_nil
            · go_wp2_with fail
              go_meet
              exact acX_plain 6 0 0 pth [] HRQ.out HX8.out HBR8.out HLP.out lo_nil
            · go_wp2_with fail
              go_meet
              exact acX_plain 7 0 0 pth [] HRQ.out HX8.out HBR8.out HLP.out lo_nil
            · go_wp2_with fail
              go_meet
              exact acX_plain 8 0 0 pth [] HRQ.out HX8.out HBR8.out HLP.out lo_nil
            · clear p1 p2 p3 p4 p5 y0 y1 y2 y3 y4 y5
              go_wp2_with (go_at_call 10; (with_reducible refine (HPP.out _).mono ?_); rintro e w9 ⟨rfl, hb9⟩; have HB9 := Lib.hid hb9; have HX9 := Lib.hid (HX8.out.below hb9); clear hb9; obtain ⟨l9, -, -, r2, -, -, -, -, -, z2, -, -, -⟩ := HX9.out.all6)
              go_meet
              exact acX_plain 9 0 0 pth ptb HRQ.out (HX9.out.set 2 _) ((bthen HBR8.out HB9.out).setCell HRQ.out _) HLP.out HLB.out
            · clear p1 p2 p3 p4 p5 y0 y1 y2 y3 y4 y5
              by_cases hb3 : x.b.tmod 3 = 0
              · have hb3i : (x.b.tmod 3 == 0) = true := by simp [hb3]
                obtain ⟨v, hv⟩ : ∃ v, v = x.b.tdiv 3 := ⟨_, rfl⟩
                obtain ⟨hv1, hv2⟩ : -9223372036854775808 ≤ v ∧ v ≤ 9223372036854775807 := by rw [hv]; exact tdiv_b x.b 3 (by omega) HD8.out.1 HD8.out.2 (by omega)
                obtain ⟨pc, hpc, hpc4⟩ := pick_nat v 4 (by omega)
                have HPC := Lib.hid (fun wx => picked_n v 4 pc wx hpc hv1 hv2 (by omega) (by omega))
                have hw : IntKind.i64.wrap (x.b.tdiv 3) = v := by rw [← hv, IntKind.wrap_i64]; omega
                have hpp : pc = 0 ∨ pc = 1 ∨ pc = 2 ∨ pc = 3 := by omega
                clear hv hv1 hv2 hpc4 hb3 hpc
                rcases hpp with rfl | rfl | rfl | rfl
                all_goals
                  go_wp2_with (first
                    | (go_at_call 10; (with_reducible refine (HPP.out _).mono ?_); rintro e w9 ⟨rfl, hb9⟩; have HB9 := Lib.hid hb9; have HX9 := Lib.hid (HX8.out.below hb9); have HX79 := Lib.hid (HX78.out.below hb9); clear hb9; obtain ⟨l9, -, -, r2, -, -, -, -, -, z2, -, -, -⟩ := HX9.out.all6; have m2 := HX79.out.cell 2 (.int .i64 x.b) rfl; have l79 := HX79.out.lt)
                    | (go_at_call 12; (with_reducible refine (HPC.out _).mono ?_); rintro e w' ⟨rfl, rfl⟩))
                  go_meet
                  have hbe := ((bthen HBR8.out HB9.out).setCell (p := ⟨q8, 2, none⟩) HRQ.out (.string (tx ptb)))
                  first
                    | exact acX_plain 10 0 0 pth [46, 46] HRQ.out (((HX9.out.set 2 _).set 2 _).below (ba1 _ _)) ((hbe.setCell HRQ.out _).alloc (hbe.setCell (p := ⟨q8, 2, none⟩) HRQ.out (.string ⟨#[46, 46]⟩)).size _) HLP.out (by unfold Lo; decide)
                    | exact acX_plain 10 0 0 pth [97] HRQ.out (((HX9.out.set 2 _).set 2 _).below (ba1 _ _)) ((hbe.setCell HRQ.out _).alloc (hbe.setCell (p := ⟨q8, 2, none⟩) HRQ.out (.string ⟨#[97]⟩)).size _) HLP.out (by unfold Lo; decide)
                    | exact acX_plain 10 0 0 pth [46, 46, 47, 98] HRQ.out (((HX9.out.set 2 _).set 2 _).below (ba1 _ _)) ((hbe.setCell HRQ.out _).alloc (hbe.setCell (p := ⟨q8, 2, none⟩) HRQ.out (.string ⟨#[46, 46, 47, 98]⟩)).size _) HLP.out (by unfold Lo; decide)
                    | exact acX_plain 10 0 0 pth [46] HRQ.out (((HX9.out.set 2 _).set 2 _).below (ba1 _ _)) ((hbe.setCell HRQ.out _).alloc (hbe.setCell (p := ⟨q8, 2, none⟩) HRQ.out (.string ⟨#[46]⟩)).size _) HLP.out (by unfold Lo; decide)
              · have hb3i : (x.b.tmod 3 == 0) = false := by simp [hb3]
                clear hb3
                go_wp2_with (go_at_call 10; (with_reducible refine (HPP.out _).mono ?_); rintro e w9 ⟨rfl, hb9⟩; have HB9 := Lib.hid hb9; have HX9 := Lib.hid (HX8.out.below hb9); have HX79 := Lib.hid (HX78.out.below hb9); clear hb9; obtain ⟨l9, -, -, r2, -, -, -, -, -, z2, -, -, -⟩ := HX9.out.all6; have m2 := HX79.out.cell 2 (.int .i64 x.b) rfl; have l79 := HX79.out.lt)
                go_meet
                exact acX_plain 10 0 0 pth ptb HRQ.out (HX9.out.set 2 _) ((bthen HBR8.out HB9.out).setCell HRQ.out _) HLP.out HLB.out
          case rest =>
            obtain ⟨q, y, rfl, hqr, hxb, hdy, hbc, hly⟩ := hcut
            have HLY := Lib.hid hly
            clear hly
            obtain ⟨wd, hwd⟩ : ∃ wd, wd = wc := ⟨_, rfl⟩
            subst hwd
            have HDY := Lib.hid hdy
            have HBC := Lib.hid hbc
            obtain ⟨l9, b0, b1, b2, b3, b4, b5, -⟩ := hxb.all6
            have HOWd : Hid (OwnL acS 36 wd w.heap.size A k c' xs) := Lib.hid (HOW.out.below hbc)
            clear hxb hdy hbc j2 j3 l7 p0 p1 p2 p3 p4 p5 y0 y1 y2 y3 y4 y5 l8
            go_wp2_with (at_builtin; refine wpList_appL (F := acS) rfl _ (.tmp 85) (.tmp 87) 24 rfl _ 80 Tryd.underlying24 acInfo rfl w.heap.size A k c' xs rfl (HOWd.out.below (ba1 _ _)) (some ⟨wd.heap.size, 0, none⟩) 1 1 [y] rfl (ls_new wd _ _ _ rfl _ rfl) rfl (k + 1) rfl (by omega) (by omega) (by have := HBC.out.size; have := HBW.out.size; simp; omega) ?_; intro A8 c8 w9 ho8 hb8 hs8; have HO8 := Lib.hid ho8; have HB9 := Lib.hid hb8; have HS8 := Lib.hid hs8; clear ho8 hb8 hs8)
            refine ⟨⟨k + 1, A8, c8, xs ++ [y], by omega, by omega, by go_num, rfl, HO8.out, ?_, ?_, HLO.out.app HLY.out⟩, by simp [intOf]; omega⟩
            · have h1 : AcI wd (fun j => (Value.slice A k c').ownBlock = some j) (xs ++ [y]) := by
                refine (HEI.out.new HBC.out).app (HDY.out.only (S' := fun _ => False) (Only.refl _ _) (fun _ h => h.elim) (fun j hj => .inl ?_))
                exact (HOW.out.lt j hj).2
              exact AcI.only (h1.new (ba1 _ _)) (HS8.out.only HB9.out) (fun j hj => .inl hj) (fun j hj => HS8.out.own j hj)
            · exact ((HBW.out.trans (HBC.out.mono HBW.out.size)).trans ((ba1 wd _).mono (by have := HBC.out.size; have := HBW.out.size; omega))).trans (HB9.out.mono (Nat.le_refl _))
      · have hkm2 : decide ((k : Int) < (m : Int)) = false := by simp; omega
        go_wp2_with fail
        go_ret
        exact ⟨k, A, c', xs, rfl, hkm, HOW.out, HEI.out, HBW.out, HLO.out⟩
    · have hki : decide ((k : Int) < (n : Int)) = false := by simp; omega
      go_wp2_with fail
      go_ret
      exact ⟨k, A, c', xs, rfl, hkm, HOW.out, HEI.out, HBW.out, HLO.out⟩

end Go.Proofs.YtdekpmidaleipaaDoor

namespace Go.Proofs.YtdekpmidaleipaaDoor
open Go.Joins Go.ChangeShapes Go.WideShapes Go.ChangeAt Go.RowKit Go.Deep
set_option linter.unusedVariables false

theorem jobSize : Tryd.prog.bytesOf 49 = 48 := by kernel_rfl
theorem jb_each {H : Type} {enc : TypeId × Value → H} {W : World} {fs : Array Field} (hu : Tryd.prog.underlying 49 = some (.struct fs)) (n : Nat) (vs : List Value) (ys : List (DataW H × List MemPlace)) (hv : vs.length = 4) (hy : ys.length = 4)
    (hf : ∀ (j : Nat) f u, fs[j]? = some f → vs[j]? = some u → DataW.trod enc Tryd.prog W 0 (fun _ => true) true n f.type [u] = ys[j]?) (hw : ∀ z ∈ DataW.weightsEach Tryd.prog (fs.toList.map (·.type)) (ys.map (·.1)), z ≤ reachBytes) :
    ∃ y : Jv, jbS.cells y = vs ∧ (Ls byS W y.D y.data ∧ y.data.length = y.n ∧ y.n ≤ y.c ∧ y.c ≤ 140737488351232 ∧ (∀ z ∈ y.data, 0 ≤ z ∧ z ≤ 255) ∧ (-9223372036854775808 ≤ y.kind ∧ y.kind ≤ 9223372036854775807) ∧ (-9223372036854775808 ≤ y.a ∧ y.a ≤ 9223372036854775807) ∧ (-9223372036854775808 ≤ y.b ∧ y.b ≤ 9223372036854775807)) := by
  have hu' := Tryd.underlying49
  rw [hu] at hu'
  injection hu' with hu'
  injection hu' with hu'
  subst hu'
  match vs, ys, hv, hy with
  | [v0, v1, v2, v3], [y0, y1, y2, y3], _, _ =>
    have w3 : ∀ z ∈ y3.1.weights Tryd.prog 23, z ≤ reachBytes := fun z hz => hw z (DataW.weights_mem_each (j := 3) rfl rfl z hz)
    obtain ⟨z0, e0, _, o0⟩ := DataW.trod_int Tryd.underlying3 (hf 0 _ _ rfl rfl)
    obtain ⟨z1, e1, _, o1⟩ := DataW.trod_int Tryd.underlying3 (hf 1 _ _ rfl rfl)
    obtain ⟨z2, e2, _, o2⟩ := DataW.trod_int Tryd.underlying3 (hf 2 _ _ rfl rfl)
    obtain ⟨A3, n3, c3, l3, rfl, g1, g2, g3, g4, g5⟩ := open_by (hf 3 _ _ rfl rfl) w3
    simp at e0 e1 e2
    subst e0; subst e1; subst e2
    exact ⟨⟨z0, z1, z2, l3, A3, n3, c3⟩, rfl, g1, g2, g3, g4, g5, by simpa [Lit.wf, IntKind.min, IntKind.max, IntKind.signed, IntKind.bits] using o0, by simpa [Lit.wf, IntKind.min, IntKind.max, IntKind.signed, IntKind.bits] using o1, by simpa [Lit.wf, IntKind.min, IntKind.max, IntKind.signed, IntKind.bits] using o2⟩

set_option maxRecDepth 100000 in
theorem open_jbs {H : Type} {enc : TypeId × Value → H} {W : World} {base : Nat} {v : Value} {d : DataW H} {ps : List MemPlace}
    (hval : Value.okWide Tryd.prog W .any base 22 v) (h : DataW.Trod enc Tryd.prog W 0 (fun _ => true) true 22 v d ps) (hs : ∀ z ∈ d.weights Tryd.prog 22, z ≤ reachBytes) :
    ∃ A n c l, v = .slice A n c ∧ Ls jbS W A l ∧ l.length = n ∧ n ≤ c ∧ c ≤ 3518437208782 ∧ JIn W l := by
  obtain ⟨A, n, c, rfl⟩ := okWide_slice Tryd.underlying22 hval
  obtain ⟨fuel, hf⟩ := h
  have hf' : DataW.trod enc Tryd.prog W 0 (fun _ => true) true fuel 22 [.slice A n c] = some (d, ps) := by simpa [Value.cells] using hf
  obtain ⟨A', n', c', l, h1, h2, h3, h4, h5, h6⟩ := open_rows (F := jbS) Tryd.underlying22 Tryd.underlying49 (by kernel_rfl) rfl (fun j f hj => hone_of (by kernel_rfl) j f hj) (jb_each Tryd.underlying49) hf' hs
  rw [jobSize] at h5
  simp only [reachBytes] at h5
  injection h1 with e1 e2 e3
  subst e1; subst e2; subst e3
  exact ⟨A, n, c, l, rfl, h2, h3, h4, by omega, h6⟩

end Go.Proofs.YtdekpmidaleipaaDoor
