/-
  The walk of GlobHoles.
-/
import Derived.Test.YtmcgjkhbljdddaaGlobWords
namespace Go.Proofs.Ytmcgjkhbljdddaa
open Go.RowKit
set_option linter.unusedVariables false
set_option linter.unusedSimpArgs false

/-- a pattern of bytes that are themselves, and of runs -/
def pbT (P : List (Option UInt8)) : Byt := P.map fun o => o.getD 42
def itO : Option UInt8 → Gi
  | none => ⟨42, 0, [], false⟩
  | some b => ⟨61, b, [], false⟩
def PlainO (P : List (Option UInt8)) : Prop := ∀ b, some b ∈ P → b ≠ 42 ∧ b ≠ 63 ∧ b ≠ 92 ∧ b ≠ 91
def mtO (P : List (Option UInt8)) (s : Byt) : Bool := mt ((P.map itO).map gpOf) s
theorem it_plain : ∀ {P : List (Option UInt8)}, PlainO P → itT (pbT P) = some (P.map itO)
  | [], _ => rfl
  | o :: r, h => by
    have ih := it_plain (P := r) fun b hb => h b (by simp [hb])
    have e : pbT (o :: r) = o.getD 42 :: pbT r := rfl
    rcases o with _ | b
    · rw [e]; show itT (42 :: pbT r) = _; rw [itT_some (fsT_any (pbT r) (.inl rfl)), ih]; rfl
    · obtain ⟨h1, h2, h3, h4⟩ := h b (by simp)
      rw [e]; show itT (b :: pbT r) = _; rw [itT_some (fsT_one (c := b) (pbT r) h1 h2 h3 h4), ih]; rfl
theorem mat_plain {P : List (Option UInt8)} {s : Byt} (h : PlainO P) (hl : P.length ≤ 39) (hs : s.length ≤ 199) :
    matT (pbT P) s = (mtO P s, 0) ∧ matT (97 :: pbT P) (98 :: s) = (false, 0) ∧ matT (63 :: pbT P) (98 :: s) = (mtO P s, 0) ∧ (mtO P s = true → matT (42 :: pbT P) (98 :: s) = (true, 0)) := by
  have hlen : (pbT P).length = P.length := by unfold pbT; rw [List.length_map]
  have hp : patT (pbT P) = some (P.map itO) := by unfold patT; rw [if_neg (by omega)]; exact it_plain h
  have hq : ∀ (c : UInt8) it, fsT (c :: pbT P) = some (it, pbT P) → patT (c :: pbT P) = some (it :: P.map itO) := fun c it hf => by
    unfold patT
    rw [if_neg (by rw [List.length_cons]; omega), itT_some hf, it_plain h]; rfl
  have h1 := hq 97 _ (fsT_one (c := 97) _ (by decide) (by decide) (by decide) (by decide))
  have h2 := hq 63 _ (fsT_any (c := 63) _ (.inr rfl))
  have h3 := hq 42 _ (fsT_any (c := 42) _ (.inl rfl))
  have hs1 : ¬ 200 < (98 :: s).length := by rw [List.length_cons]; omega
  have hs0 : ¬ 200 < s.length := by omega
  refine ⟨?_, ?_, ?_, fun hm => ?_⟩
  · unfold matT; rw [hp]; simp only []; rw [if_neg hs0]; rfl
  · unfold matT; rw [h1]; simp only []; rw [if_neg hs1]; simp [mt, gpOf, takesG]
  · unfold matT; rw [h2]; simp only []; rw [if_neg hs1]; simp [mt, gpOf, takesG, mtO]
  · unfold matT; rw [h3]; simp only []; rw [if_neg hs1]
    congr 1
    rw [List.map_cons]
    exact (mt_run (p := gpOf ⟨42, 0, [], false⟩) rfl).2 ⟨1, by simp, hm⟩
theorem mtO_lits : ∀ l : Byt, mtO (l.map some) l = true
  | [] => rfl
  | b :: r => by
    unfold mtO
    simp only [List.map_cons]
    exact (mt_one (p := gpOf (itO (some b))) rfl).2 ⟨b, r, rfl, by simp [gpOf, itO, takesG], mtO_lits r⟩
theorem mtO_app {P Q : List (Option UInt8)} {s t : Byt} (h1 : mtO P s = true) (h2 : mtO Q t = true) : mtO (P ++ Q) (s ++ t) = true := by
  unfold mtO
  rw [List.map_append, List.map_append]
  exact (mt_app _ _ _).2 ⟨s.length, by simp, by rw [List.take_left' rfl]; exact h1, by rw [List.drop_left' rfl]; exact h2⟩
theorem mtO_run (x : Byt) : mtO [none] x = true := (mt_two _ _).2 (.inl rfl)
/-- a hole is struck out -/
theorem mtO_hole {P : List (Option UInt8)} {S : Byt} {a f t : Nat} (h : mtO P (S.take a) = true) (h1 : a ≤ f) (h2 : f ≤ t) (h3 : t ≤ S.length) : mtO (P ++ (((S.drop a).take (f - a)).map some ++ [none])) (S.take t) = true := by
  have e : S.take t = S.take a ++ ((S.drop a).take (f - a) ++ (S.drop f).take (t - f)) := by
    have e1 : S.take t = S.take a ++ (S.drop a).take (t - a) := by
      conv => lhs; rw [show t = a + (t - a) from by omega, List.take_add]
    have e2 : (S.drop a).take (t - a) = (S.drop a).take (f - a) ++ (S.drop f).take (t - f) := by
      conv => lhs; rw [show t - a = (f - a) + (t - f) from by omega, List.take_add]
      rw [List.drop_drop, show a + (f - a) = f from by omega]
    rw [e1, e2]
  rw [e]
  exact mtO_app h (mtO_app (mtO_lits _) (mtO_run _))
theorem mtO_rest {P : List (Option UInt8)} {S : Byt} {a : Nat} (h : mtO P (S.take a) = true) : mtO (P ++ (S.drop a).map some) S = true := by
  have := mtO_app h (mtO_lits (S.drop a))
  rwa [List.take_append_drop] at this
theorem pb_lits : ∀ l : Byt, (l.map some).map (fun o => o.getD (42 : UInt8)) = l
  | [] => rfl
  | b :: r => by simp only [List.map_cons, pb_lits r]; rfl
theorem pb_hole (P : List (Option UInt8)) (l : Byt) : pbT (P ++ (l.map some ++ [none])) = pbT P ++ (l ++ [42]) := by unfold pbT; rw [List.map_append, List.map_append, pb_lits]; rfl
theorem pb_rest (P : List (Option UInt8)) (l : Byt) : pbT (P ++ l.map some) = pbT P ++ l := by unfold pbT; rw [List.map_append, pb_lits]
theorem plain_app {P : List (Option UInt8)} {l : Byt} (h : PlainO P) (hl : ∀ b ∈ l, b ≠ 42 ∧ b ≠ 63 ∧ b ≠ 92 ∧ b ≠ 91) : PlainO (P ++ l.map some) := fun b hb => by
  rcases List.mem_append.1 hb with g | g
  · exact h b g
  · obtain ⟨c, hc, e⟩ := List.mem_map.1 g
    injection e with e; subst e
    exact hl c hc
theorem plain_hole {P : List (Option UInt8)} {l : Byt} (h : PlainO P) (hl : ∀ b ∈ l, b ≠ 42 ∧ b ≠ 63 ∧ b ≠ 92 ∧ b ≠ 91) : PlainO (P ++ (l.map some ++ [none])) := fun b hb => by
  rw [← List.append_assoc] at hb
  rcases List.mem_append.1 hb with g | g
  · exact plain_app h hl b g
  · simp at g
theorem let_plain (l : List Int) (n : Nat) : ∀ b ∈ shG l n, b ≠ 42 ∧ b ≠ 63 ∧ b ≠ 92 ∧ b ≠ 91 := fun b hb => by
  obtain ⟨a, -, rfl⟩ := List.mem_map.1 hb
  have h1 := Int.emod_lt_of_pos a (show (0 : Int) < 4 by omega)
  have h2 := Int.emod_nonneg a (show (4 : Int) ≠ 0 by omega)
  rcases four (k := (a % 4).toNat) (by omega) with h | h | h | h <;> rw [h] <;> decide

theorem tdiv_bd {a k : Int} (hk : 1 ≤ k) (h : -9223372036854775808 ≤ a ∧ a ≤ 9223372036854775807) : -9223372036854775808 ≤ a.tdiv k ∧ a.tdiv k ≤ 9223372036854775807 := by
  obtain ⟨h1, h2⟩ := h
  have hd : ∀ b : Int, 0 ≤ b → 0 ≤ b / k ∧ b / k ≤ b := fun b hb => ⟨Int.ediv_nonneg hb (by omega), Int.ediv_le_self k hb⟩
  rcases Int.le_total 0 a with h0 | h0
  · rw [Int.tdiv_eq_ediv_of_nonneg h0]
    have := hd a h0
    exact ⟨by omega, by omega⟩
  · have e : a.tdiv k = -((-a).tdiv k) := by rw [Int.neg_tdiv, Int.neg_neg]
    rw [e, Int.tdiv_eq_ediv_of_nonneg (by omega)]
    have := hd (-a) (by omega)
    exact ⟨by omega, by omega⟩

set_option maxHeartbeats 4000000 in
theorem walkGlobHoles (C : Option Addr) (o e : Nat) (z : List Int) (A : Option Addr) (n c : Nat) (l : List Int) (w : World)
    (f1 : Is w C z) (f2 : z.length = o) (f3 : o ≤ e) (f4 : e ≤ 17592186043904) (h1 : Is w A l) (h2 : l.length = n) (h3 : n ≤ c) (h4 : c ≤ 17592186043904) :
    Calls Try.prog 10 #[.slice C o e, .slice A n c] w fun e w' => e = .returned (.bool true) ∧ Below w.heap.size w w' := by
  have HS : Hid (Calls Try.prog 19 #[.slice C o e, .int .i64 14] w fun e w' => e = .returned (.string (tx (shG z 14))) ∧ Below w.heap.size w w') := Lib.hid (short_any C o e z 14 w f1 f2 (by omega))
  have hs := sh_len z 14
  have hpl := let_plain z 14
  obtain ⟨S, hS⟩ : ∃ S, shG z 14 = S := ⟨_, rfl⟩
  rw [hS] at HS hs hpl
  have HPL := Lib.hid hpl
  have HIS := Lib.hid h1
  have HN := Lib.hid h2
  have zs := tx_size S
  obtain ⟨sl, hsl⟩ : ∃ sl, S.length = sl := ⟨_, rfl⟩
  rw [hsl] at hs zs
  have HSL := Lib.hid hsl
  clear hS hsl hpl h1 h2 h3 h4 f1 f2 f3 f4
  go_enter Try.func10, Try.ntmps10
  go_wp2_with (go_at_call 19; refine HS.out.mono ?_; rintro e w1 ⟨rfl, hb1⟩; have HB1 := Lib.hid hb1; clear hb1)
  go_loopw [6, 7, 8] (fun v6 v7 v8 wr => ∃ (i a : Nat) (P : List (Option UInt8)), v8 = .int .i64 (i : Int) ∧ v7 = .int .i64 (a : Int) ∧ v6 = .string (tx (pbT P)) ∧ i ≤ 4 ∧ i ≤ n ∧ a ≤ sl ∧ P.length ≤ a + i ∧ PlainO P ∧ mtO P (S.take a) = true ∧ w1 = wr) (fun _ _ v8 _ => 4 - (intOf v8).toNat)
  case atStart => exact ⟨0, 0, [], rfl, rfl, rfl, by omega, Nat.zero_le _, Nat.zero_le _, Nat.zero_le _, fun b hb => (by cases hb), rfl, rfl⟩
  case round =>
    obtain ⟨i, a, P, rfl, rfl, rfl, hi4, hin, hal, hPl, hpp, hmo, rfl⟩ := hrel
    have HPP := Lib.hid hpp
    have HMO := Lib.hid hmo
    clear hpp hmo
    have hlp : (pbT P).length = P.length := by unfold pbT; rw [List.length_map]
    by_cases hgo : i < n ∧ i < 4 ∧ a < sl
    · obtain ⟨g1, g2, g3⟩ := hgo
      have g1i : (i : Int) < (n : Int) := by omega
      have g2i : (i : Int) < 4 := by omega
      have g3i : (a : Int) < (sl : Int) := by omega
      obtain ⟨b, o', rfl, hbl, hc, x0, x1⟩ := (HIS.out.below HB1.out).at i (l.getD i 0) (by rw [List.getD_eq_getElem?_getD, List.getElem?_eq_getElem (by rw [HN.out]; exact g1)]; rfl)
      obtain ⟨x, hx⟩ : ∃ x, l.getD i 0 = x := ⟨_, rfl⟩
      rw [hx] at hc x0 x1
      obtain ⟨q1, HK1, hq1⟩ := pick_nat x ((sl : Int) - a) (by omega)
      have HP1 := Lib.hid (fun wx => picked_n x ((sl : Int) - a) q1 wx HK1 x0 x1 (by omega) (by omega))
      obtain ⟨f, hf⟩ : ∃ f, f = a + q1 := ⟨_, rfl⟩
      have hfi : (a : Int) + q1 = (f : Int) := by omega
      have hdv := tdiv_bd (k := 20) (by omega) (And.intro x0 x1)
      have wdv : IntKind.i64.wrap (x.tdiv 20) = x.tdiv 20 := by rw [IntKind.wrap_i64]; omega
      obtain ⟨y, hy⟩ : ∃ y, x.tdiv 20 = y := ⟨_, rfl⟩
      rw [hy] at hdv wdv
      obtain ⟨y0, y1⟩ := hdv
      obtain ⟨q2, HK2, hq2⟩ := pick_nat y ((sl : Int) - f + 1) (by omega)
      have HP2 := Lib.hid (fun wx => picked_n y ((sl : Int) - f + 1) q2 wx HK2 y0 y1 (by omega) (by omega))
      obtain ⟨t, ht⟩ : ∃ t, t = f + q2 := ⟨_, rfl⟩
      have hti : (f : Int) + q2 = (t : Int) := by omega
      have w1 : IntKind.i64.wrap ((sl : Int) - a) = (sl : Int) - a := by rw [IntKind.wrap_i64]; omega
      have w2 : IntKind.i64.wrap (f : Int) = (f : Int) := by rw [IntKind.wrap_i64]; omega
      have w3 : IntKind.i64.wrap ((sl : Int) - f) = (sl : Int) - f := by rw [IntKind.wrap_i64]; omega
      have w4 : IntKind.i64.wrap ((sl : Int) - f + 1) = (sl : Int) - f + 1 := by rw [IntKind.wrap_i64]; omega
      have w5 : IntKind.i64.wrap (t : Int) = (t : Int) := by rw [IntKind.wrap_i64]; omega
      have w6 : IntKind.i64.wrap ((i : Int) + 1) = (i : Int) + 1 := by rw [IntKind.wrap_i64]; omega
      have c1 : (0 : Int) ≤ (a : Int) := by omega
      have c2 : (a : Int) ≤ (f : Int) := by omega
      have c3 : (f : Int) ≤ (sl : Int) := by omega
      have hex : (tx S).extract a f = tx ((S.drop a).take (f - a)) := tx_cut S a f
      have hcl : ((S.drop a).take (f - a)).length = f - a := by rw [List.length_take, List.length_drop, HSL.out]; omega
      have HNP : Hid (pbT (P ++ (((S.drop a).take (f - a)).map some ++ [none])) = pbT P ++ ((S.drop a).take (f - a) ++ [42])) := Lib.hid (pb_hole _ _)
      have HNM : Hid (mtO (P ++ (((S.drop a).take (f - a)).map some ++ [none])) (S.take t) = true) := Lib.hid (mtO_hole HMO.out (by omega) (by omega) (by rw [HSL.out]; omega))
      have HNPP : Hid (PlainO (P ++ (((S.drop a).take (f - a)).map some ++ [none]))) := Lib.hid (plain_hole HPP.out fun b hb => HPL.out b (List.mem_of_mem_drop (List.mem_of_mem_take hb)))
      have HNL : Hid ((P ++ (((S.drop a).take (f - a)).map some ++ [none])).length ≤ t + (i + 1)) := Lib.hid (by simp only [List.length_append, List.length_map, hcl, List.length_singleton]; omega)
      obtain ⟨D, hD⟩ : ∃ D, (S.drop a).take (f - a) = D := ⟨_, rfl⟩
      rw [hD] at hex hcl HNP HNM HNPP HNL
      obtain ⟨B, hB⟩ : ∃ B, pbT P = B := ⟨_, rfl⟩
      rw [hB] at hlp HNP ⊢
      have z1 := tx_size D
      have z2 := tx_size B
      have z3 : (tx (D ++ [42])).size = D.length + 1 := by rw [tx_size]; simp
      have a1 : tx D ++ (⟨#[42]⟩ : ByteArray) = tx (D ++ [42]) := tx_app D [42]
      have a2 : tx B ++ tx (D ++ [42]) = tx (B ++ (D ++ [42])) := tx_app B (D ++ [42])
      have k1 : ¬ 9223372036854775807 < D.length + 1 := by omega
      have k2 : ¬ 9223372036854775807 < B.length + (D.length + 1) := by omega
      have HF := Lib.hid hf
      have HT := Lib.hid ht
      clear hD hB hx hf ht
      go_wp2_with (first
        | (go_at_call 22; (with_reducible refine (HP1.out _).mono ?_); rintro e _ ⟨rfl, rfl⟩)
        | (go_at_call 22; (with_reducible refine (HP2.out _).mono ?_); rintro e _ ⟨rfl, rfl⟩))
      go_roundw
      case rel => exact ⟨i + 1, t, _, by simp, rfl, by rw [HNP.out], by omega, by omega, by have := HT.out; omega, HNL.out, HNPP.out, HNM.out, by first | rfl | trivial⟩
      case measure => first | (simp [intOf]; done) | (simp [intOf]; omega)
    · have hex : (tx S).extract a sl = tx (S.drop a) := by rw [tx_cut, List.take_of_length_le (by rw [List.length_drop, HSL.out]; exact Nat.le_refl _)]
      have hcl : (S.drop a).length = sl - a := by rw [List.length_drop, HSL.out]
      have HNP : Hid (pbT (P ++ (S.drop a).map some) = pbT P ++ S.drop a) := Lib.hid (pb_rest _ _)
      have hplen : (P ++ (S.drop a).map some).length ≤ 39 := by rw [List.length_append, List.length_map, hcl]; omega
      obtain ⟨m1, m2, m3, m4⟩ := mat_plain (P := P ++ (S.drop a).map some) (s := S) (plain_app HPP.out fun b hb => HPL.out b (List.mem_of_mem_drop hb)) hplen (by rw [HSL.out]; omega)
      have hmt := mtO_rest HMO.out
      have m4 := m4 hmt
      rw [hmt] at m1 m3
      rw [HNP.out] at m1 m2 m3 m4
      have hcl2 : (pbT P ++ S.drop a).length ≤ 39 := by rw [← HNP.out]; unfold pbT; rw [List.length_map]; exact hplen
      clear hmt hplen HNP
      obtain ⟨D, hD⟩ : ∃ D, S.drop a = D := ⟨_, rfl⟩
      rw [hD] at hex hcl m1 m2 m3 m4 hcl2
      obtain ⟨B, hB⟩ : ∃ B, pbT P = B := ⟨_, rfl⟩
      rw [hB] at hlp m1 m2 m3 m4 hcl2 ⊢
      obtain ⟨E, hE⟩ : ∃ E, B ++ D = E := ⟨_, rfl⟩
      rw [hE] at m1 m2 m3 m4 hcl2
      have H1 := Lib.hid (fun ww => matK_any _ _ _ ww m1)
      have H2 := Lib.hid (fun ww => matK_any _ _ _ ww m2)
      have H3 := Lib.hid (fun ww => matK_any _ _ _ ww m3)
      have H4 := Lib.hid (fun ww => matK_any _ _ _ ww m4)
      have z1 := tx_size D
      have z2 := tx_size B
      have z3 := tx_size E
      have a1 : tx B ++ tx D = tx E := by rw [tx_app, hE]
      have a2 : (⟨#[97]⟩ : ByteArray) ++ tx E = tx (97 :: E) := tx_app [97] E
      have a3 : (⟨#[98]⟩ : ByteArray) ++ tx S = tx (98 :: S) := tx_app [98] S
      have a4 : (⟨#[63]⟩ : ByteArray) ++ tx E = tx (63 :: E) := tx_app [63] E
      have a5 : (⟨#[42]⟩ : ByteArray) ++ tx E = tx (42 :: E) := tx_app [42] E
      have k1 : ¬ 9223372036854775807 < B.length + D.length := by omega
      have k2 : ¬ 9223372036854775807 < 1 + E.length := by omega
      have k3 : ¬ 9223372036854775807 < 1 + sl := by omega
      have c1 : (0 : Int) ≤ (a : Int) := by omega
      have c2 : (a : Int) ≤ (sl : Int) := by omega
      clear m1 m2 m3 m4 hD hB hE
      have hway : ¬ (i : Int) < (n : Int) ∨ ((i : Int) < (n : Int) ∧ ¬ (i : Int) < 4) ∨ ((i : Int) < (n : Int) ∧ (i : Int) < 4 ∧ ¬ (a : Int) < (sl : Int)) := by omega
      rcases hway with g1 | ⟨g1, g2⟩ | ⟨g1, g2, g3⟩ <;>
      · go_wp2_with (first
          | (go_at_call 20; (with_reducible refine (H1.out _).mono ?_); rintro e w5 ⟨rfl, hb5⟩; have HB5 : Hid (Below w.heap.size w w5) := Lib.hid (bthen HB1.out hb5); clear hb5)
          | (go_at_call 20; (with_reducible refine (H2.out _).mono ?_); rintro e w6 ⟨rfl, hb6⟩; have HB6 : Hid (Below w.heap.size w w6) := Lib.hid (bthen HB5.out hb6); clear hb6)
          | (go_at_call 20; (with_reducible refine (H3.out _).mono ?_); rintro e w7 ⟨rfl, hb7⟩; have HB7 : Hid (Below w.heap.size w w7) := Lib.hid (bthen HB6.out hb7); clear hb7)
          | (go_at_call 20; (with_reducible refine (H4.out _).mono ?_); rintro e w8 ⟨rfl, hb8⟩; have HB8 : Hid (Below w.heap.size w w8) := Lib.hid (bthen HB7.out hb8); clear hb8))
        go_ret
        exact ⟨by first | rfl | simp, HB8.out⟩
end Go.Proofs.Ytmcgjkhbljdddaa
