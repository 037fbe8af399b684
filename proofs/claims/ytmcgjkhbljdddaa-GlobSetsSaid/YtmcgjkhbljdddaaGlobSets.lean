/-
  The walk of GlobSets.
-/
import Derived.Test.YtmcgjkhbljdddaaGlobWords
import Derived.Laws.IdiomStrings
namespace Go.Proofs.Ytmcgjkhbljdddaa
open Go.RowKit
set_option linter.unusedVariables false
set_option linter.unusedSimpArgs false

/-- bytes that have just been laid are made a text -/
theorem conv_new (l : Byt) (cs : Array Value) (hcs : cs = (l.map fun b => Value.int .u8 (b.toNat : Int)).toArray) (n : Nat) (hn : l.length = n) (ww : World) :
    (convert 35 9 (.slice (some ⟨ww.heap.size, 0, none⟩) n n)).run Try.prog (ww.alloc (.cells cs 5)) = .ok (.string (tx l)) (ww.alloc (.cells cs 5)) := by
  subst hn
  exact run_convert_bytes_back _ _ _ _ _ _ l Try.underlying35 Try.underlying5 Try.underlying9 (fun j hj => by
    have h := heap_alloc_new ww (.cells cs 5)
    rw [addr_add, Nat.zero_add, cell_of_row _ _ j _ _ (0, 0) h, hcs]
    simp [hj])

/-- the part of a set of two with - between them -/
theorem set_two {F T : UInt8} (neg : Bool) (hF : F ≠ 93 ∧ F ≠ 92 ∧ F ≠ 94 ∧ F ≠ 45) (hT : T ≠ 93 ∧ T ≠ 92) (h : ¬ T < F) :
    itT (91 :: ((if neg then [94] else []) ++ [F, 45, T, 93])) = some [⟨91, 0, [(F, T)], neg⟩] := by
  obtain ⟨f1, f2, f3, f4⟩ := hF
  obtain ⟨t1, t2⟩ := hT
  have key : setT ((if neg then [94] else []) ++ [F, 45, T, 93]) = some (⟨91, 0, [(F, T)], neg⟩, []) := by
    have hu : setU ((if neg then [94] else []) ++ [F, 45, T, 93]) = [F, 45, T, 93] := by
      cases neg <;> simp [setU, f3]
    have hb : bodyT [F, 45, T, 93] = [F, 45, T] := by simp [bodyT, f1, f2, t1, t2]
    have hr : rgT [F, 45, T] = some [(F, T)] := by simp [rgT, h]
    have hn : decide (((if neg then [94] else []) ++ [F, 45, T, 93]).head? = some 94) = neg := by cases neg <;> simp [f3]
    unfold setT
    rw [hu, hb, hr]
    simp only [setE, hb, List.length_cons, List.length_nil, List.drop_succ_cons, List.drop_zero, List.head?_cons, List.tail_cons]
    rw [if_neg (by simp), hn]
  rw [itT_some (it := ⟨91, 0, [(F, T)], neg⟩) (r := []) (by rw [fsT_set]; exact key), itT_nil]; rfl
theorem set_one {F : UInt8} (hF : F ≠ 93 ∧ F ≠ 92 ∧ F ≠ 94 ∧ F ≠ 45) : itT [91, F, 93] = some [⟨91, 0, [(F, F)], false⟩] := by
  obtain ⟨f1, f2, f3, f4⟩ := hF
  have key : setT [F, 93] = some (⟨91, 0, [(F, F)], false⟩, []) := by
    have hu : setU [F, 93] = [F, 93] := by simp [setU, f3]
    have hb : bodyT [F, 93] = [F] := by simp [bodyT, f1, f2]
    have hr : rgT [F] = some [(F, F)] := by simp [rgT]
    have hn : decide (([F, 93] : Byt).head? = some 94) = false := by simp [f3]
    unfold setT
    rw [hu, hb, hr]
    simp only [setE, hb, List.length_cons, List.length_nil, List.drop_succ_cons, List.drop_zero, List.head?_cons, List.tail_cons]
    rw [if_neg (by simp)]
    simp only [List.head?_cons] at hn
    rw [hn]
  rw [itT_some (it := ⟨91, 0, [(F, F)], false⟩) (r := []) (by rw [fsT_set]; exact key), itT_nil]; rfl
theorem mat_one {p : Byt} {it : Gi} (hl : p.length ≤ 40) (h : itT p = some [it]) (hk : it.kind ≠ 42) (X : UInt8) : matT p [X] = (takesG it X, 0) ∧ matT p [X, X] = (false, 0) := by
  have hp : patT p = some [it] := by unfold patT; rw [if_neg (by omega), h]
  unfold matT
  rw [hp]
  simp [mt, gpOf, hk]
theorem in_two (F T X : UInt8) : inR [(F, T)] X = (decide ((F.toNat : Int) ≤ X.toNat) && decide ((X.toNat : Int) ≤ T.toNat)) := by
  have e1 : decide (F ≤ X) = decide ((F.toNat : Int) ≤ X.toNat) := decide_eq_decide.2 ⟨fun h => by have := UInt8.le_iff_toNat_le.1 h; omega, fun h => UInt8.le_iff_toNat_le.2 (by omega)⟩
  have e2 : decide (X ≤ T) = decide ((X.toNat : Int) ≤ T.toNat) := decide_eq_decide.2 ⟨fun h => by have := UInt8.le_iff_toNat_le.1 h; omega, fun h => UInt8.le_iff_toNat_le.2 (by omega)⟩
  simp [inR, e1, e2]
theorem u8_ne {F : UInt8} {k : UInt8} (h : ¬ (F.toNat : Int) = (k.toNat : Int)) : F ≠ k := fun e => h (by rw [e])

theorem matS {F T : UInt8} (X : UInt8) (f1 : ¬ (F.toNat : Int) = 93) (f2 : ¬ (F.toNat : Int) = 92) (f3 : ¬ (F.toNat : Int) = 94) (f4 : ¬ (F.toNat : Int) = 45) (t1 : ¬ (T.toNat : Int) = 93) (t2 : ¬ (T.toNat : Int) = 92) (h : ¬ (T.toNat : Int) < F.toNat) :
    matT [91, F, 45, T, 93] [X] = (decide ((F.toNat : Int) ≤ X.toNat) && decide ((X.toNat : Int) ≤ T.toNat), 0) ∧ matT [91, F, 45, T, 93] [X, X] = (false, 0) ∧
    matT [91, 94, F, 45, T, 93] [X] = (!(decide ((F.toNat : Int) ≤ X.toNat) && decide ((X.toNat : Int) ≤ T.toNat)), 0) ∧ matT [91, F, 93] [X] = (decide ((X.toNat : Int) = F.toNat), 0) := by
  have hF : F ≠ 93 ∧ F ≠ 92 ∧ F ≠ 94 ∧ F ≠ 45 := ⟨u8_ne f1, u8_ne f2, u8_ne f3, u8_ne f4⟩
  have hT : T ≠ 93 ∧ T ≠ 92 := ⟨u8_ne t1, u8_ne t2⟩
  have hlt : ¬ T < F := fun e => h (by have := UInt8.lt_iff_toNat_lt.1 e; omega)
  have h1 := mat_one (p := [91, F, 45, T, 93]) (by simp) (set_two false hF hT hlt) (by show (91 : UInt8) ≠ 42; decide) X
  have h2 := mat_one (p := [91, 94, F, 45, T, 93]) (by simp) (set_two true hF hT hlt) (by show (91 : UInt8) ≠ 42; decide) X
  have h3 := mat_one (p := [91, F, 93]) (by simp) (set_one hF) (by show (91 : UInt8) ≠ 42; decide) X
  have k1 : takesG ⟨91, 0, [(F, T)], false⟩ X = inR [(F, T)] X := by simp [takesG]
  have k2 : takesG ⟨91, 0, [(F, T)], true⟩ X = !inR [(F, T)] X := by simp [takesG]
  have k3 : takesG ⟨91, 0, [(F, F)], false⟩ X = decide ((X.toNat : Int) = F.toNat) := by
    have : takesG ⟨91, 0, [(F, F)], false⟩ X = inR [(F, F)] X := by simp [takesG]
    rw [this, in_two, Bool.eq_iff_iff]
    simp only [Bool.and_eq_true, decide_eq_true_eq]
    omega
  refine ⟨by rw [h1.1, k1, in_two], h1.2, by rw [h2.1, k2, in_two], by rw [h3.1, k3]⟩
theorem seven (f t : Int) : f = 93 ∨ (¬ f = 93 ∧ f = 92) ∨ (¬ f = 93 ∧ ¬ f = 92 ∧ f = 94) ∨ (¬ f = 93 ∧ ¬ f = 92 ∧ ¬ f = 94 ∧ f = 45) ∨ (¬ f = 93 ∧ ¬ f = 92 ∧ ¬ f = 94 ∧ ¬ f = 45 ∧ t = 93) ∨ (¬ f = 93 ∧ ¬ f = 92 ∧ ¬ f = 94 ∧ ¬ f = 45 ∧ ¬ t = 93 ∧ t = 92) ∨
    (¬ f = 93 ∧ ¬ f = 92 ∧ ¬ f = 94 ∧ ¬ f = 45 ∧ ¬ t = 93 ∧ ¬ t = 92 ∧ t < f) ∨ (¬ f = 93 ∧ ¬ f = 92 ∧ ¬ f = 94 ∧ ¬ f = 45 ∧ ¬ t = 93 ∧ ¬ t = 92 ∧ ¬ t < f) := by omega

set_option maxHeartbeats 8000000 in
theorem walkGlobSets (x f t : Int) (w : World) (x0 : 0 ≤ x) (x1 : x ≤ 255) (f0 : 0 ≤ f) (f1 : f ≤ 255) (t0 : 0 ≤ t) (t1 : t ≤ 255) :
    Calls Try.prog 7 #[.int .u8 x, .int .u8 f, .int .u8 t] w fun e w' => e = .returned (.bool true) ∧ Below w.heap.size w w' := by
  have HA : Hid (∀ ww, Calls Try.prog 20 #[.string ⟨#[97]⟩, .string ⟨#[97]⟩] ww fun e w' => e = .returned (.bool true) ∧ Below ww.heap.size ww w') := Lib.hid (fun ww => matK_any [97] [97] true ww matA)
  rcases seven f t with h | ⟨n1, h⟩ | ⟨n1, n2, h⟩ | ⟨n1, n2, n3, h⟩ | ⟨n1, n2, n3, n4, h⟩ | ⟨n1, n2, n3, n4, n5, h⟩ | ⟨n1, n2, n3, n4, n5, n6, h⟩ | ⟨n1, n2, n3, n4, n5, n6, n7⟩
  iterate 7
    · go_enter Try.func7, Try.ntmps7
      go_wp2_with (go_at_call 20; refine (HA.out _).mono ?_; rintro e w5 ⟨rfl, hb5⟩; have HB5 := Lib.hid hb5; clear hb5)
      go_ret
      exact ⟨rfl, HB5.out⟩
  · obtain ⟨X, hX⟩ : ∃ X : UInt8, (X.toNat : Int) = x := ⟨UInt8.ofNat x.toNat, by simp; omega⟩
    obtain ⟨F, hF⟩ : ∃ F : UInt8, (F.toNat : Int) = f := ⟨UInt8.ofNat f.toNat, by simp; omega⟩
    obtain ⟨T, hT⟩ : ∃ T : UInt8, (T.toNat : Int) = t := ⟨UInt8.ofNat t.toNat, by simp; omega⟩
    subst hX; subst hF; subst hT
    obtain ⟨m1, m2, m3, m4⟩ := matS X n1 n2 n3 n4 n5 n6 n7
    have HIN := Lib.hid (fun ww => matK_any _ _ _ ww m1)
    have HXX := Lib.hid (fun ww => matK_any _ _ _ ww m2)
    have HOU := Lib.hid (fun ww => matK_any _ _ _ ww m3)
    have HON := Lib.hid (fun ww => matK_any _ _ _ ww m4)
    have cv1 := conv_new [X] #[.int .u8 (X.toNat : Int)] rfl 1 rfl
    have cv5 := conv_new [91, F, 45, T, 93] #[.int .u8 91, .int .u8 (F.toNat : Int), .int .u8 45, .int .u8 (T.toNat : Int), .int .u8 93] rfl 5 rfl
    have cv6 := conv_new [91, 94, F, 45, T, 93] #[.int .u8 91, .int .u8 94, .int .u8 (F.toNat : Int), .int .u8 45, .int .u8 (T.toNat : Int), .int .u8 93] rfl 6 rfl
    have cv3 := conv_new [91, F, 93] #[.int .u8 91, .int .u8 (F.toNat : Int), .int .u8 93] rfl 3 rfl
    have n8 : decide (T.toNat < F.toNat) = false := decide_eq_false (by omega)
    have e1 : ((F.toNat : Int) == 93) = false := by simpa using n1
    have e2 : ((F.toNat : Int) == 92) = false := by simpa using n2
    have e3 : ((F.toNat : Int) == 94) = false := by simpa using n3
    have e4 : ((F.toNat : Int) == 45) = false := by simpa using n4
    have e5 : ((T.toNat : Int) == 93) = false := by simpa using n5
    have e6 : ((T.toNat : Int) == 92) = false := by simpa using n6
    clear n1 n2 n3 n4 n5 n6 n7
    have a1 : tx [X] ++ tx [X] = tx [X, X] := tx_app [X] [X]
    have z1 : (tx [X]).size = 1 := tx_size _
    clear m1 m2 m3 m4
    go_enter Try.func7, Try.ntmps7
    go_upto_region 4 with fail
    obtain ⟨w40, hw⟩ : ∃ ww, ww = w.alloc (.cells #[.int .u8 (X.toNat : Int)] 5) := ⟨_, rfl⟩
    have HB40 : Hid (Below w.heap.size w w40) := Lib.hid (by rw [hw]; exact ba1 _ _)
    rw [← hw]
    clear hw
    go_upto_region 5 with fail
    obtain ⟨w50, hw⟩ : ∃ ww, ww = w40.alloc (.cells #[.int .u8 91, .int .u8 (F.toNat : Int), .int .u8 45, .int .u8 (T.toNat : Int), .int .u8 93] 5) := ⟨_, rfl⟩
    have HB50 : Hid (Below w.heap.size w w50) := Lib.hid (by rw [hw]; exact HB40.out.alloc HB40.out.size _)
    rw [← hw]
    clear hw
    go_upto_region 6 with fail
    obtain ⟨w60, hw⟩ : ∃ ww, ww = w50.alloc (.cells #[.int .u8 91, .int .u8 94, .int .u8 (F.toNat : Int), .int .u8 45, .int .u8 (T.toNat : Int), .int .u8 93] 5) := ⟨_, rfl⟩
    have HB60 : Hid (Below w.heap.size w w60) := Lib.hid (by rw [hw]; exact HB50.out.alloc HB50.out.size _)
    rw [← hw]
    clear hw
    go_upto_region 7 with fail
    obtain ⟨w9, hw⟩ : ∃ ww, ww = w60.alloc (.cells #[.int .u8 91, .int .u8 (F.toNat : Int), .int .u8 93] 5) := ⟨_, rfl⟩
    have HB9 : Hid (Below w.heap.size w w9) := Lib.hid (by rw [hw]; exact HB60.out.alloc HB60.out.size _)
    rw [← hw]
    clear hw
    clear cv1 cv3 cv5 cv6
    have d1 : decide ((F.toNat : Int) ≤ X.toNat) = decide (F.toNat ≤ X.toNat) := decide_eq_decide.2 ⟨fun h => by omega, fun h => by omega⟩
    have d2 : decide ((X.toNat : Int) ≤ T.toNat) = decide (X.toNat ≤ T.toNat) := decide_eq_decide.2 ⟨fun h => by omega, fun h => by omega⟩
    have d3 : decide ((X.toNat : Int) = F.toNat) = decide (X.toNat = F.toNat) := decide_eq_decide.2 ⟨fun h => by omega, fun h => by omega⟩
    have d4 : ((X.toNat : Int) == (F.toNat : Int)) = decide (X.toNat = F.toNat) := by rw [Bool.eq_iff_iff, beq_iff_eq, decide_eq_true_eq]; omega
    rw [d1, d2] at HIN HOU
    rw [d3] at HON
    clear d1 d2 d3 e1 e2 e3 e4 e5 e6 n8
    obtain ⟨v1, hv1⟩ : ∃ v, decide (F.toNat ≤ X.toNat) = v := ⟨_, rfl⟩
    obtain ⟨v2, hv2⟩ : ∃ v, decide (X.toNat ≤ T.toNat) = v := ⟨_, rfl⟩
    obtain ⟨v3, hv3⟩ : ∃ v, decide (X.toNat = F.toNat) = v := ⟨_, rfl⟩
    rw [hv1, hv2] at HIN HOU
    rw [hv3] at HON d4
    cases v1 <;> cases v2 <;> cases v3 <;>
    · simp only [Bool.and_true, Bool.and_false, Bool.true_and, Bool.false_and, Bool.not_true, Bool.not_false] at HIN HOU
      go_wp2_with (first
        | (go_at_call 20; (with_reducible refine (HIN.out _).mono ?_); rintro e w5 ⟨rfl, hb5⟩; have HB5 : Hid (Below w.heap.size w w5) := Lib.hid (by first | exact bthen HB9.out hb5 | exact bthen HB6.out hb5); clear hb5)
        | (go_at_call 20; (with_reducible refine (HOU.out _).mono ?_); rintro e w6 ⟨rfl, hb6⟩; have HB6 : Hid (Below w.heap.size w w6) := Lib.hid (bthen HB5.out hb6); clear hb6)
        | (go_at_call 20; (with_reducible refine (HON.out _).mono ?_); rintro e w7 ⟨rfl, hb7⟩; have HB7 : Hid (Below w.heap.size w w7) := Lib.hid (bthen HB5.out hb7); clear hb7)
        | (go_at_call 20; (with_reducible refine (HXX.out _).mono ?_); rintro e w8 ⟨rfl, hb8⟩; have HB8 : Hid (Below w.heap.size w w8) := Lib.hid (bthen HB7.out hb8); clear hb8))
      go_ret
      exact ⟨by first | rfl | simp, HB8.out⟩
end Go.Proofs.Ytmcgjkhbljdddaa
