/-
  Contract of hole.Add.
-/
import Derived.Test.YtehckiihipnimaaSJoin
namespace Go.Proofs.Ytehckiihipnimaa
open Go.RowKit
set_option linter.unusedVariables false

/-- What a call answers that makes a place and a list of ranges. -/
def RetA (W : World) (D : Int) (N : Nat) (L : List Rg) (e : Ending) (w' : World) : Prop :=
  ∃ A c, e = .returned (.tuple #[.int .i64 D, .slice A N c, .int .i64 0]) ∧ OwnR w' W.heap.size A N c L ∧ Below W.heap.size W w'

theorem add_form (d : Int) (A : Option Addr) (n c : Nat) (l : List Rg) (r : Rg) (w : World) (hb : Rs w A l) (hn : l.length = n) (h47 : n ≤ 140737488355328) (hm : mayB d l = false) :
    Calls Try.prog 68 #[.int .i64 d, .slice A n c, rv r] w fun e w' => e = .returned (.tuple #[.int .i64 0, .slice none 0 0, .int .i64 4]) ∧ Below w.heap.size w w' := by
  have HB := Lib.hid hb
  have HN := Lib.hid hn
  have HM := Lib.hid hm
  clear hb hn hm
  obtain ⟨r1, r2⟩ := r
  unfold rv
  simp only
  go_enter Try.func68, Try.ntmps68
  go_wp2_with (go_at_call 76; refine (may_any d A n c l _ (HB.out.below (ba1 _ _)) HN.out h47).mono ?_; rw [HM.out]; rintro e w1 ⟨rfl, hb1⟩)
  go_ret3; exact ⟨by simp, bthen (ba1 _ _) hb1⟩

theorem add_range (d : Int) (A : Option Addr) (n c : Nat) (l : List Rg) (r : Rg) (w : World) (hb : Rs w A l) (hn : l.length = n) (h47 : n ≤ 140737488355328) (hm : mayB d l = true) (hr : ¬ (0 ≤ r.1 ∧ r.1 ≤ r.2 ∧ r.2 ≤ 1048576)) :
    Calls Try.prog 68 #[.int .i64 d, .slice A n c, rv r] w fun e w' => e = .returned (.tuple #[.int .i64 0, .slice none 0 0, .int .i64 2]) ∧ Below w.heap.size w w' := by
  have HB := Lib.hid hb
  have HN := Lib.hid hn
  have HM := Lib.hid hm
  clear hb hn hm
  obtain ⟨r1, r2⟩ := r
  unfold rv
  simp only at hr ⊢
  go_enter Try.func68, Try.ntmps68
  go_wp2_with (go_at_call 76; refine (may_any d A n c l _ (HB.out.below (ba1 _ _)) HN.out h47).mono ?_; rw [HM.out]; rintro e w1 ⟨rfl, hb1⟩; have hT := (two_new w 44 (r1, r2)).below hb1; have hc0 := hT.c0; have hc1 := hT.c1; have hl := hT.lt; simp only at hc0 hc1; clear hT)
  all_goals
    first
    | (exfalso; omega)
    | (go_ret3; exact ⟨by simp, bthen (ba1 _ _) hb1⟩)

theorem add_empty (d : Int) (A : Option Addr) (n c : Nat) (l : List Rg) (r : Rg) (w : World) (hb : Rs w A l) (hn : l.length = n) (h47 : n ≤ 16) (hm : mayB d l = true) (hr : 0 ≤ r.1 ∧ r.1 ≤ r.2 ∧ r.2 ≤ 1048576) (he : r.1 = r.2) :
    Calls Try.prog 68 #[.int .i64 d, .slice A n c, rv r] w (RetA w d n l) := by
  have HB := Lib.hid hb
  have HN := Lib.hid hn
  have HM := Lib.hid hm
  clear hb hn hm
  obtain ⟨r1, r2⟩ := r
  unfold rv
  simp only at hr he ⊢
  obtain ⟨g1, g2, g3⟩ := hr
  subst he
  go_enter Try.func68, Try.ntmps68
  go_wp2_with (first
    | (go_at_call 76; refine (may_any d A n c l _ (HB.out.below (ba1 _ _)) HN.out (by omega)).mono ?_; rw [HM.out]; rintro e w1 ⟨rfl, hb1⟩; have hT := (two_new w 44 (r1, r1)).below hb1; have hc0 := hT.c0; have hc1 := hT.c1; have hl := hT.lt; simp only at hc0 hc1; clear hT)
    | (at_builtin; refine wpList_appR rfl w1 (.const (.slice none 0 0)) (.tmp 40) rfl w1.heap.size none 0 0 [] rfl (OwnR.nil _ _) A n c l rfl ((HB.out.below (ba1 _ _)).below hb1) HN.out n (by omega) (by omega) (Nat.le_refl _) ?_; intro A4 c4 w4 ho4 hb4 hs4; have O4 := Lib.hid ho4; clear ho4 hs4))
  go_ret3; exact ⟨A4, c4, by simp, O4.out.base (by have := hb1.size; simp at this; omega), bthen (bthen (ba1 _ _) hb1) hb4⟩

theorem join_v (A : Option Addr) (n c : Nat) (l : List Rg) (r1 r2 : Int) (b : List Rg) (u1 u2 : Int) (a : List Rg) (w : World) (hj : (b, (u1, u2), a) = jn l (r1, r2)) (hb : Rs w A l) (hn : l.length = n) (h47 : n ≤ 16) :
    Calls Try.prog 88 #[.slice A n c, .agg #[.int .i64 r1, .int .i64 r2]] w fun e w' => ∃ Ab nb cb Aa na ca, e = .returned (.tuple #[.slice Ab nb cb, .agg #[.int .i64 u1, .int .i64 u2], .slice Aa na ca]) ∧
      OwnR w' w.heap.size Ab nb cb b ∧ OwnR w' w.heap.size Aa na ca a ∧ Apart (.slice Ab nb cb) (.slice Aa na ca) ∧ Below w.heap.size w w' := by
  refine (join_any A n c l (r1, r2) w hb hn h47).mono ?_
  rintro e w' ⟨Ab, nb, cb, Aa, na, ca, h1, h2, h3, h4, h5⟩
  rw [← hj] at h1 h2 h3
  exact ⟨Ab, nb, cb, Aa, na, ca, h1, h2, h3, h4, h5⟩

theorem addL_len (d : Int) (l : List Rg) (r : Rg) : (addL d l r).length ≤ l.length + 1 := by
  unfold addL
  split
  · omega
  · have := jn_len l ([], r, [])
    split
    · simp [jn] at *; omega
    · simp [jn] at *; omega

set_option maxHeartbeats 1000000 in
theorem add_ok (d : Int) (A : Option Addr) (n c : Nat) (l : List Rg) (r : Rg) (w : World) (hb : Rs w A l) (hn : l.length = n) (h47 : n ≤ 16) (hm : mayB d l = true) (hr : 0 ≤ r.1 ∧ r.1 ≤ r.2 ∧ r.2 ≤ 1048576)
    (D : Int) (N : Nat) (L : List Rg) (hD : D = addD d l r) (hL : L = addL d l r) (hN : L.length = N) :
    Calls Try.prog 68 #[.int .i64 d, .slice A n c, rv r] w fun e w' => (N ≤ 16 → RetA w D N L e w') ∧ (16 < N → e = .returned (.tuple #[.int .i64 0, .slice none 0 0, .int .i64 9]) ∧ Below w.heap.size w w') := by
  by_cases he : r.1 = r.2
  · have e1 : D = d := by rw [hD]; unfold addD; rw [if_pos he]
    have e2 : L = l := by rw [hL]; unfold addL; rw [if_pos he]
    subst e1; subst e2
    obtain rfl : n = N := by omega
    exact (add_empty D A n c L r w hb hn h47 hm hr he).mono fun e w' h => ⟨fun _ => h, fun h16 => by omega⟩
  · obtain ⟨⟨b, ⟨u1, u2⟩, a⟩, hj⟩ : ∃ j, j = jn l r := ⟨_, rfl⟩
    have hjl := jn_len l ([], r, [])
    have hDu : D = if u1 ≤ d then max d u2 else d := by rw [hD]; unfold addD; rw [if_neg he, ← hj]
    have hLu : L = if u1 ≤ d then a else b ++ [(u1, u2)] ++ a := by rw [hL]; unfold addL; rw [if_neg he, ← hj]
    rw [show l.foldl stepJ ([], r, []) = jn l r from rfl, ← hj] at hjl
    simp only [List.length_nil] at hjl
    rw [hn] at hjl
    have HB := Lib.hid hb
    have HN := Lib.hid hn
    have HM := Lib.hid hm
    have HJ := Lib.hid hj
    have HD := Lib.hid hDu
    have HL := Lib.hid hLu
    have HNN := Lib.hid hN
    clear hb hn hm hj hDu hLu hN hD hL
    obtain ⟨r1, r2⟩ := r
    unfold rv
    simp only at hr he ⊢
    obtain ⟨g1, g2, g3⟩ := hr
    have g4 : ¬ r2 < r1 := by omega
    by_cases hu : u1 ≤ d
    · go_enter Try.func68, Try.ntmps68
      go_wp2_with (first
        | (go_at_call 76; refine (may_any d A n c l _ (HB.out.below (ba1 _ _)) HN.out (by omega)).mono ?_; rw [HM.out]; rintro e w1 ⟨rfl, hb1⟩; have hT := (two_new w 44 (r1, r2)).below hb1; have hc0 := hT.c0; have hc1 := hT.c1; have hl := hT.lt; simp only at hc0 hc1; have HT := Lib.hid hT; clear hT)
        | (go_at_call 88; refine (join_v A n c l r1 r2 b u1 u2 a _ HJ.out ((HB.out.below (ba1 _ _)).below hb1) HN.out (by omega)).mono ?_; rintro e w2 ⟨Ab, nb, cb, Aa, na, ca, rfl, ob, oa, ap, hb2⟩; have OB := Lib.hid ob; have OA := Lib.hid oa; have AP := Lib.hid ap; have hT := HT.out.below hb2; have T2 := Lib.hid hT; clear hc0 hc1 hl; have hc0 := hT.c0; have hc1 := hT.c1; have hf0 := hT.f0; have hf1 := hT.f1; have hl := hT.lt; simp only at hc0 hc1; clear hT ob oa ap))
      all_goals
        have hP := two_put T2.out (u1, u2)
        have hs1 := hb1.size
        simp at hs1
        have HA := OA.out.1
        rw [HL.out, if_pos hu] at HNN
        have e1 : na = N := by have := HNN.out; omega
        subst e1
        go_ret3
        refine ⟨fun _ => ⟨Aa, ca, ?_, ?_, ?_⟩, fun h16 => by omega⟩
        · rw [HD.out, if_pos hu]
          simp
          omega
        · rw [HL.out, if_pos hu]
          exact (OA.out.blocks fun j hj => hP.2.1 j (by omega)).base (by omega)
        · exact bthen' (bthen (bthen (ba1 _ _) hb1) hb2) (Nat.le_refl _) (hP.2.2.2 _ (Nat.le_refl _))
    · have hlen : b.length + 1 + a.length = N := by have := HNN.out; rw [HL.out, if_neg hu] at this; simp at this; omega
      have HL2 : Hid (L = b ++ [(u1, u2)] ++ a) := Lib.hid (by rw [HL.out, if_neg hu])
      have HD2 : Hid (D = d) := Lib.hid (by rw [HD.out, if_neg hu])
      have hlen2 := Lib.hid hlen
      clear hlen
      go_enter Try.func68, Try.ntmps68
      go_wp2_with (first
        | (go_at_call 76; refine (may_any d A n c l _ (HB.out.below (ba1 _ _)) HN.out (by omega)).mono ?_; rw [HM.out]; rintro e w1 ⟨rfl, hb1⟩; have hT := (two_new w 44 (r1, r2)).below hb1; have hc0 := hT.c0; have hc1 := hT.c1; have hl := hT.lt; simp only at hc0 hc1; have HT := Lib.hid hT; clear hT)
        | (go_at_call 88; refine (join_v A n c l r1 r2 b u1 u2 a _ HJ.out ((HB.out.below (ba1 _ _)).below hb1) HN.out (by omega)).mono ?_; rintro e w2 ⟨Ab, nb, cb, Aa, na, ca, rfl, ob, oa, ap, hb2⟩; have OB := Lib.hid ob; have OA := Lib.hid oa; have AP := Lib.hid ap; have hT := HT.out.below hb2; have T2 := Lib.hid hT; clear hc0 hc1 hl; have hc0 := hT.c0; have hc1 := hT.c1; have hf0 := hT.f0; have hf1 := hT.f1; have hl := hT.lt; simp only at hc0 hc1; clear hT ob oa ap)
        | (at_builtin; refine wpList_appR rfl _ (.tmp 58) (.tmp 60) rfl w1.heap.size Ab nb cb b rfl ((OB.out.blocks fun j hj => (two_put T2.out (u1, u2)).2.1 j (by have := hb1.size; simp at this; omega)).below (ba1 _ _)) _ 1 1 [(u1, u2)] rfl (rs_new _ _ _ _ rfl _ (by simp)) rfl (nb + 1) rfl (by have := OB.out.1; omega) (by have := hb2.size; simp; omega) ?_; intro A4 c4 w4 ho4 hb4 hs4; have O4 := Lib.hid ho4; have OA4 := Lib.hid (((OA.out.blocks fun j hj => (two_put T2.out (u1, u2)).2.1 j (by have := hb1.size; simp at this; omega)).below (ba1 _ _)).beside hs4 AP.out.symm); have HB4 := Lib.hid hb4; clear ho4 hs4 hb4 hc0 hc1 hf0 hf1)
        | (at_builtin; refine wpList_appR rfl w4 (.tmp 61) (.tmp 62) rfl w1.heap.size A4 (nb + 1) c4 (b ++ [(u1, u2)]) rfl O4.out Aa na ca a rfl OA4.out.rs OA.out.1 N (by have := hlen2.out; have := OB.out.1; have := OA.out.1; omega) (by have := hlen2.out; omega) (by have := HB4.out.size; have := hb2.size; simp at *; omega) ?_; intro A5 c5 w5 ho5 hb5 hs5; have O5 := Lib.hid ho5; clear ho5 hs5))
      all_goals
        have hs1 := hb1.size
        simp at hs1
        have hbw : Below w.heap.size w w5 := bthen' (bthen' (bthen' (bthen (bthen (ba1 _ _) hb1) hb2) (Nat.le_refl _) ((two_put T2.out (u1, u2)).2.2.2 _ (Nat.le_refl _))) (Nat.le_refl _) ((Below.refl _ _).alloc (by simp; omega) _)) (by omega) (HB4.out.trans hb5)
        go_ret3
        first
        | exact ⟨fun h16 => by omega, fun _ => ⟨by simp, hbw⟩⟩
        | exact ⟨fun _ => ⟨A5, c5, by rw [HD2.out]; simp, by rw [HL2.out]; exact O5.out.base (by omega), hbw⟩, fun h16 => by omega⟩

end Go.Proofs.Ytehckiihipnimaa
