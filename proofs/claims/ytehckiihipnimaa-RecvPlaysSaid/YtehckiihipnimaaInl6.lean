/-
  The document's RecvPlayed.
-/
import Derived.Test.YtehckiihipnimaaInl5
import Derived.Test.YtehckiihipnimaaHears
namespace Go.Proofs.Ytehckiihipnimaa
open Go.RowKit Go.Maps
set_option linter.unusedVariables false
set_option linter.unusedSimpArgs false

theorem rref_range (room : Int) (L : Option Addr) (n c : Nat) (w : World) (h : room < 1 ∨ 4096 < room) :
    Calls Try.prog 26 #[.int .i64 room, .slice L n c] w fun e w' => e = .returned (.tuple #[.slice none 0 0, .int .i64 2]) ∧ Below w.heap.size w w' := by
  by_cases h0 : room < 1
  · clear h
    go_enter Try.func26, Try.ntmps26
    go_wp2
    go_ret2
    exact ⟨rfl, Below.refl _ _⟩
  · have h1 : 4096 < room := by omega
    clear h
    go_enter Try.func26, Try.ntmps26
    go_wp2
    go_ret2
    exact ⟨rfl, Below.refl _ _⟩
theorem rref_size (room : Int) (L : Option Addr) (n c : Nat) (w : World) (h0 : 1 ≤ room) (h1 : room ≤ 4096) (hn : 300 < n) :
    Calls Try.prog 26 #[.int .i64 room, .slice L n c] w fun e w' => e = .returned (.tuple #[.slice none 0 0, .int .i64 1]) ∧ Below w.heap.size w w' := by
  have h3 : (300 : Int) < (n : Int) := by omega
  go_enter Try.func26, Try.ntmps26
  go_wp2
  go_ret2
  exact ⟨rfl, Below.refl _ _⟩

/-- how far the walk has come -/
def RcI (w : World) (n base B bm : Nat) (s0 : Hr) (l : List Av) (o i : Value) (wr : World) : Prop :=
  ∃ (k : Nat) (A : Option Addr) (c : Nat) (ts : List Tv), k ≤ n ∧ i = .int .i64 k ∧ o = .slice A k c ∧ OwnL teS 52 wr base A k c ts ∧ ts.map Tv.t = heard s0 ((l.map Av.a).take k) ∧
    Inl wr B bm (64 * k) (hrs s0 ((l.map Av.a).take k)) ∧ EIr wr (fun j => (Value.slice A k c).ownBlock = some j ∨ j = B ∨ j = bm) ts ∧ Below w.heap.size w wr ∧ base ≤ wr.heap.size

set_option maxHeartbeats 4000000 in
theorem rref_ok (room : Int) (L : Option Addr) (n c : Nat) (l : List Av) (w : World) (h0 : 1 ≤ room) (h1 : room ≤ 4096) (hn : n ≤ 300) (hb : Ls arS w L l) (hl : l.length = n) (hin : AIn w l) (hii : ∀ x ∈ l, i64in x.a.at_ ∧ i64in x.a.count) :
    Calls Try.prog 26 #[.int .i64 room, .slice L n c] w (RetT w (heard (hr0 room) (l.map Av.a))) := by
  have HL := Lib.hid hb
  have HN := Lib.hid hl
  have HI := Lib.hid hin
  have HII := Lib.hid hii
  have h3 : ¬ (300 : Int) < (n : Int) := by omega
  obtain ⟨s0, hs0⟩ : ∃ s, s = hr0 room := ⟨_, rfl⟩
  have HK0 : Hid (HrOk s0) := Lib.hid (by rw [hs0]; exact hr0_ok h0 h1)
  rw [← hs0]
  have HS0 := Lib.hid hs0
  clear hb hl hin hs0 hii
  go_enter Try.func26, Try.ntmps26
  go_upto_region 8 with (go_at_call 44; (refine (newInlet room w).mono ?_); rintro e w1 ⟨B, bm, rfl, hx1, hm1, hne, hbm, hB, hb1⟩; have HX1 := Lib.hid hx1; have HM1 := Lib.hid hm1; have HB1 := Lib.hid hb1; clear hx1 hm1 hb1)
  have HIN1 : Hid (Inl w1 B bm 0 s0) := Lib.hid ⟨by rw [HS0.out]; exact HX1.out, HM1.out.congr (fun x _ => by
    rw [HS0.out]
    unfold mapOf
    rw [if_neg (fun g => by
      rcases cameB_iff.1 g.2 with q | q
      · have q : x < 0 := q; have := g.1; omega
      · exact absurd q (inR_nil _))])⟩
  have hBl := HX1.out.lt
  have hbl := HM1.out.lt
  go_loopw [7, 23] (fun o i wr => RcI w n w1.heap.size B bm s0 l o i wr) (fun _ i _ => n - (intOf i).toNat)
  case atStart =>
    exact ⟨0, none, 0, [], Nat.zero_le _, rfl, rfl, OwnL.nil _ _, rfl, HIN1.out, (fun x hx => by (cases hx)), HB1.out, Nat.le_refl _⟩
  case round =>
    obtain ⟨k, A, c', ts, hk, rfl, rfl, hown, hts, hol, hei, hbw, hbase⟩ := hrel
    have HOW := Lib.hid hown
    have HTS := Lib.hid hts
    have HOL := Lib.hid hol
    have HEI := Lib.hid hei
    have HBW := Lib.hid hbw
    clear hown hts hol hei hbw
    by_cases hlt : k < n
    · obtain ⟨x, hx⟩ : ∃ x, l[k]? = some x := ⟨_, List.getElem?_eq_getElem (by rw [HN.out]; exact hlt)⟩
      obtain ⟨bL, oL, rfl, hbl', hcc⟩ := (HL.out.below HBW.out).at k x hx
      have g0 := hcc 0 (.int .i64 x.a.kind) rfl
      have g1 := hcc 1 (.int .i64 x.a.at_) rfl
      have g2 := hcc 2 (.slice x.A x.n x.c) rfl
      have g3 := hcc 3 (.bool x.a.fin) rfl
      have g4 := hcc 4 (.int .i64 x.a.count) rfl
      simp only [arS, Nat.add_zero] at g0 g1 g2 g3 g4
      have hki : (k : Int) < (n : Int) := by omega
      have hst := heard_take s0 (l.map Av.a) k x.a (by rw [List.getElem?_map, hx]; rfl)
      have HST := Lib.hid hst
      obtain ⟨sk, hsk⟩ : ∃ s, s = hrs s0 ((l.map Av.a).take k) := ⟨_, rfl⟩
      have HKK : Hid (HrOk sk) := Lib.hid (by rw [hsk]; exact hrs_ok _ HK0.out)
      rw [← hsk] at HOL HST
      obtain ⟨hi1, hi2, hi3, hi4⟩ := HI.out x (List.mem_of_getElem? hx)
      obtain ⟨hj1, hj2⟩ := HII.out x (List.mem_of_getElem? hx)
      obtain ⟨⟨t, s'⟩, hd⟩ : ∃ r, r = hear sk x.a := ⟨_, rfl⟩
      rw [← hd] at HST
      obtain ⟨q9, hq9⟩ : ∃ q, q = wr.heap.size := ⟨_, rfl⟩
      obtain ⟨w6, hw6⟩ : ∃ w6, w6 = wr.alloc (.cells #[.int .i64 x.a.kind, .int .i64 x.a.at_, .slice x.A x.n x.c, .bool x.a.fin, .int .i64 x.a.count] 61) := ⟨_, rfl⟩
      have HB6 : Hid (Below wr.heap.size wr w6) := Lib.hid (by rw [hw6]; exact ba1 _ _)
      have HX9 : Hid (Bx 61 w6 q9 #[.int .i64 x.a.kind, .int .i64 x.a.at_, .slice x.A x.n x.c, .bool x.a.fin, .int .i64 x.a.count]) := Lib.hid (by rw [hw6, hq9]; exact bx_new _ _ _)
      have HO6 : Hid (Inl w6 B bm (64 * k) sk) := Lib.hid (HOL.out.below HB6.out)
      have HOW6 : Hid (OwnL teS 52 w6 w1.heap.size A k c' ts) := Lib.hid (HOW.out.below HB6.out)
      have HEI6 : Hid (EIr w6 (fun j => (Value.slice A k c').ownBlock = some j ∨ j = B ∨ j = bm) ts) := Lib.hid (HEI.out.new HB6.out)
      have HAC : Hid (Calls Try.prog 45 #[.pointer (some ⟨B, 0, none⟩), .agg #[.int .i64 x.a.kind, .int .i64 x.a.at_, .slice x.A x.n x.c, .bool x.a.fin, .int .i64 x.a.count]] w6 (RetAv w6 B bm (64 * k) (t, s'))) := Lib.hid (by
        rw [hd]
        exact arrival_any w6 B bm (64 * k) sk x.a x.A x.n x.c HO6.out hne (by omega) HKK.out ((hi1.below HBW.out).below HB6.out) hi2 hi3 hi4 (fun ad had h0 => by
          rcases hi1 with hz | ⟨b, o', e, hlt2, -⟩
          · have : x.a.data = [] := by
              rcases hdz : x.a.data with _ | ⟨z, zt⟩
              · rfl
              · rw [hdz] at hz; simp [Shape.flat, byS] at hz
            rw [this] at hi2; simp at hi2; omega
          · rw [had] at e; injection e with e; subst e; simp only; omega) hj1 hj2)
      clear hcc hx hst hsk hi1 hi2 hi3 hi4 hd hj1 hj2
      go_upto_region 10 with fail
      rw [← hw6, ← hq9]
      clear hw6 hq9 g0 g1 g2 g3 g4
      have a0 := HX9.out.cell 0 (.int .i64 x.a.kind) rfl
      have a1 := HX9.out.cell 1 (.int .i64 x.a.at_) rfl
      have a2 := HX9.out.cell 2 (.slice x.A x.n x.c) rfl
      have a3 := HX9.out.cell 3 (.bool x.a.fin) rfl
      have a4 := HX9.out.cell 4 (.int .i64 x.a.count) rfl
      have hq9l := HX9.out.lt
      go_wp2_with (first
        | (go_at_call 45; refine HAC.out.mono ?_; rintro e w7 ⟨S7, m7, sc7, A7, n7, c7, rfl, hm7, how7, hsl7, hsb7, hol7, hon7⟩; have HM7 := Lib.hid hm7; have HOW7 := Lib.hid how7; have HSL7 := Lib.hid hsl7; have HSB7 := Lib.hid hsb7; have HOL7 := Lib.hid hol7; have HON7 := Lib.hid hon7; clear hm7 how7 hsl7 hsb7 hol7 hon7 a0 a1 a2 a3 a4 hq9l)
        | (at_builtin; refine wpList_appL (F := teS) rfl _ (.tmp 27) (.tmp 31) 48 rfl _ 80 Try.underlying48 teInfo rfl w1.heap.size A k c' ts rfl ((HOW6.out.only HON7.out (fun j hj hB => by have := (HOW6.out.lt j hj).1; omega)).below (ba1 _ _)) (some ⟨w7.heap.size, 0, none⟩) 1 1 [⟨t, S7, m7, sc7, A7, n7, c7⟩] rfl (ls_new w7 _ _ _ rfl _ rfl) rfl (k + 1) rfl (by omega) (by omega) (by have q1 := HON7.out.size; have q2 := HB6.out.size; simp; omega) ?_; intro A8 c8 w8 ho8 hb8 hs8; have HO8 := Lib.hid ho8; have HB8 := Lib.hid hb8; have HS8 := Lib.hid hs8; clear ho8 hb8 hs8))
      have hrow6 := fun j (hj : (Value.slice A k c').ownBlock = some j) => HOW6.out.lt j hj
      have hsb7 := HSB7.out
      have hown7 : ∀ j, (Value.slice A7 n7 c7).ownBlock = some j → w6.heap.size ≤ j ∧ j < w7.heap.size := HOW7.out.lt
      have hB6 := HO6.out.1.lt
      have hb6 := HO6.out.2.lt
      have z1 := HBW.out.size
      have z2 := HB6.out.size
      have z3 := HON7.out.size
      have hei7 : EIr w7 (fun j => (Value.slice A k c').ownBlock = some j ∨ j = B ∨ j = bm) (ts ++ [⟨t, S7, m7, sc7, A7, n7, c7⟩]) := by
        refine EIr.app (HEI6.out.only HON7.out (fun j hj => .inl (.inr hj)) (fun j hj => .inl hj)) ⟨⟨HOW7.out.1, HOW7.out.ls, clear_of_own HOW7.out.2 (fun j hj => ?_)⟩, HM7.out, HSL7.out, fun a ha g => ?_⟩
        · rcases hj with (hj | hj | hj) | hj
          · left; exact (hrow6 j hj).2
          · left; omega
          · left; omega
          · exact .inr hj
        · have h1 := hsb7 a ha
          rcases g with (g | g | g) | g
          · have := hrow6 _ g; omega
          · omega
          · omega
          · omega
      have hb78 : Below w1.heap.size w7 w8 := ((ba1 w7 _).mono (by omega)).trans HB8.out
      refine ⟨⟨k + 1, A8, c8, ts ++ [⟨t, S7, m7, sc7, A7, n7, c7⟩], by omega, by go_num, rfl, HO8.out, ?_, ?_, ?_, ?_, ?_⟩, by simp [intOf]; omega⟩
      · rw [List.map_append, HTS.out, HST.out.1]; rfl
      · rw [HST.out.2]
        exact Inl.mono ⟨HOL7.out.1.below' hb78 hBl, HOL7.out.2.heap (hb78.block bm hbl)⟩ (by omega)
      · refine EIr.only (hei7.new (ba1 _ _)) (HS8.out.only HB8.out) (fun j hj => .inl (.inl hj)) (fun j hj => ?_)
        rcases hj with hj | hj
        · exact (HS8.out.own j hj).imp .inl id
        · exact .inl (.inr hj)
      · exact ((HBW.out.trans (HB6.out.mono z1)).trans (HON7.out.below (B := w.heap.size) (fun j hj => by omega) (by omega))).trans (hb78.mono HB1.out.size)
      · have := hb78.size; omega
    · obtain rfl : k = n := by omega
      have hki : ¬ (k : Int) < (k : Int) := by omega
      have hall : (l.map Av.a).take k = l.map Av.a := List.take_of_length_le (by rw [List.length_map, HN.out]; exact Nat.le_refl _)
      rw [hall] at HTS
      have hlen : Hid ((heard s0 (l.map Av.a)).length = k) := Lib.hid (by rw [heard_len, List.length_map, HN.out])
      go_wp2_with fail
      go_ret2
      exact ⟨A, c', ts, by rw [hlen.out]; rfl, by rw [hlen.out]; exact HOW.out.base HB1.out.size, HTS.out, HEI.out.only (Only.refl (fun _ => False) _) (fun _ h => h.elim) (fun _ h => h.elim), HBW.out⟩

end Go.Proofs.Ytehckiihipnimaa
