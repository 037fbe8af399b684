/-
  The program's recv.Play.
-/
import Derived.Test.YtehckiihipnimaaHrr6
import Derived.Test.YtehckiihipnimaaHears
namespace Go.Proofs.Ytehckiihipnimaa
open Go.RowKit
set_option linter.unusedVariables false
set_option linter.unusedSimpArgs false

/-- who hears alone in its block -/
def env0 : Env := ⟨96, [], [], 0, rfl⟩
theorem bxs_new (w : World) (cs : Array Value) : Bxs env0 (w.alloc (.cells cs 96)) w.heap.size cs := by
  have h := bx_new w 96 cs
  unfold Bxs env0
  simpa using h
theorem hm_new (w : World) (room : Int) (cs : Array Value) (hcs : cs = hrC (hr0 room) none 0 none 0) : HM env0 (w.alloc (.cells cs 96)) (fun k => k < w.heap.size) w.heap.size (hr0 room) := by
  subst hcs
  exact ⟨none, 0, none, 0, bxs_new _ _, OwnL.nil _ _, Ls.nil _ _, Clear.none _, (fun k hk => by cases hk), by omega⟩
theorem new_hearer (room : Int) (w : World) : Calls Try.prog 42 #[.int .i64 room] w fun e w' => e = .returned (.agg #[.int .i64 room, .slice none 0 0, .int .i64 0, .slice none 0 0, .int .i64 0, .bool false, .int .i64 0]) ∧ Below w.heap.size w w' := by
  go_enter Try.func42, Try.ntmps42
  go_wp2
  exact end_ret (v := .agg #[.int .i64 room, .slice none 0 0, .int .i64 0, .slice none 0 0, .int .i64 0, .bool false, .int .i64 0]) (by simp [results, Try.results42, go_sem]; try rfl) ⟨rfl, ba1 _ _⟩

theorem rplay_range (room : Int) (L : Option Addr) (n c : Nat) (w : World) (h : room < 1 ∨ 4096 < room) :
    Calls Try.prog 25 #[.int .i64 room, .slice L n c] w fun e w' => e = .returned (.tuple #[.slice none 0 0, .int .i64 2]) ∧ Below w.heap.size w w' := by
  by_cases h0 : room < 1
  · clear h
    go_enter Try.func25, Try.ntmps25
    go_wp2
    go_ret2
    exact ⟨rfl, Below.refl _ _⟩
  · have h1 : 4096 < room := by omega
    clear h
    go_enter Try.func25, Try.ntmps25
    go_wp2
    go_ret2
    exact ⟨rfl, Below.refl _ _⟩
theorem rplay_size (room : Int) (L : Option Addr) (n c : Nat) (w : World) (h0 : 1 ≤ room) (h1 : room ≤ 4096) (hn : 300 < n) :
    Calls Try.prog 25 #[.int .i64 room, .slice L n c] w fun e w' => e = .returned (.tuple #[.slice none 0 0, .int .i64 1]) ∧ Below w.heap.size w w' := by
  have h3 : (300 : Int) < (n : Int) := by omega
  go_enter Try.func25, Try.ntmps25
  go_wp2
  go_ret2
  exact ⟨rfl, Below.refl _ _⟩

/-- what who hears must leave: what was ahead of it, a row, and the lists told in it -/
def TTr (B : Nat) (v : Value) (ts : List Tv) (j : Nat) : Prop := j < B ∨ v.ownBlock = some j ∨ ∃ x ∈ ts, TS x.A j ∨ TS x.S j
/-- how far the walk has come -/
def RPlX (w : World) (n : Nat) (B : Nat) (s0 : Hr) (l : List Av) (o i : Value) (wr : World) : Prop :=
  ∃ (k : Nat) (A : Option Addr) (c : Nat) (ts : List Tv), k ≤ n ∧ i = .int .i64 k ∧ o = .slice A k c ∧ OwnL teS 52 wr (B + 1) A k c ts ∧ ts.map Tv.t = heard s0 ((l.map Av.a).take k) ∧
    HM env0 wr (TTr B (.slice A k c) ts) B (hrs s0 ((l.map Av.a).take k)) ∧ EIr wr (fun j => (Value.slice A k c).ownBlock = some j) ts ∧ Below w.heap.size w wr

theorem own_ts {A : Option Addr} {n c k : Nat} : (Value.slice A n c).ownBlock = some k ↔ TS A k := by
  rcases A with _ | a
  · constructor
    · intro h; cases h
    · rintro ⟨a, h, _⟩; cases h
  · constructor
    · intro h; injection h with h; exact ⟨a, rfl, h⟩
    · rintro ⟨b, h, g⟩; injection h with h; subst h; subst g; rfl

set_option maxHeartbeats 4000000 in
theorem rplay_ok (room : Int) (L : Option Addr) (n c : Nat) (l : List Av) (w : World) (h0 : 1 ≤ room) (h1 : room ≤ 4096) (hn : n ≤ 300) (hb : Ls arS w L l) (hl : l.length = n) (hin : AIn w l) :
    Calls Try.prog 25 #[.int .i64 room, .slice L n c] w (RetT w (heard (hr0 room) (l.map Av.a))) := by
  have HL := Lib.hid hb
  have HN := Lib.hid hl
  have HI := Lib.hid hin
  have h3 : ¬ (300 : Int) < (n : Int) := by omega
  obtain ⟨s0, hs0⟩ : ∃ s, s = hr0 room := ⟨_, rfl⟩
  have HK0 : Hid (HrOk s0) := Lib.hid (by rw [hs0]; exact hr0_ok h0 h1)
  rw [← hs0]
  have HS0 := Lib.hid hs0
  clear hb hl hin hs0
  go_enter Try.func25, Try.ntmps25
  go_upto_region 6 with (go_at_call 42; (refine (new_hearer room w).mono ?_); rintro e w0 ⟨rfl, hb0⟩; have HB0 := Lib.hid hb0; clear hb0)
  obtain ⟨B, hB⟩ : ∃ B, B = w0.heap.size := ⟨_, rfl⟩
  obtain ⟨w1, hw1⟩ : ∃ w1, w1 = w0.alloc (.cells #[.int .i64 room, .slice none 0 0, .int .i64 0, .slice none 0 0, .int .i64 0, .bool false, .int .i64 0] 96) := ⟨_, rfl⟩
  have HB1 : Hid (Below w.heap.size w w1) := Lib.hid (by rw [hw1]; exact bthen HB0.out (ba1 _ _))
  have HS1 : Hid (HM env0 w1 (fun k => k < B) B s0) := Lib.hid (by rw [hw1, hB, HS0.out]; exact hm_new w0 room _ rfl)
  have HBB : Hid (w.heap.size ≤ B) := Lib.hid (by rw [hB]; exact HB0.out.size)
  rw [← hw1, ← hB]
  have hBl := HS1.out.lt
  clear hw1 hB
  go_wp2_with (at_make; refine wpList_makeL (F := teS) rfl _ _ _ 48 rfl _ 80 Try.underlying48 teInfo (B + 1) _ _ _ n rfl rfl rfl (by omega) (by omega) (by omega) ?_; intro w2 ho2 hb2 hs2; have O2 := Lib.hid ho2; have HB2 := Lib.hid hb2; clear ho2 hb2 hs2)
  obtain ⟨q7, hq7⟩ : ∃ q, q = w1.heap.size := ⟨_, rfl⟩
  rw [← hq7] at O2 ⊢
  have HQ7 := Lib.hid hq7
  clear hq7
  go_loopw [7, 28] (fun o i wr => RPlX w n B s0 l o i wr) (fun _ i _ => n - (intOf i).toNat)
  case atStart =>
    exact ⟨0, some ⟨q7, 0, none⟩, n, [], Nat.zero_le _, rfl, rfl, O2.out, rfl, HS1.out.only (S := fun _ => False) (only_new HB2.out) (fun _ h => h.elim) (fun j hj => by
      rcases hj with hj | hj | ⟨x, hx, _⟩
      · exact .inl hj
      · injection hj with hj; right; rw [← hj, HQ7.out]; exact Nat.le_refl _
      · cases hx), fun x hx => by (cases hx), bthen HB1.out HB2.out⟩
  case round =>
    obtain ⟨k, A, c', ts, hk, rfl, rfl, hown, hts, hol, hei, hbw⟩ := hrel
    have HOW := Lib.hid hown
    have HTS := Lib.hid hts
    have HOL := Lib.hid hol
    have HEI := Lib.hid hei
    have HBW := Lib.hid hbw
    clear hown hts hol hei hbw
    by_cases hlt : k < n
    · obtain ⟨x, hx⟩ : ∃ x, l[k]? = some x := ⟨_, List.getElem?_eq_getElem (by rw [HN.out]; exact hlt)⟩
      obtain ⟨bL, oL, rfl, hbl, hcc⟩ := (HL.out.below HBW.out).at k x hx
      have g0 := hcc 0 (.int .i64 x.a.kind) rfl
      have g1 := hcc 1 (.int .i64 x.a.at_) rfl
      have g2 := hcc 2 (.slice x.A x.n x.c) rfl
      have g3 := hcc 3 (.bool x.a.fin) rfl
      have g4 := hcc 4 (.int .i64 x.a.count) rfl
      simp only [arS, Nat.add_zero] at g0 g1 g2 g3 g4
      have hki : (k : Int) < (n : Int) := by omega
      have hst := heard_take s0 (l.map Av.a) k x.a (by rw [List.getElem?_map, hx]; rfl)
      have HST := Lib.hid hst
      obtain ⟨sk, hsk⟩ : ∃ s, s = hrs s0 ((l.map Av.a).take k) := ⟨_, rfl⟩
      have HKK : Hid (HrOk sk) := Lib.hid (by rw [hsk]; exact hrs_ok _ HK0.out)
      rw [← hsk] at HOL HST
      obtain ⟨hi1, hi2, hi3, hi4⟩ := HI.out x (List.mem_of_getElem? hx)
      obtain ⟨⟨t, s'⟩, hd⟩ : ∃ r, r = hear sk x.a := ⟨_, rfl⟩
      rw [← hd] at HST
      obtain ⟨q9, hq9⟩ : ∃ q, q = wr.heap.size := ⟨_, rfl⟩
      obtain ⟨w6, hw6⟩ : ∃ w6, w6 = wr.alloc (.cells #[.int .i64 x.a.kind, .int .i64 x.a.at_, .slice x.A x.n x.c, .bool x.a.fin, .int .i64 x.a.count] 61) := ⟨_, rfl⟩
      have HB6 : Hid (Below wr.heap.size wr w6) := Lib.hid (by rw [hw6]; exact ba1 _ _)
      have HX9 : Hid (Bx 61 w6 q9 #[.int .i64 x.a.kind, .int .i64 x.a.at_, .slice x.A x.n x.c, .bool x.a.fin, .int .i64 x.a.count]) := Lib.hid (by rw [hw6, hq9]; exact bx_new _ _ _)
      have HO6 : Hid (HM env0 w6 (TTr B (.slice A k c') ts) B sk) := Lib.hid (HOL.out.new HB6.out)
      have HOW6 : Hid (OwnL teS 52 w6 (B + 1) A k c' ts) := Lib.hid (HOW.out.below HB6.out)
      have HEI6 : Hid (EIr w6 (fun j => (Value.slice A k c').ownBlock = some j) ts) := Lib.hid (HEI.out.new HB6.out)
      have hB6 := HO6.out.lt
      have HT6 : Hid (∀ j, TTr B (.slice A k c') ts j → j < w6.heap.size) := Lib.hid (fun j hj => by
        rcases hj with hj | hj | ⟨y, hy, hj⟩
        · omega
        · exact (HOW6.out.lt j hj).2
        · obtain ⟨⟨-, -, q1⟩, -, -, q2⟩ := HEI6.out y hy
          rcases hj with ⟨a, ha, rfl⟩ | ⟨a, ha, rfl⟩
          · by_cases g : a.block < w6.heap.size
            · exact g
            · exact absurd (.inr (by omega)) (q1 a ha)
          · by_cases g : a.block < w6.heap.size
            · exact g
            · exact absurd (.inr (by omega)) (q2 a ha))
      have HAC : Hid (Calls Try.prog 43 #[.pointer (some ⟨B, 0, none⟩), .agg #[.int .i64 x.a.kind, .int .i64 x.a.at_, .slice x.A x.n x.c, .bool x.a.fin, .int .i64 x.a.count]] w6 (RetHr env0 w6 (TTr B (.slice A k c') ts) B (t, s'))) := Lib.hid (by
        rw [hd]
        exact hear_anyP env0 0 rfl w6 _ B sk HO6.out HKK.out HT6.out x.a x.A x.n x.c ((hi1.below HBW.out).below HB6.out) hi2 hi3 (fun ad had h0 => .inl (by
          rcases hi1 with hz | ⟨b, o', e, hlt2, -⟩
          · have : x.a.data = [] := by
              rcases hdz : x.a.data with _ | ⟨z, zt⟩
              · rfl
              · rw [hdz] at hz; simp [Shape.flat, byS] at hz
            rw [this] at hi2; simp at hi2; omega
          · rw [had] at e; injection e with e; subst e; have := HBB.out; simp only; omega)))
      clear hcc hx hst hsk hi1 hi2 hi3 hi4 hd
      go_upto_region 10 with fail
      rw [← hw6, ← hq9]
      clear hw6 hq9 g0 g1 g2 g3 g4
      have a0 := HX9.out.cell 0 (.int .i64 x.a.kind) rfl
      have a1 := HX9.out.cell 1 (.int .i64 x.a.at_) rfl
      have a2 := HX9.out.cell 2 (.slice x.A x.n x.c) rfl
      have a3 := HX9.out.cell 3 (.bool x.a.fin) rfl
      have a4 := HX9.out.cell 4 (.int .i64 x.a.count) rfl
      have hq9l := HX9.out.lt
      go_wp2_with (first
        | (go_at_call 43; refine HAC.out.mono ?_; rintro e w7 ⟨S7, m7, sc7, A7, n7, c7, rfl, hm7, how7, hsl7, hsb7, hol7, hon7⟩; have HM7 := Lib.hid hm7; have HOW7 := Lib.hid how7; have HSL7 := Lib.hid hsl7; have HSB7 := Lib.hid hsb7; have HOL7 := Lib.hid hol7; have HON7 := Lib.hid hon7; unfold tlC; clear hm7 how7 hsl7 hsb7 hol7 hon7 a0 a1 a2 a3 a4 hq9l)
        | (at_builtin; refine wpList_appL (F := teS) rfl _ (.tmp 32) (.tmp 35) 48 rfl _ 80 Try.underlying48 teInfo rfl (B + 1) A k c' ts rfl ((HOW6.out.only HON7.out (fun j hj hB => hB.2 (.inr (.inl hj)))).below (ba1 _ _)) (some ⟨w7.heap.size, 0, none⟩) 1 1 [⟨t, S7, m7, sc7, A7, n7, c7⟩] rfl (ls_new w7 _ _ _ rfl _ rfl) rfl (k + 1) rfl (by omega) (by omega) (by have := HON7.out.size; simp; omega) ?_; intro A8 c8 w8 ho8 hb8 hs8; have HO8 := Lib.hid ho8; have HB8 := Lib.hid hb8; have HS8 := Lib.hid hs8; clear ho8 hb8 hs8))
      have hown7 : ∀ j, (Value.slice A7 n7 c7).ownBlock = some j → w6.heap.size ≤ j ∧ j < w7.heap.size := HOW7.out.lt
      have hsb7 := HSB7.out
      have hrow6 := fun j (hj : (Value.slice A k c').ownBlock = some j) => (HOW6.out.lt j hj).2
      have hei7 : EIr w7 (fun j => (Value.slice A k c').ownBlock = some j) (ts ++ [⟨t, S7, m7, sc7, A7, n7, c7⟩]) := by
        refine EIr.app ?_ ⟨⟨HOW7.out.1, HOW7.out.ls, clear_of_own HOW7.out.2 (fun j hj => ?_)⟩, HM7.out, HSL7.out, fun a ha g => ?_⟩
        · have hal : EIr w6 (fun j => (Value.slice A k c').ownBlock = some j ∨ (B ≤ j ∧ ¬ TTr B (.slice A k c') ts j)) ts := fun y hy => by
            obtain ⟨⟨q1, q2, q3⟩, q4, q5, q6⟩ := HEI6.out y hy
            refine ⟨⟨q1, q2, fun a ha g => ?_⟩, q4, q5, fun a ha g => ?_⟩
            · rcases g with (g | g) | g
              · exact q3 a ha (.inl g)
              · exact g.2 (.inr (.inr ⟨y, hy, .inl ⟨a, ha, rfl⟩⟩))
              · exact q3 a ha (.inr g)
            · rcases g with (g | g) | g
              · exact q6 a ha (.inl g)
              · exact g.2 (.inr (.inr ⟨y, hy, .inr ⟨a, ha, rfl⟩⟩))
              · exact q6 a ha (.inr g)
          exact hal.only HON7.out (fun j hj => .inl (.inr hj)) (fun j hj => .inl (.inl hj))
        · rcases hj with hj | hj
          · left; exact hrow6 j hj
          · exact .inr hj
        · have h1 := hsb7 a ha
          rcases g with g | g
          · have := hrow6 _ g; omega
          · omega
      refine ⟨⟨k + 1, A8, c8, ts ++ [⟨t, S7, m7, sc7, A7, n7, c7⟩], by omega, by go_num, rfl, HO8.out, ?_, ?_, ?_, ?_⟩, by simp [intOf]; omega⟩
      · rw [List.map_append, HTS.out, HST.out.1]; rfl
      · rw [HST.out.2]
        have hs7 : HM env0 w7 (TTr B (.slice A k c') (ts ++ [⟨t, S7, m7, sc7, A7, n7, c7⟩])) B s' := HOL7.out.less (fun j hj => by
          rcases hj with hj | hj | ⟨y, hy, hj⟩
          · exact .inl (.inl hj)
          · exact .inl (.inr (.inl hj))
          · rcases List.mem_append.1 hy with hy | hy
            · exact .inl (.inr (.inr ⟨y, hy, hj⟩))
            · simp at hy; subst hy
              rcases hj with hj | hj
              · exact .inr (.inl (own_ts.2 hj))
              · exact .inr (.inr hj))
        exact (hs7.new (ba1 _ _)).only (HS8.out.only HB8.out) (fun j hj => .inl (.inr (.inl hj))) (fun j hj => by
          rcases hj with hj | hj | hj
          · exact .inl (.inl hj)
          · rcases HS8.out.own j hj with g | g
            · exact .inl (.inr (.inl g))
            · exact .inr g
          · exact .inl (.inr (.inr hj)))
      · refine EIr.only (hei7.new (ba1 _ _)) (HS8.out.only HB8.out) (fun j hj => .inl hj) (fun j hj => ?_)
        exact HS8.out.own j hj
      · have hBw := HBB.out
        have z1 := HBW.out.size
        have z2 := HB6.out.size
        have z3 := HON7.out.size
        exact (((HBW.out.trans (HB6.out.mono z1)).trans (HON7.out.below (B := w.heap.size) (fun j hj => by omega) (by omega))).trans ((ba1 w7 _).mono (by omega))).trans (HB8.out.mono (by omega))
    · obtain rfl : k = n := by omega
      have hki : ¬ (k : Int) < (k : Int) := by omega
      have hall : (l.map Av.a).take k = l.map Av.a := List.take_of_length_le (by rw [List.length_map, HN.out]; exact Nat.le_refl _)
      rw [hall] at HTS
      have hlen : Hid ((heard s0 (l.map Av.a)).length = k) := Lib.hid (by rw [heard_len, List.length_map, HN.out])
      go_wp2_with fail
      go_ret2
      exact ⟨A, c', ts, by rw [hlen.out]; rfl, by rw [hlen.out]; exact HOW.out.base (by have := HBB.out; omega), HTS.out, HEI.out.only (Only.refl (fun _ => False) _) (fun _ h => h.elim) (fun _ h => h.elim), HBW.out⟩

end Go.Proofs.Ytehckiihipnimaa
