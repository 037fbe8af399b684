/-
  The program's send.Play.
-/
import Derived.Test.YtehckiihipnimaaSndr11
import Derived.Test.YtehckiihipnimaaSents
namespace Go.Proofs.Ytehckiihipnimaa
open Go.RowKit
set_option linter.unusedVariables false
set_option linter.unusedSimpArgs false

theorem splay_range (window : Int) (L : Option Addr) (n c : Nat) (w : World) (h : window < 0 ∨ 65535 < window) :
    Calls Try.prog 17 #[.int .i64 window, .slice L n c] w fun e w' => e = .returned (.tuple #[.slice none 0 0, .int .i64 2]) ∧ Below w.heap.size w w' := by
  by_cases h0 : window < 0
  · clear h
    go_enter Try.func17, Try.ntmps17
    go_wp2
    go_ret2
    exact ⟨rfl, Below.refl _ _⟩
  · have h1 : 65535 < window := by omega
    clear h
    go_enter Try.func17, Try.ntmps17
    go_wp2
    go_ret2
    exact ⟨rfl, Below.refl _ _⟩
theorem splay_size (window : Int) (L : Option Addr) (n c : Nat) (w : World) (h0 : 0 ≤ window) (h1 : window ≤ 65535) (hn : 300 < n) :
    Calls Try.prog 17 #[.int .i64 window, .slice L n c] w fun e w' => e = .returned (.tuple #[.slice none 0 0, .int .i64 1]) ∧ Below w.heap.size w w' := by
  have h3 : (300 : Int) < (n : Int) := by omega
  go_enter Try.func17, Try.ntmps17
  go_wp2
  go_ret2
  exact ⟨rfl, Below.refl _ _⟩

theorem new_sender (window : Int) (w : World) : Calls Try.prog 37 #[.int .i64 window] w fun e w' => e = .returned (.agg #[.slice none 0 0, .bool false, .int .i64 0, .int .i64 0, .int .i64 0, .slice none 0 0, .int .i64 window]) ∧ Below w.heap.size w w' := by
  go_enter Try.func37, Try.ntmps37
  go_wp2
  exact end_ret (v := .agg #[.slice none 0 0, .bool false, .int .i64 0, .int .i64 0, .int .i64 0, .slice none 0 0, .int .i64 window]) (by simp [results, Try.results37, go_sem]; try rfl) ⟨rfl, ba1 _ _⟩

theorem sm_new (w : World) (window : Int) (cs : Array Value) (hcs : cs = snC [] false 0 0 0 [] window none 0 none 0) : Sndr (w.alloc (.cells cs 87)) (fun _ => False) w.heap.size (sd0 window) := by
  subst hcs
  exact ⟨0, [], 0, ⟨none, 0, none, 0, bx_new _ _ _, OwnL.nil _ _, Ls.nil _ _, Clear.none _, (fun k hk => by cases hk), fun h => h⟩, rel_start window⟩

/-- the blocks of a row and of the bytes told in it -/
def TT (v : Value) (ts : List Sv) (j : Nat) : Prop := v.ownBlock = some j ∨ ∃ x ∈ ts, (Value.slice x.A x.n x.c).ownBlock = some j
theorem EI.also {w : World} {S S' : Nat → Prop} {l : List Sv} (h : EI w S l) (hc : ∀ x ∈ l, ∀ k, S' k → ¬ (Value.slice x.A x.n x.c).ownBlock = some k) : EI w (fun k => S k ∨ S' k) l := fun x hx => by
  obtain ⟨h1, h2, h3⟩ := h x hx
  refine ⟨h1, h2, fun a ha g => ?_⟩
  rcases g with (g | g) | g
  · exact h3 a ha (.inl g)
  · exact hc x hx _ g (by rw [ha]; rfl)
  · exact h3 a ha (.inr g)
theorem EI.lt {w : World} {S : Nat → Prop} {l : List Sv} (h : EI w S l) : ∀ x ∈ l, ∀ k, (Value.slice x.A x.n x.c).ownBlock = some k → k < w.heap.size := fun x hx k hk => by
  obtain ⟨-, -, h3⟩ := h x hx
  rcases hA : x.A with _ | a
  · rw [hA] at hk; cases hk
  · rw [hA] at hk
    injection hk with hk
    subst hk
    by_cases g : a.block < w.heap.size
    · exact g
    · exact absurd (.inr (by omega)) (h3 a hA)

/-- how far the walk has come -/
def SPlX (w : World) (n : Nat) (B : Nat) (s0 : Sd) (l : List Dv) (o i : Value) (wr : World) : Prop :=
  ∃ (k : Nat) (A : Option Addr) (c : Nat) (ts : List Sv), k ≤ n ∧ i = .int .i64 k ∧ o = .slice A k c ∧ OwnL seS 29 wr (B + 1) A k c ts ∧ ts.map Sv.st = sent s0 ((l.map Dv.d).take k) ∧
    Sndr wr (TT (.slice A k c) ts) B (sds s0 ((l.map Dv.d).take k)) ∧ EI wr (fun j => (Value.slice A k c).ownBlock = some j) ts ∧ Below w.heap.size w wr

set_option maxHeartbeats 4000000 in
theorem splay_ok (window : Int) (L : Option Addr) (n c : Nat) (l : List Dv) (w : World) (h0 : 0 ≤ window) (h1 : window ≤ 65535) (hn : n ≤ 300) (hb : Ls deS w L l) (hl : l.length = n) (hin : DIn w l) :
    Calls Try.prog 17 #[.int .i64 window, .slice L n c] w (RetS w (sent (sd0 window) (l.map Dv.d))) := by
  have HL := Lib.hid hb
  have HN := Lib.hid hl
  have HI := Lib.hid hin
  have h3 : ¬ (300 : Int) < (n : Int) := by omega
  obtain ⟨s0, hs0⟩ : ∃ s, s = sd0 window := ⟨_, rfl⟩
  have HK0 : Hid (SdOk s0) := Lib.hid (by rw [hs0]; exact sd0_ok h0 h1)
  rw [← hs0]
  have HS0 := Lib.hid hs0
  clear hb hl hin hs0
  go_enter Try.func17, Try.ntmps17
  go_upto_region 6 with (go_at_call 37; (refine (new_sender window w).mono ?_); rintro e w0 ⟨rfl, hb0⟩; have HB0 := Lib.hid hb0; clear hb0)
  obtain ⟨B, hB⟩ : ∃ B, B = w0.heap.size := ⟨_, rfl⟩
  obtain ⟨w1, hw1⟩ : ∃ w1, w1 = w0.alloc (.cells #[.slice none 0 0, .bool false, .int .i64 0, .int .i64 0, .int .i64 0, .slice none 0 0, .int .i64 window] 87) := ⟨_, rfl⟩
  have HB1 : Hid (Below w.heap.size w w1) := Lib.hid (by rw [hw1]; exact bthen HB0.out (ba1 _ _))
  have HS1 : Hid (Sndr w1 (fun _ => False) B s0) := Lib.hid (by rw [hw1, hB, HS0.out]; exact sm_new w0 window _ rfl)
  have HBB : Hid (w.heap.size ≤ B) := Lib.hid (by rw [hB]; exact HB0.out.size)
  rw [← hw1, ← hB]
  have hBl := HS1.out.lt
  clear hw1 hB
  go_wp2_with (at_make; refine wpList_makeL (F := seS) rfl _ _ _ 23 rfl _ 56 Try.underlying23 seInfo (B + 1) _ _ _ n rfl rfl rfl (by omega) (by omega) (by omega) ?_; intro w2 ho2 hb2 hs2; have O2 := Lib.hid ho2; have HB2 := Lib.hid hb2; clear ho2 hb2 hs2)
  obtain ⟨q7, hq7⟩ : ∃ q, q = w1.heap.size := ⟨_, rfl⟩
  rw [← hq7] at O2 ⊢
  have HQ7 := Lib.hid hq7
  clear hq7
  go_loopw [7, 28] (fun o i wr => SPlX w n B s0 l o i wr) (fun _ i _ => n - (intOf i).toNat)
  case atStart =>
    exact ⟨0, some ⟨q7, 0, none⟩, n, [], Nat.zero_le _, rfl, rfl, O2.out, rfl, HS1.out.only (S := fun _ => False) (only_new HB2.out) (fun _ h => h.elim) (fun j hj => by
      rcases hj with hj | ⟨x, hx, _⟩
      · injection hj with hj; right; rw [← hj, HQ7.out]; exact Nat.le_refl _
      · cases hx), fun x hx => by (cases hx), bthen HB1.out HB2.out⟩
  case round =>
    obtain ⟨k, A, c', ts, hk, rfl, rfl, hown, hts, hol, hei, hbw⟩ := hrel
    have HOW := Lib.hid hown
    have HTS := Lib.hid hts
    have HOL := Lib.hid hol
    have HEI := Lib.hid hei
    have HBW := Lib.hid hbw
    clear hown hts hol hei hbw
    by_cases hlt : k < n
    · obtain ⟨x, hx⟩ : ∃ x, l[k]? = some x := ⟨_, List.getElem?_eq_getElem (by rw [HN.out]; exact hlt)⟩
      obtain ⟨bL, oL, rfl, hbl, hcc⟩ := (HL.out.below HBW.out).at k x hx
      have g0 := hcc 0 (.int .i64 x.d.kind) rfl
      have g1 := hcc 1 (.slice x.A x.n x.c) rfl
      have g2 := hcc 2 (.int .i64 x.d.ack) rfl
      have g3 := hcc 3 (.int .i64 x.d.win) rfl
      have g4 := hcc 4 (.slice x.S x.m x.e) rfl
      simp only [deS, Nat.add_zero] at g0 g1 g2 g3 g4
      have hki : (k : Int) < (n : Int) := by omega
      have hst := sent_take s0 (l.map Dv.d) k x.d (by rw [List.getElem?_map, hx]; rfl)
      have HST := Lib.hid hst
      obtain ⟨sk, hsk⟩ : ∃ s, s = sds s0 ((l.map Dv.d).take k) := ⟨_, rfl⟩
      have HKK : Hid (SdOk sk) := Lib.hid (by rw [hsk]; exact sds_ok _ HK0.out)
      rw [← hsk] at HOL HST
      obtain ⟨hi1, hi2, hi3, hi4, hi5, hi6⟩ := HI.out x (List.mem_of_getElem? hx)
      obtain ⟨⟨t, s'⟩, hd⟩ : ∃ r, r = deed sk x.d := ⟨_, rfl⟩
      rw [← hd] at HST
      obtain ⟨q9, hq9⟩ : ∃ q, q = wr.heap.size := ⟨_, rfl⟩
      obtain ⟨w6, hw6⟩ : ∃ w6, w6 = wr.alloc (.cells #[.int .i64 x.d.kind, .slice x.A x.n x.c, .int .i64 x.d.ack, .int .i64 x.d.win, .slice x.S x.m x.e] 39) := ⟨_, rfl⟩
      have HB6 : Hid (Below wr.heap.size wr w6) := Lib.hid (by rw [hw6]; exact ba1 _ _)
      have HX9 : Hid (Bx 39 w6 q9 #[.int .i64 x.d.kind, .slice x.A x.n x.c, .int .i64 x.d.ack, .int .i64 x.d.win, .slice x.S x.m x.e]) := Lib.hid (by rw [hw6, hq9]; exact bx_new _ _ _)
      have HD6 : Hid (DdIs w6 x.d x.A x.n x.S x.m) := Lib.hid ⟨(hi1.below HBW.out).below HB6.out, hi2, (hi3.below HBW.out).below HB6.out, hi4⟩
      have HO6 : Hid (Sndr w6 (TT (.slice A k c') ts) B sk) := Lib.hid (HOL.out.new HB6.out)
      have HOW6 : Hid (OwnL seS 29 w6 (B + 1) A k c' ts) := Lib.hid (HOW.out.below HB6.out)
      have HEI6 : Hid (EI w6 (fun j => (Value.slice A k c').ownBlock = some j) ts) := Lib.hid (HEI.out.new HB6.out)
      have HT6 : Hid (∀ j, TT (.slice A k c') ts j → j < w6.heap.size) := Lib.hid (fun j hj => by
        rcases hj with hj | ⟨y, hy, hj⟩
        · exact (HOW6.out.lt j hj).2
        · exact HEI6.out.lt y hy j hj)
      have HAC : Hid (Calls Try.prog 38 #[.pointer (some ⟨B, 0, none⟩), .agg #[.int .i64 x.d.kind, .slice x.A x.n x.c, .int .i64 x.d.ack, .int .i64 x.d.win, .slice x.S x.m x.e]] w6 (RetAc w6 (TT (.slice A k c') ts) B (t, s'))) := Lib.hid (by
        rw [hd]; exact act_any w6 _ B sk x.d x.A x.n x.c x.S x.m x.e HO6.out HKK.out HT6.out HD6.out hi5 hi6)
      have hB6 := HO6.out.lt
      clear hcc hx hst hsk hi1 hi2 hi3 hi4 hd
      go_upto_region 10 with fail
      rw [← hw6, ← hq9]
      clear hw6 hq9 g0 g1 g2 g3 g4
      have a0 := HX9.out.cell 0 (.int .i64 x.d.kind) rfl
      have a1 := HX9.out.cell 1 (.slice x.A x.n x.c) rfl
      have a2 := HX9.out.cell 2 (.int .i64 x.d.ack) rfl
      have a3 := HX9.out.cell 3 (.int .i64 x.d.win) rfl
      have a4 := HX9.out.cell 4 (.slice x.S x.m x.e) rfl
      have hq9l := HX9.out.lt
      go_wp2_with (first
        | (go_at_call 38; refine HAC.out.mono ?_; rintro e w7 ⟨A7, n7, c7, rfl, how7, hol7, hon7⟩; have HOW7 := Lib.hid how7; have HOL7 := Lib.hid hol7; have HON7 := Lib.hid hon7; unfold stC; clear how7 hol7 hon7 a0 a1 a2 a3 a4 hq9l)
        | (at_builtin; refine wpList_appL (F := seS) rfl _ (.tmp 32) (.tmp 35) 23 rfl _ 56 Try.underlying23 seInfo rfl (B + 1) A k c' ts rfl ((HOW6.out.only HON7.out (fun j hj hB => hB.2 (.inl hj))).below (ba1 _ _)) (some ⟨w7.heap.size, 0, none⟩) 1 1 [⟨t, A7, n7, c7⟩] rfl (ls_new w7 _ _ _ rfl _ rfl) rfl (k + 1) rfl (by omega) (by omega) (by have := HON7.out.size; simp; omega) ?_; intro A8 c8 w8 ho8 hb8 hs8; have HO8 := Lib.hid ho8; have HB8 := Lib.hid hb8; have HS8 := Lib.hid hs8; clear ho8 hb8 hs8))
      have hown7 : ∀ j, (Value.slice A7 n7 c7).ownBlock = some j → w6.heap.size ≤ j ∧ j < w7.heap.size := HOW7.out.lt
      have hei7 : EI w7 (fun j => (Value.slice A k c').ownBlock = some j) (ts ++ [⟨t, A7, n7, c7⟩]) := by
        refine EI.app ?_ HOW7.out.1 HOW7.out.ls (clear_of_own HOW7.out.2 (fun j hj => ?_))
        · refine EI.only (HEI6.out.also (S' := fun j => B ≤ j ∧ ¬ TT (.slice A k c') ts j) (fun y hy j hj hs => hj.2 (.inr ⟨y, hy, hs⟩))) HON7.out (fun j hj => .inl (.inr hj)) (fun j hj => .inl (.inl hj))
        · rcases hj with hj | hj
          · left; exact (HOW6.out.lt j hj).2
          · exact .inr hj
      refine ⟨⟨k + 1, A8, c8, ts ++ [⟨t, A7, n7, c7⟩], by omega, by go_num, rfl, HO8.out, ?_, ?_, ?_, ?_⟩, by simp [intOf]; omega⟩
      · rw [List.map_append, HTS.out, HST.out.1]; rfl
      · rw [HST.out.2]
        have hs7 : Sndr w7 (TT (.slice A k c') (ts ++ [⟨t, A7, n7, c7⟩])) B s' := HOL7.out.less (fun j hj => by
          rcases hj with hj | ⟨y, hy, hj⟩
          · exact .inl (.inl hj)
          · rcases List.mem_append.1 hy with hy | hy
            · exact .inl (.inr ⟨y, hy, hj⟩)
            · simp at hy; subst hy; exact .inr hj)
        exact (hs7.new (ba1 _ _)).only (HS8.out.only HB8.out) (fun j hj => .inl (.inl hj)) (fun j hj => by
          rcases hj with hj | hj
          · rcases HS8.out.own j hj with g | g
            · exact .inl (.inl g)
            · exact .inr g
          · exact .inl (.inr hj))
      · refine EI.only (hei7.new (ba1 _ _)) (HS8.out.only HB8.out) (fun j hj => .inl hj) (fun j hj => ?_)
        exact HS8.out.own j hj
      · have hBw := HBB.out
        have z1 := HBW.out.size
        have z2 := HB6.out.size
        have z3 := HON7.out.size
        exact (((HBW.out.trans (HB6.out.mono z1)).trans (HON7.out.below (B := w.heap.size) (fun j hj => by omega) (by omega))).trans ((ba1 w7 _).mono (by omega))).trans (HB8.out.mono (by omega))
    · obtain rfl : k = n := by omega
      have hki : ¬ (k : Int) < (k : Int) := by omega
      have hall : (l.map Dv.d).take k = l.map Dv.d := List.take_of_length_le (by rw [List.length_map, HN.out]; exact Nat.le_refl _)
      rw [hall] at HTS
      have hlen : Hid ((sent s0 (l.map Dv.d)).length = k) := Lib.hid (by rw [sent_len, List.length_map, HN.out])
      go_wp2_with fail
      go_ret2
      exact ⟨A, c', ts, by rw [hlen.out]; rfl, by rw [hlen.out]; exact HOW.out.base (by have := HBB.out; omega), HTS.out, HEI.out.only (Only.refl (fun _ => False) _) (fun _ h => h.elim) (fun _ h => h.elim), HBW.out⟩

end Go.Proofs.Ytehckiihipnimaa
