/-
  Pieces of one's own that grow; the program's tell.
-/
import Derived.Test.YtdilpebhecmjmaaPc
namespace Go.Proofs.Ytdilpebhecmjmaa
open Go.RowKit
set_option linter.unusedVariables false
set_option linter.unusedSimpArgs false

theorem Shape.flat_set {α : Type} (F : Shape α) : ∀ (l : List α) (k : Nat) (x y : α) (j : Nat) (v : Value), l[k]? = some x → j < F.size → F.cells y = (F.cells x).set j v → F.flat (l.set k y) = (F.flat l).set (k * F.size + j) v
  | [], k, x, y, j, v, h, _, _ => by simp at h
  | z :: t, 0, x, y, j, v, h, hj, hv => by
    simp at h; subst h
    show F.cells y ++ F.flat t = (F.cells z ++ F.flat t).set (0 * F.size + j) v
    rw [Nat.zero_mul, Nat.zero_add, List.set_append_left _ _ (by rw [F.len]; exact hj), hv]
  | z :: t, k + 1, x, y, j, v, h, hj, hv => by
    have ih := Shape.flat_set F t k x y j v (by simpa using h) hj hv
    show F.cells z ++ F.flat (t.set k y) = (F.cells z ++ F.flat t).set ((k + 1) * F.size + j) v
    rw [List.set_append_right _ _ (by rw [F.len, Nat.succ_mul]; omega), F.len, show (k + 1) * F.size + j - F.size = k * F.size + j by rw [Nat.succ_mul]; omega, ih]
theorem OwnL.putL {α : Type} {F : Shape α} {e : TypeId} {w : World} {base g : Nat} {n c : Nat} {l : List α} (h : OwnL F e w base (some ⟨g, 0, none⟩) n c l) (k : Nat) (x y : α) (j : Nat) (v : Value) (hk : l[k]? = some x) (hj : j < F.size) (hy : F.cells y = (F.cells x).set j v) :
    OwnL F e (w.setCell ⟨g, k * F.size + j, none⟩ v) base (some ⟨g, 0, none⟩) n c (l.set k y) := by
  obtain ⟨h1, h2⟩ := h.2.stored (k * F.size + j) v
  refine ⟨by rw [List.length_set]; exact h.1, ?_⟩
  rw [F.flat_set l k x y j v hk hj hy]; exact h1
theorem OwnL.softL {α : Type} {F : Shape α} {e : TypeId} {w : World} {base g : Nat} {n c : Nat} {l : List α} (h : OwnL F e w base (some ⟨g, 0, none⟩) n c l) (j : Nat) : w.frozen? ⟨g, j, none⟩ = false := h.2.frozenAt j

/-- a piece's bytes -/
def Pv.v (x : Pv) : Value := .slice x.A x.n x.c
/-- two slices that lie in no row together -/
def Diff (u v : Value) : Prop := ∀ g, u.ownBlock = some g → v.ownBlock ≠ some g
theorem Diff.symm {u v : Value} (h : Diff u v) : Diff v u := fun g h1 h2 => h g h2 h1
/-- pieces of one's own: the list, and the bytes of each, all in rows of their own from block base on -/
structure PL (w : World) (base : Nat) (A : Option Addr) (n c : Nat) (l : List Pv) : Prop where
  row : OwnL pcS 39 w base A n c l
  each : ∀ x ∈ l, OwnL byS 5 w base x.A x.n x.c x.p.data
  off : ∀ x ∈ l, Diff x.v (.slice A n c)
  apart : l.Pairwise fun x y => Diff x.v y.v
theorem PL.nil (w : World) (base : Nat) : PL w base none 0 0 [] := ⟨OwnL.nil _ _, by simp, by simp, .nil⟩
theorem PL.below {w w' : World} {base : Nat} {A : Option Addr} {n c : Nat} {l : List Pv} (h : PL w base A n c l) (hb : Below w.heap.size w w') : PL w' base A n c l :=
  ⟨h.row.below hb, fun x hx => (h.each x hx).below hb, h.off, h.apart⟩
theorem PL.pin {w : World} {base : Nat} {A : Option Addr} {n c : Nat} {l : List Pv} (h : PL w base A n c l) (hs : ∀ x ∈ l, x.n ≤ 140737488351232) : PIn w l := fun x hx => ⟨(h.each x hx).ls, (h.each x hx).1, hs x hx⟩
theorem diff_new {α : Type} {F : Shape α} {e : TypeId} {w w' : World} {base : Nat} {A : Option Addr} {n c : Nat} {l : List α} {u v : Value} (h : OwnL F e w base A n c l) (h0 : Diff (.slice A n c) u) (hs : Beside u v w w') : Diff (.slice A n c) v := fun g hg hv => by
  rcases hs.own g hv with k | k
  · exact h0 g hg k
  · have := (h.lt g hg).2; omega
/-- a piece without bytes behind them -/
theorem PL.app {w w' : World} {base : Nat} {A A' : Option Addr} {n c N c' : Nat} {l : List Pv} {x : Pv} (h : PL w base A n c l) (hx : x.A = none ∧ x.n = 0 ∧ x.c = 0 ∧ x.p.data = [])
    (ho : OwnL pcS 39 w' base A' N c' (l ++ [x])) (hb : Below base w w') (hs : Beside (.slice A n c) (.slice A' N c') w w') : PL w' base A' N c' (l ++ [x]) := by
  obtain ⟨e1, e2, e3, e4⟩ := hx
  have hnil : ∀ g, x.v.ownBlock ≠ some g := fun g hg => by unfold Pv.v at hg; rw [e1] at hg; cases hg
  refine ⟨ho, fun y hy => ?_, fun y hy => ?_, ?_⟩
  · rcases List.mem_append.1 hy with hy | hy
    · exact (h.each y hy).only (hs.only hb) (fun g hg e => h.off y hy g hg e)
    · simp at hy; subst hy
      rw [e1, e2, e3, e4]; exact OwnL.nil _ _
  · rcases List.mem_append.1 hy with hy | hy
    · exact diff_new (h.each y hy) (h.off y hy) hs
    · simp at hy; subst hy
      exact fun g hg => absurd hg (hnil g)
  · rw [List.pairwise_append]
    refine ⟨h.apart, by simp, fun y hy z hz => ?_⟩
    simp at hz; subst hz
    exact fun g _ hz => hnil g hz
/-- the last one's bytes have grown -/
theorem PL.put {w w1 w8 : World} {base g : Nat} {n c m : Nat} {l0 : List Pv} {x : Pv} {A8 : Option Addr} {c8 : Nat} {da : List Int} (h : PL w base (some ⟨g, 0, none⟩) n c (l0 ++ [x])) (hm : l0.length = m) (hb1 : Below w.heap.size w w1)
    (ho : OwnL byS 5 w8 base A8 (x.n + 1) c8 da) (hb : Below base w1 w8) (hs : Beside x.v (.slice A8 (x.n + 1) c8) w1 w8) :
    PL (w8.setCell ⟨g, m * 4 + 3, none⟩ (.slice A8 (x.n + 1) c8)) base (some ⟨g, 0, none⟩) n c (l0 ++ [⟨{ x.p with data := da }, A8, x.n + 1, c8⟩]) ∧ w8.cell? ⟨g, m * 4 + 3, none⟩ = some x.v ∧ w8.frozen? ⟨g, m * 4 + 3, none⟩ = false := by
  have hxm : x ∈ l0 ++ [x] := by simp
  have hget : (l0 ++ [x])[m]? = some x := by rw [← hm]; simp
  have hoff := h.off x hxm
  have hrow8 : OwnL pcS 39 w8 base (some ⟨g, 0, none⟩) n c (l0 ++ [x]) := (h.row.below hb1).only (hs.only hb) (fun j hj e => hoff j e hj)
  have hgl : g < w1.heap.size := ((h.row.below hb1).lt g rfl).2
  have hne : ∀ j, (Value.slice A8 (x.n + 1) c8).ownBlock = some j → j ≠ g := fun j hj e => by
    subst e
    rcases hs.own j hj with k | k
    · exact hoff j k rfl
    · omega
  obtain ⟨bb, oo, hA, hlt, hc⟩ := hrow8.ls.at m x hget
  injection hA with hA
  injection hA with hA1 hA2
  subst hA1; subst hA2
  have hc3 := hc 3 x.v rfl
  rw [Nat.zero_add] at hc3
  refine ⟨⟨?_, fun y hy => ?_, fun y hy => ?_, ?_⟩, hc3, hrow8.softL _⟩
  · have := hrow8.putL m x ⟨{ x.p with data := da }, A8, x.n + 1, c8⟩ 3 (.slice A8 (x.n + 1) c8) hget (by decide) rfl
    have e : (l0 ++ [x]).set m ⟨{ x.p with data := da }, A8, x.n + 1, c8⟩ = l0 ++ [⟨{ x.p with data := da }, A8, x.n + 1, c8⟩] := by
      rw [← hm, List.set_append_right _ _ (Nat.le_refl _)]; simp
    rw [e] at this
    exact this
  · rcases List.mem_append.1 hy with hy | hy
    · have hy' : y ∈ l0 ++ [x] := by simp [hy]
      have hd : Diff y.v x.v := (List.pairwise_append.1 h.apart).2.2 y hy x (by simp)
      exact (((h.each y hy').below hb1).only (hs.only hb) (fun j hj e => hd j hj e)).set (fun j hj e => by subst e; exact h.off y hy' j hj rfl) _ _
    · simp at hy; subst hy
      exact ho.set (fun j hj => hne j hj) _ _
  · rcases List.mem_append.1 hy with hy | hy
    · exact h.off y (by simp [hy])
    · simp at hy; subst hy
      exact fun j hj e => hne j hj (by injection e with e; exact e.symm)
  · rw [List.pairwise_append]
    refine ⟨(List.pairwise_append.1 h.apart).1, by simp, fun y hy z hz => ?_⟩
    simp at hz; subst hz
    have hd : Diff y.v x.v := (List.pairwise_append.1 h.apart).2.2 y hy x (by simp)
    exact diff_new ((h.each y (by simp [hy])).below hb1) hd hs

theorem PL.at_last {w : World} {base : Nat} {A : Option Addr} {n c m : Nat} {l0 : List Pv} {x : Pv} (h : PL w base A n c (l0 ++ [x])) (hm : l0.length = m) :
    ∃ g, A = some ⟨g, 0, none⟩ ∧ base ≤ g ∧ g < w.heap.size ∧ w.cell? ⟨g, m * 4 + 3, none⟩ = some (.slice x.A x.n x.c) ∧ w.cell? ⟨g, m * 4, none⟩ = some (.bool x.p.copy) := by
  have hget : (l0 ++ [x])[m]? = some x := by rw [← hm]; simp
  rcases h.row.addr with ⟨h1, h2, h3⟩ | ⟨g, h1, h2⟩
  · have := h.row.1
    rw [h2] at this; simp at this
  · obtain ⟨bb, oo, hA, hlt, hc⟩ := h.row.ls.at m x hget
    rw [h1] at hA
    injection hA with hA
    injection hA with hA1 hA2
    subst hA1; subst hA2
    have hc3 := hc 3 (.slice x.A x.n x.c) rfl
    have hc0 := hc 0 (.bool x.p.copy) rfl
    rw [Nat.zero_add] at hc3 hc0
    exact ⟨g, h1, (h.row.lt g (by rw [h1]; rfl)).1, h2, hc3, hc0⟩
theorem tellT_new (l : List Pc) (b : Int) (h : ∀ l0 p, l = l0 ++ [p] → p.copy = true) : tellT l b = l ++ [⟨false, 0, 0, [b]⟩] := by
  unfold tellT
  rcases List.eq_nil_or_concat l with rfl | ⟨l0, p, rfl⟩
  · rfl
  · have := h l0 p (by simp)
    simp [this]
theorem tellT_old (l0 : List Pc) (p : Pc) (b : Int) (h : p.copy = false) : tellT (l0 ++ [p]) b = l0 ++ [{ p with data := p.data ++ [b] }] := by
  unfold tellT; simp [h]

/-- what tell answers -/
def RetTl (w : World) (base : Nat) (l : List Pc) (b : Int) (e : Ending) (w' : World) : Prop :=
  ∃ A n c l', e = .returned (.slice A n c) ∧ PL w' base A n c l' ∧ l'.map Pv.p = tellT l b ∧ Below base w w'
set_option maxRecDepth 100000 in
set_option maxHeartbeats 8000000 in
theorem tell_any (A : Option Addr) (n c base : Nat) (l : List Pv) (b : Int) (w : World) (h : PL w base A n c l) (hbase : base ≤ w.heap.size) (hn : n ≤ 4096) (hs : ∀ x ∈ l, x.n ≤ 4096) :
    Calls Try.prog 22 #[.slice A n c, .int .u8 b] w (RetTl w base (l.map Pv.p) b) := by
  have hln := h.row.1
  rcases List.eq_nil_or_concat l with rfl | ⟨l0, x, rfl⟩
  · have hn0 : n = 0 := by simpa using hln.symm
    subst hn0
    have HP := Lib.hid h
    have HBS := Lib.hid hbase
    clear h hbase hln hs
    go_enter Try.func22, Try.ntmps22
    go_wp2_with (first
      | (at_builtin; refine wpList_appL (F := pcS) rfl _ (.tmp 18) (.tmp 20) 23 rfl _ 48 Try.underlying23 pcInfo rfl base A 0 c [] rfl (HP.out.row.below (ba1 _ _)) (some ⟨w.heap.size, 0, none⟩) 1 1 [⟨⟨false, 0, 0, []⟩, none, 0, 0⟩] rfl (ls_new w _ _ _ rfl _ rfl) rfl 1 rfl (by omega) (by omega) (by have := HBS.out; simp; omega) ?_; intro A2 c2 w2 ho2 hb2 hs2; have HP2 := Lib.hid ((HP.out.below (ba1 _ _)).app ⟨rfl, rfl, rfl, rfl⟩ ho2 hb2 hs2); have HB2 := Lib.hid (((ba1 w _).mono HBS.out).trans hb2); obtain ⟨g2, rfl, k1, k2, k3, k4⟩ := HP2.out.at_last (m := 0) rfl; simp only [Nat.zero_mul, Nat.zero_add] at k3 k4; clear ho2 hb2 hs2)
      | (at_builtin; refine wpList_appL (F := byS) rfl _ (.tmp 31) (.tmp 33) 22 rfl _ 1 Try.underlying22 byInfo rfl base none 0 0 [] rfl (OwnL.nil _ _) (some ⟨w2.heap.size, 0, none⟩) 1 1 [b] rfl (ls_new w2 _ _ _ rfl _ rfl) rfl 1 rfl (by omega) (by omega) (by have := HBS.out; have := HB2.out.size; simp; omega) ?_; intro A8 c8 w8 ho8 hb8 hs8; obtain ⟨p1, p2, p3⟩ := HP2.out.put (m := 0) rfl (ba1 w2 _) ho8 hb8 hs8; simp only [Nat.zero_mul, Nat.zero_add] at p1 p2 p3; have P1 := Lib.hid p1; have HB8 := Lib.hid ((HB2.out.trans ((ba1 w2 _).mono (by have := HB2.out.size; have := HBS.out; omega))).trans hb8); clear ho8 hb8 hs8 p1))
    go_ret
    exact ⟨_, 1, c2, _, rfl, P1.out, rfl, HB8.out.setCell k1 _⟩
  · rw [List.concat_eq_append] at h hln hs ⊢
    obtain ⟨m, hm⟩ : ∃ m, m = l0.length := ⟨_, rfl⟩
    have hnm : n = m + 1 := by rw [← hln, hm]; simp
    obtain ⟨g, hA, k1, k2, k3, k4⟩ := h.at_last hm.symm
    have hs4 := hs x (by simp)
    have HP := Lib.hid h
    have HBS := Lib.hid hbase
    have HM := Lib.hid hm
    subst hA
    have hw1 : IntKind.i64.wrap ((n : Int) - 1) = (m : Int) := by rw [IntKind.wrap_i64]; omega
    have hn0 : ¬ (n : Int) = 0 := by omega
    have hmn : (m : Int) < (n : Int) := by omega
    have hm0 : (0 : Int) ≤ (m : Int) := by omega
    obtain ⟨⟨cp, fr, ln, da⟩, XA, xn, xc⟩ := x
    simp only at k3 k4 hs4
    have HNM := Lib.hid hnm
    clear h hbase hln hs hm hnm
    rcases cp with _ | _
    · have HMP : Hid ((l0 ++ [(⟨⟨false, fr, ln, da⟩, XA, xn, xc⟩ : Pv)]).map Pv.p = l0.map Pv.p ++ [⟨false, fr, ln, da⟩]) := Lib.hid (by simp)
      rw [HMP.out]
      have HTL : Hid (tellT (l0.map Pv.p ++ [⟨false, fr, ln, da⟩]) b = l0.map Pv.p ++ [⟨false, fr, ln, da ++ [b]⟩]) := Lib.hid (tellT_old _ _ _ rfl)
      go_enter Try.func22, Try.ntmps22
      go_wp2_with (at_builtin; refine wpList_appL (F := byS) rfl _ (.tmp 31) (.tmp 33) 22 rfl _ 1 Try.underlying22 byInfo rfl base XA xn xc da rfl ((HP.out.each _ (List.mem_append_right _ List.mem_cons_self)).below (ba1 _ _)) (some ⟨w.heap.size, 0, none⟩) 1 1 [b] rfl (ls_new w _ _ _ rfl _ rfl) rfl (xn + 1) rfl (by omega) (by omega) (by have := HBS.out; simp; omega) ?_; intro A8 c8 w8 ho8 hb8 hs8; obtain ⟨p1, p2, p3⟩ := HP.out.put HM.out.symm (ba1 w _) ho8 hb8 hs8; have P1 := Lib.hid p1; have p2' : w8.cell? ⟨g, m * 4 + 3, none⟩ = some (.slice XA xn xc) := p2; have HB8 := Lib.hid (((ba1 w _).mono HBS.out).trans hb8); clear ho8 hb8 hs8 p1 p2)
      go_ret
      exact ⟨_, n, c, _, rfl, P1.out, by rw [HTL.out]; simp, HB8.out.setCell k1 _⟩
    · have HTL : Hid (tellT ((l0 ++ [(⟨⟨true, fr, ln, da⟩, XA, xn, xc⟩ : Pv)]).map Pv.p) b = (l0 ++ [(⟨⟨true, fr, ln, da⟩, XA, xn, xc⟩ : Pv)]).map Pv.p ++ [⟨false, 0, 0, [b]⟩]) := Lib.hid (tellT_new _ _ (fun l1 p e => by
        simp only [List.map_append, List.map_cons, List.map_nil] at e
        have := (List.append_inj' e rfl).2
        simp at this
        rw [← this]))
      obtain ⟨l, hl⟩ : ∃ l, l = l0 ++ [(⟨⟨true, fr, ln, da⟩, XA, xn, xc⟩ : Pv)] := ⟨_, rfl⟩
      rw [← hl] at HP HTL ⊢
      have HLN : Hid (l.length = n) := Lib.hid HP.out.row.1
      obtain ⟨N, hN⟩ : ∃ N, N = n + 1 := ⟨_, rfl⟩
      have hwN : IntKind.i64.wrap ((N : Int) - 1) = (n : Int) := by rw [IntKind.wrap_i64]; omega
      have hnN : (n : Int) < (N : Int) := by omega
      have hn00 : (0 : Int) ≤ (n : Int) := by omega
      have HNN := Lib.hid hN
      have hN5 : N ≤ 5000 := by omega
      clear hl k3 hN
      go_enter Try.func22, Try.ntmps22
      go_wp2_with (first
        | (at_builtin; refine wpList_appL (F := pcS) rfl _ (.tmp 18) (.tmp 20) 23 rfl _ 48 Try.underlying23 pcInfo rfl base (some ⟨g, 0, none⟩) n c l rfl (HP.out.row.below (ba1 _ _)) (some ⟨w.heap.size, 0, none⟩) 1 1 [⟨⟨false, 0, 0, []⟩, none, 0, 0⟩] rfl (ls_new w _ _ _ rfl _ rfl) rfl N HNN.out.symm (by omega) (by omega) (by have := HBS.out; simp; omega) ?_; intro A2 c2 w2 ho2 hb2 hs2; have HP2 := Lib.hid ((HP.out.below (ba1 _ _)).app ⟨rfl, rfl, rfl, rfl⟩ ho2 hb2 hs2); have HB2 := Lib.hid (((ba1 w _).mono HBS.out).trans hb2); obtain ⟨g2, rfl, j1, j2, j3, j4⟩ := HP2.out.at_last HLN.out; clear ho2 hb2 hs2)
        | (at_builtin; refine wpList_appL (F := byS) rfl _ (.tmp 31) (.tmp 33) 22 rfl _ 1 Try.underlying22 byInfo rfl base none 0 0 [] rfl (OwnL.nil _ _) (some ⟨w2.heap.size, 0, none⟩) 1 1 [b] rfl (ls_new w2 _ _ _ rfl _ rfl) rfl 1 rfl (by omega) (by omega) (by have := HBS.out; have := HB2.out.size; simp; omega) ?_; intro A8 c8 w8 ho8 hb8 hs8; obtain ⟨p1, p2, p3⟩ := HP2.out.put HLN.out (ba1 w2 _) ho8 hb8 hs8; have P1 := Lib.hid p1; have p2' : w8.cell? ⟨g2, n * 4 + 3, none⟩ = some (.slice none 0 0) := p2; have HB8 := Lib.hid ((HB2.out.trans ((ba1 w2 _).mono (by have := HB2.out.size; have := HBS.out; omega))).trans hb8); clear ho8 hb8 hs8 p1 p2))
      go_ret
      exact ⟨_, N, c2, _, rfl, P1.out, by rw [HTL.out]; simp, HB8.out.setCell j1 _⟩

end Go.Proofs.Ytdilpebhecmjmaa
