/-
  packthreadkeep.lastSeen: the last of what acts come to.
-/
import Derived.Test.YtdekpmidaleipaaDoorTGrown
import Derived.Test.YtdekpmidaleipaaDoorTJobs
namespace Go.Proofs.YtdekpmidaleipaaDoor
open Go.RowKit Go.Maps
set_option linter.unusedVariables false
set_option linter.unusedSimpArgs false

/-- what lastSeen answers -/
def RetLast (w : World) (s : Sn) (e : Ending) (w' : World) : Prop :=
  ∃ x : Sv, e = .returned (.tuple #[.agg #[.int .i64 x.s.code, .int .i64 x.s.kind, .int .i64 x.s.size, .slice x.A x.n x.c, .slice x.N x.m x.d], .bool true]) ∧ x.s = s ∧ SvIn w' x ∧ Below w.heap.size w w'

theorem ls_off {α : Type} {F : Shape α} {t : TypeId} {w w' : World} {q : Nat} {cs : Array Value} {A : Option Addr} {l : List α} (h : Ls F w A l) (hX : Bx t w q cs) (hne : ∀ (x : α) (v : Value), (F.cells x)[0]? = some v → ∀ i : Nat, cs[i]? ≠ some v) (ho : Only (fun k => k = q) w w') : Ls F w' A l := by
  rcases l with _ | ⟨x, r⟩
  · exact Ls.nil _ _
  · refine h.only ho fun a ha e => ?_
    obtain ⟨b, o, rfl, hlt, hc⟩ := h.at 0 x rfl
    injection ha with ha
    subst ha
    obtain rfl : b = q := e
    have h0 : 0 < (F.cells x).length := by rw [F.len]; exact F.pos
    obtain ⟨v, hv⟩ : ∃ v, (F.cells x)[0]? = some v := ⟨_, List.getElem?_eq_getElem h0⟩
    have h2 := hc 0 v hv
    have hb : w.heap[b]? = some (.cells cs t (0, 0)) := hX
    rw [cell_of_row _ b _ cs t (0, 0) hb] at h2
    exact hne x v hv _ h2
theorem SvIn.off {w w' : World} {q : Nat} {x : Sv} (h : SvIn w x) (hX : Bx 32 w q #[.int .i64 0, .int .i64 0, .int .i64 0, .slice none 0 0, .slice none 0 0]) (ho : Only (fun k => k = q) w w') : SvIn w' x := by
  refine ⟨ls_off h.1 hX (fun z v hv i hi => ?_) ho, h.2.1, ls_off h.2.2.1 hX (fun z v hv i hi => ?_) ho, h.2.2.2⟩
  · injection hv with hv; subst hv
    rcases i with _ | _ | _ | _ | _ | i <;> simp at hi
  · injection hv with hv; subst hv
    rcases i with _ | _ | _ | _ | _ | i <;> simp at hi

set_option maxRecDepth 100000 in
set_option maxHeartbeats 8000000 in
theorem lastSeen_any (L : Option Addr) (n c : Nat) (l : List Acv) (M : Option Addr) (m d : Nat) (l2 : List Acv) (w : World) (hb : Ls acS w L l) (hl : l.length = n) (hin : AcIn w l) (hb2 : Ls acS w M l2) (hl2 : l2.length = m) (hin2 : AcIn w l2) (N : Nat) (hNN : n + m = N + 1) (hn : N < 300)
    (s : Sn) (hs : (seenT root0 ((l ++ l2).map Acv.a))[N]? = some s) :
    Calls Tryd.prog 13 #[.slice L n c, .slice M m d] w (RetLast w s) := by
  obtain ⟨w1, hw1⟩ : ∃ w1, w1 = w.alloc (.cells #[.int .i64 0, .int .i64 0, .int .i64 0, .slice none 0 0, .slice none 0 0] 32) := ⟨_, rfl⟩
  obtain ⟨q, hq⟩ : ∃ q, q = w.heap.size := ⟨_, rfl⟩
  have HB1 : Hid (Below w.heap.size w w1) := Lib.hid (by rw [hw1]; exact ba1 _ _)
  have HX1 : Hid (Bx 32 w1 q #[.int .i64 0, .int .i64 0, .int .i64 0, .slice none 0 0, .slice none 0 0]) := Lib.hid (by rw [hw1, hq]; exact bx_new _ _ _)
  have HQ := Lib.hid hq
  have HL := Lib.hid (hb.below HB1.out)
  have HN := Lib.hid hl
  have HI := Lib.hid (hin.below HB1.out)
  have HL2 := Lib.hid (hb2.below HB1.out)
  have HN2 := Lib.hid hl2
  have HI2 := Lib.hid (hin2.below HB1.out)
  have HS := Lib.hid hs
  have HLL : Hid ((l ++ l2).length = N + 1) := Lib.hid (by rw [List.length_append, hl, hl2, hNN])
  have HSL : Hid ((seenT root0 ((l ++ l2).map Acv.a)).length = N + 1) := Lib.hid (by rw [seenT_len, List.length_map, HLL.out])
  clear hb hl hin hb2 hl2 hin2 hs
  go_enter Tryd.func13, Tryd.ntmps13
  go_upto_region 1 with fail
  rw [← hw1, ← hq]
  clear hw1 hq
  go_upto_region 2 with (first
    | (at_builtin; refine wpList_appL (F := acS) rfl w1 (.const (.slice none 0 0)) (.tmp 9) 24 rfl _ 80 Tryd.underlying24 acInfo rfl w1.heap.size none 0 0 [] rfl (OwnL.nil _ _) L n c l rfl HL.out HN.out n (by omega) (by omega) (by omega) (Nat.le_refl _) ?_; intro A2 c2 w2 ho2 hb2 _; rw [List.nil_append] at ho2; have HO2 := Lib.hid ho2; have HB2 := Lib.hid hb2; clear ho2 hb2)
    | (at_builtin; refine wpList_appL (F := acS) rfl _ (.tmp 10) (.tmp 11) 24 rfl _ 80 Tryd.underlying24 acInfo rfl w1.heap.size A2 n c2 l rfl HO2.out M m d l2 rfl (HL2.out.below HB2.out) HN2.out (N + 1) hNN (by omega) (by omega) HB2.out.size ?_; intro A3 c3 w3 ho3 hb3 _; have HO3 := Lib.hid ho3; have HB3 : Hid (Below w1.heap.size w1 w3) := Lib.hid (HB2.out.trans hb3); clear ho3 hb3)
    | (go_at_call 15; refine (grown_any A3 (N + 1) c3 (l ++ l2) w3 (by omega) HO3.out.ls HO3.out.1 (fun x hx => (List.mem_append.1 hx).elim (fun h => (HI.out.below HB3.out) x h) (fun h => (HI2.out.below HB3.out) x h))).mono ?_; rintro e w4 ⟨A4, c4, k, ys, rfl, hk, ho4, hs4, he4, hb4⟩; have HK := Lib.hid hk; have HO4 := Lib.hid ho4; have HS4 := Lib.hid hs4; have HE4 := Lib.hid he4; have HB4 := Lib.hid hb4; clear hk ho4 hs4 he4 hb4))
  obtain rfl : k = N + 1 := by rw [HK.out, HSL.out]
  have hh : ∃ x, ys[N]? = some x ∧ x.s = s := by
    have := HS.out
    rw [← HS4.out, List.getElem?_map] at this
    rcases hx : ys[N]? with _ | x
    · rw [hx] at this; cases this
    · rw [hx] at this; injection this with this; exact ⟨x, rfl, this⟩
  obtain ⟨x, hx, hxs⟩ := hh
  have HV := Lib.hid (HE4.out.svin HS4.out (by rw [List.length_map, HLL.out]; omega) x (List.mem_of_getElem? hx))
  have HXS := Lib.hid hxs
  have HXq := Lib.hid ((HX1.out.below HB3.out).below HB4.out)
  have HB5 : Hid (Below w.heap.size w w4) := Lib.hid (bthen (bthen HB1.out HB3.out) HB4.out)
  obtain ⟨b, o, rfl, hl1, hc1⟩ := HO4.out.ls.at N x hx
  have f0 := hc1 0 (.int .i64 x.s.code) rfl
  have f1 := hc1 1 (.int .i64 x.s.kind) rfl
  have f2 := hc1 2 (.int .i64 x.s.size) rfl
  have f3 := hc1 3 (.slice x.A x.n x.c) rfl
  have f4 := hc1 4 (.slice x.N x.m x.d) rfl
  simp only [seS, Nat.add_zero] at f0 f1 f2 f3 f4
  obtain ⟨lq, z0, z1, z2, z3, z4, y0, y1, y2, y3, y4⟩ := HXq.out.all5
  have hqb : ¬ q = b := by
    have h3 := HO4.out.lt b rfl
    have h4 := HX1.out.lt
    have h5 := HB3.out.size
    omega
  have hbq : ¬ b = q := fun h => hqb h.symm
  have hw : IntKind.i64.wrap (((N + 1 : Nat) : Int) - 1) = (N : Int) := by rw [IntKind.wrap_i64]; omega
  have hz : ((((N + 1 : Nat) : Int)) == 0) = false := by simp; omega
  clear hx hc1 hxs
  go_wp2_with fail
  obtain ⟨w9, hw9⟩ : ∃ w9, w9 = ((((w4.setCell ⟨q, 0, none⟩ (.int .i64 x.s.code)).setCell ⟨q, 1, none⟩ (.int .i64 x.s.kind)).setCell ⟨q, 2, none⟩ (.int .i64 x.s.size)).setCell ⟨q, 3, none⟩ (.slice x.A x.n x.c)).setCell ⟨q, 4, none⟩ (.slice x.N x.m x.d) := ⟨_, rfl⟩
  have HX9 : Bx 32 w9 q #[.int .i64 x.s.code, .int .i64 x.s.kind, .int .i64 x.s.size, .slice x.A x.n x.c, .slice x.N x.m x.d] := by
    rw [hw9]; exact ((((HXq.out.set 0 _).set 1 _).set 2 _).set 3 _).set 4 _
  have hwq : w.heap.size ≤ q := Nat.le_of_eq HQ.out.symm
  have HB9 : Below w.heap.size w w9 := by
    rw [hw9]; exact ((((HB5.out.setCell hwq _).setCell hwq _).setCell hwq _).setCell hwq _).setCell hwq _
  have HO9 : Only (fun k => k = q) w4 w9 := by
    rw [hw9]; exact (((((Only.refl (fun k => k = q) w4).setCell (.inl rfl) _).setCell (.inl rfl) _).setCell (.inl rfl) _).setCell (.inl rfl) _).setCell (.inl rfl) _
  rw [← hw9]
  clear hw9 y0 y1 y2 y3 y4 z0 z1 z2 z3 z4
  obtain ⟨d0, e0, e1, e2, e3, e4, g0, g1, g2, g3, g4⟩ := HX9.all5
  refine end_ret (v := .tuple #[.agg #[.int .i64 x.s.code, .int .i64 x.s.kind, .int .i64 x.s.size, .slice x.A x.n x.c, .slice x.N x.m x.d], .bool true]) (by simp [results, Tryd.results13, go_sem, e0, e1, e2, e3, e4]; try rfl) ?_
  exact ⟨x, rfl, HXS.out, HV.out.off HXq.out HO9, HB9⟩

/-- acts, as they lie in memory -/
structure Asl (w : World) (A : Option Addr) (n : Nat) (xs : List Acv) : Prop where
  ls : Ls acS w A xs
  len : xs.length = n
  inn : AcIn w xs
theorem Asl.below {w w' : World} {A : Option Addr} {n : Nat} {xs : List Acv} (h : Asl w A n xs) (hb : Below w.heap.size w w') : Asl w' A n xs := ⟨h.ls.below hb, h.len, h.inn.below hb⟩
/-- acts that have just been laid -/
theorem lasts_any (A : Option Addr) (n c : Nat) (xs ys : List Acv) (m : Nat) (cs : Array Value) (w : World) (h : Asl w A n xs) (hcs : cs = (acS.flat ys).toArray) (hy : ys.length = m + 1) (hin : AcIn w ys) (hn : n + m < 300)
    (b : Nat) (hb : b = w.heap.size) (s : Sn) (hs : (seenT root0 (xs.map Acv.a ++ ys.map Acv.a))[n + m]? = some s) (k : Nat) (hk : k = m + 1) :
    Calls Tryd.prog 13 #[.slice A n c, .slice (some ⟨b, 0, none⟩) k k] (w.alloc (.cells cs 36)) (RetLast w s) := by
  subst hk
  have hb1 := ba1 w (.cells cs 36)
  refine (lastSeen_any A n c xs (some ⟨b, 0, none⟩) (m + 1) (m + 1) ys (w.alloc (.cells cs 36)) (h.ls.below hb1) h.len (h.inn.below hb1) (ls_new w _ ys cs hcs b hb) hy (hin.below hb1) (n + m) (by omega) hn s (by rw [List.map_append]; exact hs)).mono ?_
  rintro e w' ⟨x, h1, h2, h3, h4⟩
  exact ⟨x, h1, h2, h3, bthen hb1 h4⟩

/-- two that are the same are found the same -/
theorem sameSeen_of (x y : Sv) (h : x.s = y.s) (w : World) (hx : SvIn w x) (hy : SvIn w y) :
    Calls Tryd.prog 16 #[.agg #[.int .i64 x.s.code, .int .i64 x.s.kind, .int .i64 x.s.size, .slice x.A x.n x.c, .slice x.N x.m x.d], .agg #[.int .i64 y.s.code, .int .i64 y.s.kind, .int .i64 y.s.size, .slice y.A y.n y.c, .slice y.N y.m y.d]] w fun e w' => e = .returned (.bool true) ∧ Below w.heap.size w w' := by
  obtain ⟨s, A, n, c, N, m, d⟩ := x
  obtain ⟨s', B, n', c', M, m', d'⟩ := y
  simp only at h
  subst h
  obtain rfl : n = n' := hx.2.1.symm.trans hy.2.1
  obtain rfl : m = m' := hx.2.2.2.1.symm.trans hy.2.2.2.1
  exact sameSeen_ok s A B N M n c m d c' d' w hx hy

/-- an act without bytes, as it lies -/
def plainA (a : Ac) : Acv := ⟨a, none, 0, 0⟩
theorem plain_in (w : World) (l : List Ac) (h : ∀ a ∈ l, a.data = []) : AcIn w (l.map plainA) := fun x hx => by
  obtain ⟨a, ha, rfl⟩ := List.mem_map.1 hx
  have := h a ha
  exact ⟨by show Ls byS w none a.data; rw [this]; exact Ls.nil _ _, by show a.data.length = 0; rw [this]; rfl, by show ∀ z ∈ a.data, _; rw [this]; simp⟩
theorem plain_map (l : List Ac) : (l.map plainA).map Acv.a = l := by rw [List.map_map]; exact List.map_id' l

end Go.Proofs.YtdekpmidaleipaaDoor
