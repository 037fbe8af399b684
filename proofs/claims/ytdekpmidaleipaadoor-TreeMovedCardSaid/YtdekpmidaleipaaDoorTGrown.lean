/-
  packthreadkeep.sameSeen where both are the same; what a play tells is small.
  What is refused does nothing: the mathematics. Nothing of the program.
  packthreadkeep.grown: what acts come to, told as it must be.
-/
import Derived.Test.YtdekpmidaleipaaDoorTPlay
import Derived.Test.YtdekpmidaleipaaDoorSameKeep
import Derived.Test.YtdekpmidaleipaaDoorStKeep
namespace Go.Proofs.YtdekpmidaleipaaDoor
open Go.RowKit Go.Maps
set_option linter.unusedVariables false
set_option linter.unusedSimpArgs false

/-- what is told lies where it says -/
def SvIn (w : World) (x : Sv) : Prop := Ls byS w x.A x.s.data ∧ x.s.data.length = x.n ∧ Ls stS w x.N x.s.names ∧ x.s.names.length = x.m ∧ x.n ≤ 2048 ∧ x.m ≤ 1000
theorem SvIn.below {w w' : World} {x : Sv} (h : SvIn w x) (hb : Below w.heap.size w w') : SvIn w' x := ⟨h.1.below hb, h.2.1, h.2.2.1.below hb, h.2.2.2⟩

theorem act_small (T : Wd) (a : Ac) : (actT T a).2.data.length ≤ 2048 ∧ (actT T a).2.names.length ≤ T.length := by
  have hC : ∀ r : Wd × Int, (snC r).2.data.length ≤ 2048 ∧ (snC r).2.names.length ≤ T.length := fun r => ⟨Nat.zero_le _, Nat.zero_le _⟩
  have hE : ∀ e : Int, (snE e).data.length ≤ 2048 ∧ (snE e).names.length ≤ T.length := fun e => ⟨Nat.zero_le _, Nat.zero_le _⟩
  have hF : ∀ n, (fileT T n a).2.data.length ≤ 2048 ∧ (fileT T n a).2.names.length ≤ T.length := fun n => by
    unfold fileT
    repeat' split
    · exact hE _
    · exact hE _
    · exact ⟨Nat.zero_le _, Nat.zero_le _⟩
    · exact hE _
    · rename_i h
      refine ⟨?_, Nat.zero_le _⟩
      have h2 : fits a.count = true := by
        cases hh : fits a.count
        · exact absurd (.inr hh) h
        · rfl
      simp only [fits, decide_eq_true_eq] at h2
      simp only [List.length_take]
      omega
    · exact hE _
    · exact ⟨Nat.zero_le _, Nat.zero_le _⟩
  have hW : (workT T a).2.data.length ≤ 2048 ∧ (workT T a).2.names.length ≤ T.length := by
    unfold workT
    repeat' split
    · exact hE _
    · exact hF _
    · exact hE _
  have hS : (statT T a.path).data.length ≤ 2048 ∧ (statT T a.path).names.length ≤ T.length := by
    unfold statT
    repeat' split
    · exact hE _
    · exact ⟨Nat.zero_le _, Nat.zero_le _⟩
    · exact ⟨Nat.zero_le _, Nat.zero_le _⟩
  have hL : (listT T a.path).data.length ≤ 2048 ∧ (listT T a.path).names.length ≤ T.length := by
    unfold listT
    repeat' split
    · exact hE _
    · refine ⟨Nat.zero_le _, ?_⟩
      simp only [sorted, List.length_mergeSort]
      exact kids_length _
    · exact hE _
  unfold actT
  repeat' split
  all_goals first | exact hC _ | exact hE _ | exact hW | exact hS | exact hL
theorem seen_small (l : List Ac) : ∀ T : Wd, ∀ s ∈ seenT T l, s.data.length ≤ 2048 ∧ s.names.length ≤ T.length + l.length := by
  induction l with
  | nil => intro T s hs; cases hs
  | cons a r ih =>
    intro T s hs
    rcases List.mem_cons.1 hs with rfl | hs
    · have := act_small T a
      exact ⟨this.1, by simp only [List.length_cons]; omega⟩
    · have h1 := ih _ s hs
      have h2 := actT_len T a
      exact ⟨h1.1, by simp only [List.length_cons]; omega⟩
/-- what came of a play lies where it says -/
theorem SeI.svin {w : World} {l : List Sv} {acs : List Ac} (h : SeI w (fun _ => False) l) (hm : l.map Sv.s = seenT root0 acs) (hn : acs.length ≤ 300) : ∀ x ∈ l, SvIn w x := fun x hx => by
  obtain ⟨⟨h1, h2, -⟩, h4, h5, -⟩ := h x hx
  have hs : x.s ∈ seenT root0 acs := by rw [← hm]; exact List.mem_map_of_mem hx
  obtain ⟨k1, k2⟩ := seen_small acs root0 x.s hs
  have : root0.length = 1 := rfl
  exact ⟨h2, h1, h5, h4, by omega, by omega⟩

set_option maxHeartbeats 4000000 in
theorem sameSeen_ok (s : Sn) (A B N M : Option Addr) (n c m d e0 f : Nat) (w : World) (hx : SvIn w ⟨s, A, n, c, N, m, d⟩) (hy : SvIn w ⟨s, B, n, e0, M, m, f⟩) :
    Calls Tryd.prog 16 #[.agg #[.int .i64 s.code, .int .i64 s.kind, .int .i64 s.size, .slice A n c, .slice N m d], .agg #[.int .i64 s.code, .int .i64 s.kind, .int .i64 s.size, .slice B n e0, .slice M m f]] w fun e w' => e = .returned (.bool true) ∧ Below w.heap.size w w' := by
  obtain ⟨x1, x2, x3, x4, x5, x6⟩ := hx
  obtain ⟨y1, y2, y3, y4, y5, y6⟩ := hy
  simp only at x1 x2 x3 x4 x5 x6 y1 y2 y3 y4 y5 y6
  have X1 := Lib.hid x1
  have X2 := Lib.hid x2
  have X3 := Lib.hid x3
  have X4 := Lib.hid x4
  have Y1 := Lib.hid y1
  have Y3 := Lib.hid y3
  clear x1 x2 x3 x4 y1 y2 y3 y4
  go_enter Tryd.func16, Tryd.ntmps16
  go_wp2_with (first
    | (go_at_call 14; go_loud ((refine (same_keep A n _ B _ s.data _ (X1.out.below (ba2 _ _ _)) (Y1.out.below (ba2 _ _ _)) X2.out (by omega)).mono ?_); rintro e w1 ⟨rfl, hb1⟩; have HB1 : Hid (Below w.heap.size w w1) := Lib.hid (bthen (ba2 _ _ _) hb1); have q1 := Bx.below (Bx.below (bx_new w 32 #[.int .i64 s.code, .int .i64 s.kind, .int .i64 s.size, .slice A n c, .slice N m d]) (ba1 _ _)) hb1; have q2 := Bx.below (bx_new (w.alloc (.cells #[.int .i64 s.code, .int .i64 s.kind, .int .i64 s.size, .slice A n c, .slice N m d] 32)) 32 #[.int .i64 s.code, .int .i64 s.kind, .int .i64 s.size, .slice B n e0, .slice M m f]) hb1; have z0 : (w.alloc (.cells #[.int .i64 s.code, .int .i64 s.kind, .int .i64 s.size, .slice A n c, .slice N m d] 32)).heap.size = w.heap.size + 1 := World.size_alloc _ _; rw [z0] at q2; have g0 := q1.cell 4 (.slice N m d) rfl; have g1 := q2.cell 4 (.slice M m f) rfl; have hz2 := q1.lt; have hz3 := q2.lt; clear hb1 q1 q2 z0))
    | (go_at_call 17; (refine (texts_keep N m _ M _ s.names w1 (X3.out.below HB1.out) (Y3.out.below HB1.out) X4.out (by omega)).mono ?_); rintro e w2 ⟨rfl, hb2⟩; have HB2 := Lib.hid (bthen HB1.out hb2); clear hb2))
  go_ret
  exact ⟨rfl, HB2.out⟩

end Go.Proofs.YtdekpmidaleipaaDoor

namespace Go.Proofs.YtdekpmidaleipaaDoor
set_option linter.unusedVariables false

theorem act_refused (T : Wd) (a : Ac) : (actT T a).2.code = 0 ∨ (actT T a).1 = T := by
  have hC : ∀ r : Wd × Int, (r.2 = 0 ∨ r.1 = T) → (snC r).2.code = 0 ∨ (snC r).1 = T := fun r h => h
  have hA : ∀ p x, (addT T p x).2 = 0 ∨ (addT T p x).1 = T := fun p x => by
    unfold addT
    repeat' split
    all_goals first | exact .inr rfl | exact .inl rfl
  have hR : ∀ p, (removeT T p).2 = 0 ∨ (removeT T p).1 = T := fun p => by
    unfold removeT
    repeat' split
    all_goals first | exact .inr rfl | exact .inl rfl
  have hN : ∀ p q, (renameT T p q).2 = 0 ∨ (renameT T p q).1 = T := fun p q => by
    unfold renameT
    repeat' split
    all_goals first | exact .inr rfl | exact .inl rfl
  have hF : ∀ n, (fileT T n a).2.code = 0 ∨ (fileT T n a).1 = T := fun n => by
    unfold fileT
    repeat' split
    all_goals first | exact .inr rfl | exact .inl rfl
  have hW : (workT T a).2.code = 0 ∨ (workT T a).1 = T := by
    unfold workT
    repeat' split
    all_goals first | exact hF _ | exact .inr rfl
  unfold actT
  repeat' split
  all_goals first | exact hC _ (hA _ _) | exact hC _ (hR _) | exact hC _ (hN _ _) | exact hW | exact .inr rfl

/-- the acts that were not refused, with what they came to -/
def okP (xs : List Acv) (ys : List Sv) : List (Acv × Sv) := (xs.zip ys).filter fun p => decide (p.2.s.code = 0)
theorem seen_ok : ∀ (xs : List Acv) (ys : List Sv) (T : Wd), ys.map Sv.s = seenT T (xs.map Acv.a) → seenT T ((okP xs ys).map fun p => p.1.a) = (okP xs ys).map fun p => p.2.s
  | [], ys, T, h => by simp [okP, seenT]
  | x :: xs, [], T, h => by simp [seenT] at h
  | x :: xs, y :: ys, T, h => by
    simp only [List.map_cons, seenT, List.cons.injEq] at h
    obtain ⟨h1, h2⟩ := h
    have ih := seen_ok xs ys _ h2
    by_cases hc : y.s.code = 0
    · have e : okP (x :: xs) (y :: ys) = (x, y) :: okP xs ys := by simp [okP, hc]
      rw [e]
      simp only [List.map_cons, seenT, ← h1, ih]
    · have e : okP (x :: xs) (y :: ys) = okP xs ys := by simp [okP, hc]
      rw [e]
      rcases act_refused T x.a with g | g
      · rw [← h1] at g; exact absurd g hc
      · rw [g] at ih; exact ih
/-- as far as k -/
def okK (xs : List Acv) (ys : List Sv) (k : Nat) : List (Acv × Sv) := ((xs.zip ys).take k).filter fun p => decide (p.2.s.code = 0)
theorem okK_succ {xs : List Acv} {ys : List Sv} {k : Nat} {x : Acv} {y : Sv} (hx : xs[k]? = some x) (hy : ys[k]? = some y) : okK xs ys (k + 1) = okK xs ys k ++ (if y.s.code = 0 then [(x, y)] else []) := by
  have hz : (xs.zip ys)[k]? = some (x, y) := List.getElem?_zip_eq_some.2 ⟨hx, hy⟩
  unfold okK
  rw [List.take_add_one, hz, List.filter_append]
  by_cases hc : y.s.code = 0
  · simp [hc]
  · simp [hc]
theorem okK_all {xs : List Acv} {ys : List Sv} {k : Nat} (hx : xs.length = k) : okK xs ys k = okP xs ys := by
  unfold okK okP
  rw [List.take_of_length_le (by rw [List.length_zip]; omega)]
theorem okK_len (xs : List Acv) (ys : List Sv) (k : Nat) : (okK xs ys k).length ≤ k := by
  unfold okK
  refine Nat.le_trans (List.length_filter_le _ _) ?_
  rw [List.length_take]; omega
theorem okK_mem {xs : List Acv} {ys : List Sv} {k : Nat} {p : Acv × Sv} (h : p ∈ okK xs ys k) : p.1 ∈ xs ∧ p.2 ∈ ys := by
  unfold okK at h
  have h1 := List.mem_of_mem_take (List.mem_filter.1 h).1
  exact ⟨(List.of_mem_zip h1).1, (List.of_mem_zip h1).2⟩

end Go.Proofs.YtdekpmidaleipaaDoor

namespace Go.Proofs.YtdekpmidaleipaaDoor
open Go.RowKit Go.Maps
set_option linter.unusedVariables false
set_option linter.unusedSimpArgs false

def one3 : List Ac := [⟨2, [47, 120], [], 0, 0, []⟩, ⟨3, [47, 120], [], 1, 0, [5]⟩, ⟨4, [47, 120], [], 0, 9, []⟩]
theorem one3_seen : ∃ a b, seenT root0 one3 = [a, b, ⟨0, 0, 0, [0, 5], []⟩] := ⟨_, _, by rfl⟩

theorem SeI.below {w w' : World} {l : List Sv} (h : SeI w (fun _ => False) l) (hb : Below w.heap.size w w') : SeI w' (fun _ => False) l := h.only (only_new (S := fun _ => False) hb) (fun _ h => h.elim) (fun _ h => h.elim)
/-- the three acts as they lie -/
def one3v (b : Nat) : List Acv := [⟨⟨2, [47, 120], [], 0, 0, []⟩, none, 0, 0⟩, ⟨⟨3, [47, 120], [], 1, 0, [5]⟩, some ⟨b, 0, none⟩, 1, 1⟩, ⟨⟨4, [47, 120], [], 0, 9, []⟩, none, 0, 0⟩]
theorem one3_map (b : Nat) : (one3v b).map Acv.a = one3 := rfl
theorem one3_in (w : World) : AcIn ((w.alloc (.cells #[.int .u8 5] 5)).alloc (.cells (acS.flat (one3v w.heap.size)).toArray 36)) (one3v w.heap.size) := by
  have h5 : Ls byS ((w.alloc (.cells #[.int .u8 5] 5)).alloc (.cells (acS.flat (one3v w.heap.size)).toArray 36)) (some ⟨w.heap.size, 0, none⟩) [5] :=
    (ls_new (F := byS) w 5 [5] _ rfl _ rfl).below ((Below.refl (w.alloc (.cells #[.int .u8 5] 5)).heap.size _).alloc (Nat.le_refl _) _)
  intro x hx
  rcases List.mem_cons.mp hx with rfl | hx
  · exact ⟨Ls.nil _ _, rfl, by simp⟩
  rcases List.mem_cons.mp hx with rfl | hx
  · exact ⟨h5, rfl, by simp⟩
  rcases List.mem_cons.mp hx with rfl | hx
  · exact ⟨Ls.nil _ _, rfl, by simp⟩
  · cases hx

/-- what grown answers -/
def RetGr (w : World) (ss : List Sn) (e : Ending) (w' : World) : Prop :=
  ∃ A c m l, e = .returned (.tuple #[.slice A m c, .bool true]) ∧ m = ss.length ∧ OwnL seS 32 w' w.heap.size A m c l ∧ l.map Sv.s = ss ∧ SeI w' (fun _ => False) l ∧ Below w.heap.size w w'
theorem RetPl.is {w w' : World} {ss : List Sn} {e : Ending} (h : RetPl w ss e w') : ∃ A m c l, e = .returned (.tuple #[.slice A m c, .int .i64 0]) ∧ Hid (m = ss.length) ∧ Hid (OwnL seS 32 w' w.heap.size A m c l) ∧ Hid (l.map Sv.s = ss) ∧ Hid (SeI w' (fun _ => False) l) ∧ Hid (Below w.heap.size w w') := by
  obtain ⟨A, c, l, h1, h2, h3, h4, h5⟩ := h
  exact ⟨A, _, c, l, h1, Lib.hid rfl, Lib.hid h2, Lib.hid h3, Lib.hid h4, Lib.hid h5⟩
/-- an element of what a play came to -/
theorem seen_at {w : World} {S : Nat → Prop} {base : Nat} {A : Option Addr} {n c : Nat} {l : List Sv} {ss : List Sn} (ho : OwnL seS 32 w base A n c l) (hm : l.map Sv.s = ss) (he : SeI w S l) (k : Nat) (s : Sn) (hs : ss[k]? = some s) :
    ∃ x : Sv, l[k]? = some x ∧ x.s = s ∧ (Ls byS w x.A s.data ∧ s.data.length = x.n) ∧ Ls stS w x.N s.names ∧ s.names.length = x.m := by
  rw [← hm, List.getElem?_map] at hs
  rcases hx : l[k]? with _ | x
  · rw [hx] at hs; cases hs
  · rw [hx] at hs
    injection hs with hs
    subst hs
    obtain ⟨⟨h1, h2, -⟩, h4, h5, -⟩ := he x (List.mem_of_getElem? hx)
    exact ⟨x, rfl, rfl, ⟨h2, h1⟩, h5, h4⟩

set_option maxRecDepth 100000 in
set_option maxHeartbeats 8000000 in
theorem grown_any (L : Option Addr) (n c : Nat) (l : List Acv) (w : World) (hn : n ≤ 300) (hb : Ls acS w L l) (hl : l.length = n) (hin : AcIn w l) :
    Calls Tryd.prog 15 #[.slice L n c] w (RetGr w (seenT root0 (l.map Acv.a))) := by
  have HL := Lib.hid hb
  have HN := Lib.hid hl
  have HI := Lib.hid hin
  have HPL := Lib.hid (fun L' c' wx (h : Ls acS wx L' l) (h2 : AcIn wx l) => play_ok L' n c' l wx hn h hl h2)
  obtain ⟨ss, hss⟩ : ∃ ss, ss = seenT root0 (l.map Acv.a) := ⟨_, rfl⟩
  rw [← hss] at HPL ⊢
  have HSL : Hid (ss.length = n) := Lib.hid (by rw [hss, seenT_len, List.length_map, hl])
  clear hb hl hin hss
  go_enter Tryd.func15, Tryd.ntmps15
  go_upto_region 2 with (first
    | (at_builtin; refine wpList_appL (F := acS) rfl w (.const (.slice none 0 0)) (.tmp 9) 24 rfl _ 80 Tryd.underlying24 acInfo rfl w.heap.size none 0 0 [] rfl (OwnL.nil _ _) L n c l rfl HL.out HN.out n (by omega) (by omega) (by omega) (Nat.le_refl _) ?_; intro A1 c1 w1 ho1 hb1 _; rw [List.nil_append] at ho1; have HO1 := Lib.hid ho1; have HB1 := Lib.hid hb1; clear ho1 hb1)
    | (go_at_call 18; refine (HPL.out _ _ _ HO1.out.ls (HI.out.below HB1.out)).mono ?_; intro e w2 h2; obtain ⟨A2, m2, c2, l2, rfl, HM2, HO2, HS2, HE2, HB2⟩ := h2.is; clear h2))
  go_upto_region 3 with (first
    | (go_at_call 18; refine (play_ok (some ⟨w2.heap.size + 1, 0, none⟩) 3 3 (one3v w2.heap.size) _ (by omega) (ls_new _ _ _ _ (by rfl) _ (by simp)) (by rfl) (one3_in w2)).mono ?_; rw [one3_map]; intro e w3 h3; obtain ⟨A3, m3, c3, l3, rfl, HM3, HO3, HS3, HE3, HB3⟩ := h3.is; clear h3))
  obtain ⟨a3, b3, hs3⟩ := one3_seen
  rw [hs3] at HM3 HS3
  obtain rfl : m2 = n := by rw [HM2.out, HSL.out]
  obtain rfl : m3 = 3 := HM3.out
  obtain ⟨x, hx, hxs, ⟨hx1, hx2⟩, -⟩ := seen_at HO3.out HS3.out HE3.out 2 ⟨0, 0, 0, [0, 5], []⟩ rfl
  obtain ⟨b, o, rfl, hc1, h1⟩ := HO3.out.ls.at 2 x hx
  have g1 := h1 3 (.slice x.A x.n x.c) rfl
  simp only [seS, Nat.add_zero] at g1
  have HX := Lib.hid hx1
  obtain ⟨n3, hn3⟩ : ∃ k, k = x.n := ⟨_, rfl⟩
  rw [← hn3] at g1 hx2
  obtain rfl : n3 = 2 := hx2.symm
  have HBB : Hid (Below w.heap.size w w3) := Lib.hid (bthen (bthen (bthen HB1.out HB2.out) (ba2 _ _ _)) HB3.out)
  have HGR : Hid (OwnL seS 32 w3 w.heap.size A2 m2 c2 l2 ∧ SeI w3 (fun _ => False) l2) := Lib.hid ⟨((HO2.out.below (bthen (ba2 _ _ _) HB3.out)).base HB1.out.size), HE2.out.below (bthen (ba2 _ _ _) HB3.out)⟩
  clear hx hx1 hx2 h1 HB3 HO3 HE3 HM2 hn3 hxs HM3 HS3
  go_wp2_with (first
    | (go_at_call 14; refine (same_keep x.A 2 _ _ 2 [0, 5] _ (HX.out.below (ba1 _ _)) (ls_new _ _ _ _ rfl _ rfl) rfl (by omega)).mono ?_; rintro e w4 ⟨rfl, hb4⟩; have HB4 : Hid (Below w3.heap.size w3 w4) := Lib.hid (bthen (ba1 _ _) hb4); clear hb4))
  go_ret2
  exact ⟨A2, c2, m2, l2, rfl, HSL.out.symm, HGR.out.1.below HB4.out, HS2.out, HGR.out.2.below HB4.out, bthen HBB.out HB4.out⟩

end Go.Proofs.YtdekpmidaleipaaDoor
