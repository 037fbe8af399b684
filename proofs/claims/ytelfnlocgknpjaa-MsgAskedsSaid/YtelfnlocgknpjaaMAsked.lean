/-
  Asked.
-/
import Derived.Test.YtelfnlocgknpjaaMAskedMath
import Derived.Test.YtelfnlocgknpjaaBox9
namespace Go.Proofs.Ytelfnlocgknpjaa
open Go.RowKit
set_option linter.unusedVariables false
set_option linter.unusedSimpArgs false

/-- the places, told one by one -/
def gOf : List Pt → List PC → (Nat → PC) → Nat → PC
  | p :: ps, v :: vs, g => gOf ps vs (fun o => if o = p.adr.off then v else g o)
  | _, _, g => g
def g0 (kd : Int) : Nat → PC := fun o => if o = 0 then .n kd else if o = 2 ∨ o = 3 then .t [] else if o = 8 then .d [] else .n 0
def f0 (kd : Int) : Nat → PV := fun o => if o = 0 then .n kd else if o = 2 ∨ o = 3 then .t [] else if o = 8 then .d none 0 0 [] else .n 0
theorem f0_pure (kd : Int) (o : Nat) : (f0 kd o).pure = g0 kd o := by
  unfold f0 g0
  repeat' split
  all_goals rfl
theorem f0_typed (kd : Int) : Typed (f0 kd) := by
  refine ⟨fun o h => ?_, fun o h => ?_, ⟨none, 0, 0, [], rfl⟩⟩
  · unfold f0
    by_cases h0 : o = 0
    · exact ⟨kd, by rw [if_pos h0]⟩
    · exact ⟨0, by rw [if_neg h0, if_neg (by omega), if_neg (by omega)]⟩
  · unfold f0
    exact ⟨[], by rw [if_neg (by omega), if_pos h]⟩
/-- what Asked answers: the code, and the request's places -/
def askedT (zs : List Int) : Int × (Nat → PC) :=
  if zs.length < 5 then (5, g0 0) else
  if 1 ≤ zs.headD 0 ∧ zs.headD 0 ≤ 10 then
    match takeT (partsOf 0 (zs.headD 0)) zs with
    | none => (5, g0 0)
    | some (vs, ys) =>
      if 0 < ys.length ∨ faultC (gOf (partsOf 0 (zs.headD 0)) vs (g0 (zs.headD 0))) (zs.headD 0) ≠ 0 then (4, g0 0) else (0, gOf (partsOf 0 (zs.headD 0)) vs (g0 (zs.headD 0)))
  else (3, g0 0)
theorem asked_some {kd : Int} {r ys : List Int} {vs : List PC} (h : ¬ (kd :: r).length < 5) (hk : 1 ≤ kd ∧ kd ≤ 10) (ht : takeT (partsOf 0 kd) (kd :: r) = some (vs, ys)) :
    askedT (kd :: r) = if 0 < ys.length ∨ faultC (gOf (partsOf 0 kd) vs (g0 kd)) kd ≠ 0 then (4, g0 0) else (0, gOf (partsOf 0 kd) vs (g0 kd)) := by
  unfold askedT
  rw [if_neg h, if_pos (by simpa using hk)]
  simp only [List.headD_cons]
  rw [ht]
  rfl
theorem gOf_not : ∀ (ps : List Pt) (vs : List PC) (g : Nat → PC) (o : Nat), (∀ p ∈ ps, p.adr.off ≠ o) → gOf ps vs g o = g o
  | [], _, g, o, _ => by unfold gOf; rfl
  | p :: ps, [], g, o, _ => by unfold gOf; rfl
  | p :: ps, v :: vs, g, o, h => by
    unfold gOf
    rw [gOf_not ps vs _ o fun q hq => h q (List.mem_cons_of_mem _ hq)]
    exact if_neg fun e => h p (List.mem_cons_self ..) e.symm
theorem gOf_get : ∀ (ps : List Pt) (vs : List PC) (g : Nat → PC) (j : Nat) (p : Pt) (v : PC), (∀ (i j : Nat) (p q : Pt), ps[i]? = some p → ps[j]? = some q → p.adr.off = q.adr.off → i = j) → ps[j]? = some p → vs[j]? = some v → gOf ps vs g p.adr.off = v
  | [], _, g, j, p, v, _, h, _ => by simp at h
  | q :: ps, [], g, j, p, v, _, _, h => by simp at h
  | q :: ps, u :: vs, g, j, p, v, hd, hp, hv => by
    unfold gOf
    rcases j with _ | j
    · have hp' : q = p := by simpa using hp
      have hv' : u = v := by simpa using hv
      subst hp'; subst hv'
      rw [gOf_not ps vs _ _ fun r hr e => by
        obtain ⟨i, hi⟩ := List.getElem?_of_mem hr
        have := hd 0 (i + 1) q r rfl (by simpa using hi) e.symm
        omega]
      exact if_pos rfl
    · exact gOf_get ps vs _ j p v (fun i j p q h1 h2 h3 => by
        have := hd (i + 1) (j + 1) p q (by simpa using h1) (by simpa using h2) h3
        omega) (by simpa using hp) (by simpa using hv)
theorem parts_take (B : Nat) (kd : Int) (zs : List Int) : takeT (partsOf B kd) zs = takeT (partsOf 0 kd) zs := by
  unfold partsOf namedBy
  repeat' split
  all_goals simp only [List.cons_append, List.nil_append, takeT, Pt.tk]
theorem parts_gOf (B : Nat) (kd : Int) (vs : List PC) (g : Nat → PC) : gOf (partsOf B kd) vs g = gOf (partsOf 0 kd) vs g := by
  have : ∀ (ps qs : List Pt) (vs : List PC) (g : Nat → PC), ps.map (fun p => p.adr.off) = qs.map (fun p => p.adr.off) → gOf ps vs g = gOf qs vs g := by
    intro ps
    induction ps with
    | nil => intro qs vs g h; rcases qs with _ | ⟨q, qs⟩
             · rfl
             · simp at h
    | cons p ps ih =>
      intro qs vs g h
      rcases qs with _ | ⟨q, qs⟩
      · simp at h
      · simp only [List.map_cons, List.cons.injEq] at h
        rcases vs with _ | ⟨v, vs⟩
        · rfl
        · unfold gOf; rw [h.1]; exact ih qs vs _ h.2
  exact this _ _ _ _ (parts_off B kd)
/-- what stands in the box behind a take -/
theorem took {B : Nat} {kd : Int} {f σ g : Nat → PV} {vs : List PC} (hl : vs.length = (partsOf B kd).length) (hs : ∀ (j : Nat) (p : Pt), (partsOf B kd)[j]? = some p → σ j = f p.adr.off) (hv : ∀ j v, vs[j]? = some v → (σ j).pure = v) (ho : ∀ o, (∀ p ∈ partsOf B kd, p.adr.off ≠ o) → f o = g o) (o : Nat) :
    (f o).pure = gOf (partsOf B kd) vs (fun o => (g o).pure) o := by
  by_cases h : ∃ p ∈ partsOf B kd, p.adr.off = o
  · obtain ⟨p, hp, rfl⟩ := h
    obtain ⟨j, hj⟩ := List.getElem?_of_mem hp
    obtain ⟨v, hvj⟩ : ∃ v, vs[j]? = some v := ⟨_, List.getElem?_eq_getElem (by rw [hl]; exact (List.getElem?_eq_some_iff.1 hj).1)⟩
    rw [gOf_get _ vs _ j p v (good_parts B kd).one hj hvj, ← hv j v hvj, hs j p hj]
  · rw [gOf_not _ _ _ _ fun p hp e => h ⟨p, hp, e⟩, ho o fun p hp e => h ⟨p, hp, e⟩]
/-- the first part is the kind -/
theorem take_kind {kd : Int} {x : Int} {r : List Int} {vs : List PC} {ys : List Int} (h : takeT (partsOf 0 kd) (x :: r) = some (vs, ys)) : vs[0]? = some (.n x) := by
  unfold partsOf at h
  simp only [List.cons_append, List.nil_append] at h
  rw [takeT] at h
  have e : (Pt.num (at_ 0 0) 1).tk (x :: r) = some (.n x, r) := by
    simp only [Pt.tk, List.length_cons, List.take_succ_cons, List.take_zero, List.drop_succ_cons, List.drop_zero]
    rw [if_neg (by omega)]
    simp [val]
  rw [e] at h
  simp only [] at h
  split at h
  · cases h
  · injection h with h; injection h with h1 h2
    rw [← h1]; rfl
theorem okAll {T : Nat → Prop} {w : World} {v : PV} (h : v.ok T w) : v.ok (fun k => w.heap.size ≤ k) w := by
  rcases v with v | s | ⟨D, m, d, zs⟩
  · trivial
  · trivial
  · refine ⟨h.1, h.2.1, ?_⟩
    rcases zs with _ | ⟨x, r⟩
    · exact .inl rfl
    · obtain ⟨b, o, rfl, hlt, -⟩ := h.1.at 0 x rfl
      exact .inr fun a ha => by injection ha with ha; subst ha; simp; omega

/-- bytes do not lie in a request's box -/
theorem ls_off9 {w : World} {D : Option Addr} {zs : List Int} {R : Nat} (h : Ls byS w D zs) (hx : Bx 24 w R #[.int .i64 0, .int .i64 0, .string ⟨#[]⟩, .string ⟨#[]⟩, .int .i64 0, .int .i64 0, .int .i64 0, .int .i64 0, .slice none 0 0]) : zs = [] ∨ Clear (· = R) D := by
  rcases zs with _ | ⟨x, r⟩
  · exact .inl rfl
  · obtain ⟨b, o, rfl, hlt, hcc⟩ := h.at 0 x rfl
    right
    intro a ha e
    injection ha with ha
    subst ha
    have h1 := hcc 0 (.int .u8 x) rfl
    simp only [byS, Nat.add_zero, Nat.mul_one, Nat.mul_zero] at h1
    have e : b = R := e
    subst e
    unfold Bx at hx
    simp only [World.cell?, hx] at h1
    rcases o with _ | _ | _ | _ | _ | _ | _ | _ | _ | o <;> simp at h1
theorem okPut {w w' : World} {R : Nat} {v : PV} {T : Nat → Prop} (h : v.ok T w) (hx : Bx 24 w R #[.int .i64 0, .int .i64 0, .string ⟨#[]⟩, .string ⟨#[]⟩, .int .i64 0, .int .i64 0, .int .i64 0, .int .i64 0, .slice none 0 0]) (ho : Only (fun k => k = R) w w') : v.ok (fun k => w'.heap.size ≤ k) w' := by
  rcases v with v | s | ⟨D, m, d, zs⟩
  · trivial
  · trivial
  · refine okAll (T := T) ⟨?_, h.2.1, h.2.2⟩
    rcases ls_off9 h.1 hx with rfl | hc
    · exact Ls.nil _ _
    · exact h.1.only ho hc

/-- what Asked answers -/
def RetAskd (w : World) (zs : List Int) (e : Ending) (w' : World) : Prop :=
  Below w.heap.size w w' ∧ ∃ f : Nat → PV, e = .returned (.tuple #[.agg (rqC f), .int .i64 (askedT zs).1]) ∧ Typed f ∧ (f 8).ok (fun k => w'.heap.size ≤ k) w' ∧ ∀ o, (f o).pure = (askedT zs).2 o
theorem ret_none {w w' : World} {zs : List Int} {k : Int} (hb : Below w.heap.size w w') (h : askedT zs = (k, g0 0)) : RetAskd w zs (.returned (.tuple #[.agg #[.int .i64 0, .int .i64 0, .string ⟨#[]⟩, .string ⟨#[]⟩, .int .i64 0, .int .i64 0, .int .i64 0, .int .i64 0, .slice none 0 0], .int .i64 k])) w' :=
  ⟨hb, f0 0, by rw [h]; rfl, f0_typed 0, ⟨Ls.nil _ _, rfl, .inl rfl⟩, fun o => by rw [h]; exact f0_pure 0 o⟩

set_option maxRecDepth 100000 in
set_option maxHeartbeats 8000000 in
theorem asked_short (A : Option Addr) (n c : Nat) (zs : List Int) (w : World) (hl : zs.length = n) (h5 : n < 5) :
    Calls Try.prog 13 #[.slice A n c] w (RetAskd w zs) := by
  have HK : Hid (askedT zs = (5, g0 0)) := Lib.hid (by unfold askedT; rw [if_pos (by omega)])
  clear hl
  go_enter Try.func13, Try.ntmps13
  go_wp2
  refine end_ret (v := .tuple #[.agg #[.int .i64 0, .int .i64 0, .string ⟨#[]⟩, .string ⟨#[]⟩, .int .i64 0, .int .i64 0, .int .i64 0, .int .i64 0, .slice none 0 0], .int .i64 5]) (by simp [results, Try.results13, go_sem]) ?_
  exact ret_none (ba1 _ _) HK.out

set_option maxRecDepth 100000 in
set_option maxHeartbeats 8000000 in
theorem asked_any (A : Option Addr) (n c : Nat) (zs : List Int) (w : World) (hs : Ls byS w A zs) (hl : zs.length = n) (hc : n ≤ c) (hc2 : c ≤ 9223372036854775807) (ho : Oct zs) :
    Calls Try.prog 13 #[.slice A n c] w (RetAskd w zs) := by
  by_cases h5 : n < 5
  · exact asked_short A n c zs w hl h5
  have h5f : decide ((n : Int) < 5) = false := by simp; omega
  obtain ⟨kd, r, rfl⟩ : ∃ x r, zs = x :: r := by
    rcases zs with _ | ⟨x, r⟩
    · simp at hl; omega
    · exact ⟨x, r, rfl⟩
  obtain ⟨b, o, rfl, hbl, hcc⟩ := hs.at 0 kd rfl
  have k0 := hcc 0 (.int .u8 kd) rfl
  simp only [byS, Nat.add_zero, Nat.mul_one, Nat.mul_zero] at k0
  have hkb := ho kd (List.mem_cons_self ..)
  have hwk : IntKind.i64.wrap kd = kd := by rw [IntKind.wrap_i64]; omega
  have HS := Lib.hid hs
  have HL := Lib.hid hl
  have HO := Lib.hid ho
  clear hs hl ho hcc
  go_enter Try.func13, Try.ntmps13
  go_upto_region 3 with fail
  obtain ⟨wR, hwR⟩ : ∃ wR, wR = w.alloc (.cells #[.int .i64 0, .int .i64 0, .string ⟨#[]⟩, .string ⟨#[]⟩, .int .i64 0, .int .i64 0, .int .i64 0, .int .i64 0, .slice none 0 0] 24) := ⟨_, rfl⟩
  obtain ⟨R, hR⟩ : ∃ R, R = w.heap.size := ⟨_, rfl⟩
  have HBR : Hid (Below w.heap.size w wR) := Lib.hid (by rw [hwR]; exact ba1 _ _)
  have HXR : Hid (Bx 24 wR R #[.int .i64 0, .int .i64 0, .string ⟨#[]⟩, .string ⟨#[]⟩, .int .i64 0, .int .i64 0, .int .i64 0, .int .i64 0, .slice none 0 0]) := Lib.hid (by rw [hwR, hR]; exact bx_new _ _ _)
  have HRV := Lib.hid hR
  have HSR := Lib.hid (HS.out.below HBR.out)
  have k1 : wR.cell? ⟨b, o, none⟩ = some (.int .u8 kd) := (HBR.out.cell (p := ⟨b, o, none⟩) hbl).trans k0
  have hbl1 : b < wR.heap.size := Nat.lt_of_lt_of_le hbl HBR.out.size
  have hRl := HXR.out.lt
  rw [← hwR, ← hR]
  clear hwR hR k0 hbl
  go_upto_region 4 with fail
  obtain ⟨wB, hwB⟩ : ∃ wB, wB = wR.alloc (.cells #[.int .i64 kd, .int .i64 0, .string ⟨#[]⟩, .string ⟨#[]⟩, .int .i64 0, .int .i64 0, .int .i64 0, .int .i64 0, .slice none 0 0] 24) := ⟨_, rfl⟩
  obtain ⟨B, hB⟩ : ∃ B, B = wR.heap.size := ⟨_, rfl⟩
  have HBB : Hid (Below wR.heap.size wR wB) := Lib.hid (by rw [hwB]; exact ba1 _ _)
  have HXB : Hid (Bx 24 wB B (rqC (f0 kd))) := Lib.hid (by rw [hwB, hB]; exact bx_new _ _ _)
  have HBV := Lib.hid hB
  have hRB : ¬ R = B := by omega
  have hBR : ¬ B = R := by omega
  have hBl := HXB.out.lt
  have HXR2 := Lib.hid (HXR.out.below HBB.out)
  have HSB := Lib.hid (HSR.out.below HBB.out)
  have hbB : ¬ b = B := by omega
  rw [← hwB, ← hB]
  clear hwB hB k1 hRl
  have hc0 : wB.cell? ⟨B, 0, none⟩ = some (.int .i64 kd) := HXB.out.cell 0 _ rfl
  have HOF := Lib.hid (ofReq_any B kd wB hBl hc0)
  clear hc0
  by_cases hkd : 1 ≤ kd ∧ kd ≤ 10
  · have HKD := Lib.hid hkd
    have HOF2 : Hid (Calls Try.prog 29 #[.pointer (some ⟨B, 0, none⟩)] wB fun e w' => Below wB.heap.size wB w' ∧ ∃ a k d, e = .returned (.slice (some a) k d) ∧ k = (partsOf B kd).length ∧ OwnL ptS 74 w' wB.heap.size (some a) k d (partsOf B kd)) := Lib.hid (HOF.out.mono fun e w' h => ⟨h.1, by
      have h2 := h.2
      rw [if_pos HKD.out] at h2
      obtain ⟨P, k, d, q1, q2, q3⟩ := h2
      rcases P with _ | a
      · exfalso
        have := ls_of_none q3.ls
        have h3 := q3.1
        rw [this] at h3 q2
        unfold partsOf at this
        cases this
      · exact ⟨a, k, d, q1, q2, q3⟩⟩)
    clear hkd
    go_upto_region 5 with (go_at_call 29; (with_reducible refine HOF2.out.mono ?_); rintro e w2 ⟨hb2, a, k, d, rfl, hk, ho2⟩; have HB2 := Lib.hid hb2; have HK := Lib.hid hk.symm; have HO2 := Lib.hid ho2; clear hb2 hk ho2)
    have hnil : ∀ w : World, (binOp .eql 50 (.slice (some a) k d) (.slice none 0 0)).run Try.prog w = .ok (.bool false) w := fun w => Lib.run_eql_slice_nil w 50 74 (some a) k d 0 0 Try.underlying50
    have hk8 : k ≤ 8 := by have := parts_len B kd; have := HK.out; omega
    have HI2 : Hid (RqI B (partsOf B kd) (f0 kd) w2 (fun j => match (partsOf B kd)[j]? with | some p => f0 kd p.adr.off | none => .n 0)) := Lib.hid ⟨f0 kd, HXB.out.below HB2.out, f0_typed kd, fun j p h => by simp only [h], fun o _ => rfl, ⟨Ls.nil _ _, rfl, .inl rfl⟩⟩
    have HPC : Hid (Clear (· = B) (some a)) := Lib.hid (clear_of_own HO2.out.2 (fun x hx => .inl (by omega)))
    have HTK := Lib.hid (take_any (rq_fm B (partsOf B kd) (good_parts B kd) (f0 kd)) (fun p hp => by
      rcases p with ⟨a, k⟩ | a | a
      · have := parts_wide B kd _ hp a k rfl
        show 1 ≤ k ∧ k ≤ 4
        omega
      · trivial
      · trivial) (some a) k d HK.out (by omega) (some ⟨b, o, none⟩) n c (kd :: r) w2 _ HI2.out HO2.out.ls HPC.out (HSB.out.below HB2.out) HL.out hc hc2 (fun q hq => by injection hq with hq; subst hq; exact hbB) HO.out (fun q hq => by injection hq with hq; subst hq; have := HBB.out.size; have := HB2.out.size; show b < _; omega) (fun x hx => by have := HB2.out.size; show x < _; have hx' : x = B := hx; omega))
    have HXR3 := Lib.hid (HXR2.out.below HB2.out)
    rcases htk : takeT (partsOf B kd) (kd :: r) with _ | ⟨vs, ys⟩
    · have HK5 : Hid (askedT (kd :: r) = (5, g0 0)) := Lib.hid (by
        unfold askedT
        rw [if_neg (by rw [HL.out]; exact h5), if_pos (by simpa using HKD.out)]
        rw [parts_take] at htk
        simp only [List.headD_cons]
        rw [htk])
      rw [htk] at HTK
      clear htk
      go_upto_region 9 with (go_at_call 34; (with_reducible refine HTK.out.mono ?_); rintro e w3 ⟨rfl, h3, σ3, h4⟩; have H3 := Lib.hid h3; have H4 := Lib.hid h4; clear h3 h4)
      have HXR4 := Lib.hid (HXR3.out.only H3.out hRB)
      obtain ⟨lR, c0, c1, c2, c3, c4, c5, c6, c7, c8, fr⟩ := HXR4.out.cells9
      have z0 := fr 0; have z1 := fr 1; have z2 := fr 2; have z3 := fr 3; have z4 := fr 4; have z5 := fr 5; have z6 := fr 6; have z7 := fr 7; have z8 := fr 8
      clear fr
      have HBW : Hid (Below w.heap.size w w3) := Lib.hid (bthen HBR.out (HBB.out.trans ((HB2.out.mono HBB.out.size).trans (H3.out.below (fun x hx => by have := HBV.out; have hx' : x = B := hx; omega) (Nat.le_trans HBB.out.size HB2.out.size)))))
      go_wp2_with fail
      obtain ⟨wf, hwf⟩ : ∃ wf, wf = put9 w3 R (.int .i64 0) (.int .i64 0) (.string ⟨#[]⟩) (.string ⟨#[]⟩) (.int .i64 0) (.int .i64 0) (.int .i64 0) (.int .i64 0) (.slice none 0 0) := ⟨_, rfl⟩
      have hf := HXR4.out.put9 (.int .i64 0) (.int .i64 0) (.string ⟨#[]⟩) (.string ⟨#[]⟩) (.int .i64 0) (.int .i64 0) (.int .i64 0) (.int .i64 0) (.slice none 0 0)
      have hbf : Below w.heap.size w wf := by rw [hwf]; exact below_put9 HBW.out (by have := HRV.out; omega) _ _ _ _ _ _ _ _ _
      rw [← hwf] at hf
      obtain ⟨-, r0, r1, r2, r3, r4, r5, r6, r7, r8, -⟩ := hf.cells9
      unfold put9 at hwf
      rw [← hwf]
      refine end_ret (v := .tuple #[.agg #[.int .i64 0, .int .i64 0, .string ⟨#[]⟩, .string ⟨#[]⟩, .int .i64 0, .int .i64 0, .int .i64 0, .int .i64 0, .slice none 0 0], .int .i64 5]) (by simp [results, Try.results13, go_sem, r0, r1, r2, r3, r4, r5, r6, r7, r8]) ?_
      exact ret_none hbf HK5.out
    · have HKND : Hid (vs[0]? = some (.n kd)) := Lib.hid (take_kind (by rw [← parts_take B]; exact htk))
      have HTT : Hid (takeT (partsOf 0 kd) (kd :: r) = some (vs, ys)) := Lib.hid (by rw [← parts_take B]; exact htk)
      rw [htk] at HTK
      clear htk
      go_upto_region 10 with (go_at_call 34; (with_reducible refine HTK.out.mono ?_); rintro e w3 ⟨A3, n3, c3, σ3, rfl, h1, h2, h3, h4, h5', h6, h7, h8, h9, h10⟩; have H1 := Lib.hid h1; have H4 := Lib.hid h4; have H6 := Lib.hid h6; have H7 := Lib.hid h7; have H8 := Lib.hid h8; have H9 := Lib.hid h9; clear h1 h4 h5' h6 h7 h8 h9 h10)
      have HXR4 := Lib.hid (HXR3.out.only H6.out hRB)
      have HBW : Hid (Below w.heap.size w w3) := Lib.hid (bthen HBR.out (HBB.out.trans ((HB2.out.mono HBB.out.size).trans (H6.out.below (fun x hx => by have := HBV.out; have hx' : x = B := hx; omega) (Nat.le_trans HBB.out.size HB2.out.size)))))
      obtain ⟨f, hx, hty, hsig, hoth, hdat⟩ := H7.out
      have HTY := Lib.hid hty
      have HDT := Lib.hid (okAll hdat)
      have HPU : Hid (∀ o, (f o).pure = gOf (partsOf 0 kd) vs (g0 kd) o) := Lib.hid (fun o => by
        have := took (B := B) (kd := kd) (f := f) (σ := σ3) (g := f0 kd) (vs := vs) (by rw [H8.out, HK.out]) hsig H9.out hoth o
        rw [parts_gOf] at this
        rw [this]
        congr 1
        funext o
        exact f0_pure kd o)
      have H0 : Hid (f 0 = .n kd) := Lib.hid (by
        obtain ⟨v, hv⟩ := hty.num 0 (by omega)
        have h1 := HPU.out 0
        have h2 : gOf (partsOf 0 kd) vs (g0 kd) 0 = .n kd := gOf_get (partsOf 0 kd) vs (g0 kd) 0 (.num (at_ 0 0) 1) (.n kd) (good_parts 0 kd).one rfl HKND.out
        rw [h2, hv] at h1
        injection h1 with h1
        rw [hv, h1])
      have HX := Lib.hid hx
      clear hx hty hsig hoth hdat
      have HAS := Lib.hid (asked_some (by rw [HL.out]; exact h5) HKD.out HTT.out)
      by_cases hn3 : 0 < n3
      · have g1 : decide ((0 : Int) < (n3 : Int)) = true := by simp; omega
        have HK4 : Hid (askedT (kd :: r) = (4, g0 0)) := Lib.hid (by
          rw [HAS.out]
          exact if_pos (.inl (by rw [← H1.out]; exact hn3)))
        obtain ⟨lR, c0, c1, c2, c3, c4, c5, c6, c7, c8, fr⟩ := HXR4.out.cells9
        have z0 := fr 0; have z1 := fr 1; have z2 := fr 2; have z3 := fr 3; have z4 := fr 4; have z5 := fr 5; have z6 := fr 6; have z7 := fr 7; have z8 := fr 8
        clear fr
        go_wp2_with fail
        obtain ⟨wf, hwf⟩ : ∃ wf, wf = put9 w3 R (.int .i64 0) (.int .i64 0) (.string ⟨#[]⟩) (.string ⟨#[]⟩) (.int .i64 0) (.int .i64 0) (.int .i64 0) (.int .i64 0) (.slice none 0 0) := ⟨_, rfl⟩
        have hf := HXR4.out.put9 (.int .i64 0) (.int .i64 0) (.string ⟨#[]⟩) (.string ⟨#[]⟩) (.int .i64 0) (.int .i64 0) (.int .i64 0) (.int .i64 0) (.slice none 0 0)
        have hbf : Below w.heap.size w wf := by rw [hwf]; exact below_put9 HBW.out (by have := HRV.out; omega) _ _ _ _ _ _ _ _ _
        rw [← hwf] at hf
        obtain ⟨-, r0, r1, r2, r3, r4, r5, r6, r7, r8, -⟩ := hf.cells9
        unfold put9 at hwf
        rw [← hwf]
        refine end_ret (v := .tuple #[.agg #[.int .i64 0, .int .i64 0, .string ⟨#[]⟩, .string ⟨#[]⟩, .int .i64 0, .int .i64 0, .int .i64 0, .int .i64 0, .slice none 0 0], .int .i64 4]) (by simp [results, Try.results13, go_sem, r0, r1, r2, r3, r4, r5, r6, r7, r8]) ?_
        exact ret_none hbf HK4.out
      · have g1 : decide ((0 : Int) < (n3 : Int)) = false := by simp; omega
        have hn0 : n3 = 0 := by omega
        have HYL : Hid (¬ 0 < ys.length) := Lib.hid (by rw [← H1.out]; omega)
        have HFC : Hid (faultT f kd = faultC (gOf (partsOf 0 kd) vs (g0 kd)) kd) := Lib.hid (by
          rw [fault_pure HTY.out HDT.out.len kd]
          congr 1
          funext o
          exact HPU.out o)
        obtain ⟨v1, e1⟩ := HTY.out.num 1 (by omega)
        obtain ⟨s2, e2⟩ := HTY.out.txt 2 (by omega)
        obtain ⟨s3, e3⟩ := HTY.out.txt 3 (by omega)
        obtain ⟨v4, e4⟩ := HTY.out.num 4 (by omega)
        obtain ⟨v5, e5⟩ := HTY.out.num 5 (by omega)
        obtain ⟨v6, e6⟩ := HTY.out.num 6 (by omega)
        obtain ⟨v7, e7⟩ := HTY.out.num 7 (by omega)
        obtain ⟨D, m, dd, zs8, e8⟩ := HTY.out.dat
        have HRQ : Hid (rqC f = #[.int .i64 kd, .int .i64 v1, .string (tx s2), .string (tx s3), .int .i64 v4, .int .i64 v5, .int .i64 v6, .int .i64 v7, .slice D m dd]) := Lib.hid (by unfold rqC; rw [H0.out, e1, e2, e3, e4, e5, e6, e7, e8]; rfl)
        clear e1 e2 e3 e4 e5 e6 e7 e8
        have HFT : Hid (Calls Try.prog 27 #[.agg #[.int .i64 kd, .int .i64 v1, .string (tx s2), .string (tx s3), .int .i64 v4, .int .i64 v5, .int .i64 v6, .int .i64 v7, .slice D m dd]] w3 fun e w' => e = .returned (.int .i64 (faultT f kd)) ∧ Below w3.heap.size w3 w') := Lib.hid (by rw [← HRQ.out]; exact fault_any f kd w3 H0.out HTY.out HDT.out)
        have HXC : Hid (Bx 24 w3 B #[.int .i64 kd, .int .i64 v1, .string (tx s2), .string (tx s3), .int .i64 v4, .int .i64 v5, .int .i64 v6, .int .i64 v7, .slice D m dd]) := Lib.hid (by rw [← HRQ.out]; exact HX.out)
        obtain ⟨-, q0, q1, q2, q3, q4, q5, q6, q7, q8, -⟩ := HXC.out.cells9
        have hxl := HX.out.lt
        obtain ⟨v, hv⟩ : ∃ v, v = faultT f kd := ⟨_, rfl⟩
        rw [← hv] at HFT HFC
        have HV := Lib.hid hv
        clear hv
        by_cases hv0 : v = 0
        · have HK0 : Hid (askedT (kd :: r) = (0, gOf (partsOf 0 kd) vs (g0 kd))) := Lib.hid (by
            rw [HAS.out]
            exact if_neg (by rintro (h | h); exact HYL.out h; exact h (by rw [← HFC.out]; exact hv0)))
          subst hv0
          go_wp2_with (go_at_call 27; (with_reducible refine HFT.out.mono ?_); rintro e w4 ⟨rfl, hb4⟩; have HB4 := Lib.hid hb4; have HXR5 := Lib.hid (HXR4.out.below hb4); have HBW5 := Lib.hid (bthen HBW.out hb4); obtain ⟨lR, c0, c1, c2, c3, c4, c5, c6, c7, c8, fr⟩ := HXR5.out.cells9; have z0 := fr 0; have z1 := fr 1; have z2 := fr 2; have z3 := fr 3; have z4 := fr 4; have z5 := fr 5; have z6 := fr 6; have z7 := fr 7; have z8 := fr 8; obtain ⟨lX, q0, q1, q2, q3, q4, q5, q6, q7, q8, -⟩ := (HXC.out.below hb4).cells9; clear hb4 fr)
          obtain ⟨wf, hwf⟩ : ∃ wf, wf = put9 w4 R (.int .i64 kd) (.int .i64 v1) (.string (tx s2)) (.string (tx s3)) (.int .i64 v4) (.int .i64 v5) (.int .i64 v6) (.int .i64 v7) (.slice D m dd) := ⟨_, rfl⟩
          have hf := HXR5.out.put9 (.int .i64 kd) (.int .i64 v1) (.string (tx s2)) (.string (tx s3)) (.int .i64 v4) (.int .i64 v5) (.int .i64 v6) (.int .i64 v7) (.slice D m dd)
          have hbf : Below w.heap.size w wf := by rw [hwf]; exact below_put9 HBW5.out (by have := HRV.out; omega) _ _ _ _ _ _ _ _ _
          rw [← hwf] at hf
          obtain ⟨-, r0, r1, r2, r3, r4, r5, r6, r7, r8, -⟩ := hf.cells9
          unfold put9 at hwf
          rw [← hwf]
          refine end_ret (v := .tuple #[.agg #[.int .i64 kd, .int .i64 v1, .string (tx s2), .string (tx s3), .int .i64 v4, .int .i64 v5, .int .i64 v6, .int .i64 v7, .slice D m dd], .int .i64 0]) (by simp [results, Try.results13, go_sem, r0, r1, r2, r3, r4, r5, r6, r7, r8]) ?_
          have hok5 : (f 8).ok (fun k => wf.heap.size ≤ k) wf := okPut (okMore HDT.out HB4.out) HXR5.out (by rw [hwf]; exact only_put9 w4 R _ _ _ _ _ _ _ _ _)
          exact ⟨hbf, f, by rw [HK0.out, HRQ.out], HTY.out, hok5, fun o => by rw [HK0.out]; exact HPU.out o⟩
        · have HK4 : Hid (askedT (kd :: r) = (4, g0 0)) := Lib.hid (by
            rw [HAS.out]
            exact if_pos (.inr (by rw [← HFC.out]; exact hv0)))
          have hv1 : (v == 0) = false := by simpa using hv0
          have hv2 : (v != 0) = true := by simpa using hv0
          go_wp2_with (go_at_call 27; (with_reducible refine HFT.out.mono ?_); rintro e w4 ⟨rfl, hb4⟩; have HB4 := Lib.hid hb4; have HXR5 := Lib.hid (HXR4.out.below hb4); have HBW5 := Lib.hid (bthen HBW.out hb4); obtain ⟨lR, c0, c1, c2, c3, c4, c5, c6, c7, c8, fr⟩ := HXR5.out.cells9; have z0 := fr 0; have z1 := fr 1; have z2 := fr 2; have z3 := fr 3; have z4 := fr 4; have z5 := fr 5; have z6 := fr 6; have z7 := fr 7; have z8 := fr 8; clear hb4 fr)
          obtain ⟨wf, hwf⟩ : ∃ wf, wf = put9 w4 R (.int .i64 0) (.int .i64 0) (.string ⟨#[]⟩) (.string ⟨#[]⟩) (.int .i64 0) (.int .i64 0) (.int .i64 0) (.int .i64 0) (.slice none 0 0) := ⟨_, rfl⟩
          have hf := HXR5.out.put9 (.int .i64 0) (.int .i64 0) (.string ⟨#[]⟩) (.string ⟨#[]⟩) (.int .i64 0) (.int .i64 0) (.int .i64 0) (.int .i64 0) (.slice none 0 0)
          have hbf : Below w.heap.size w wf := by rw [hwf]; exact below_put9 HBW5.out (by have := HRV.out; omega) _ _ _ _ _ _ _ _ _
          rw [← hwf] at hf
          obtain ⟨-, r0, r1, r2, r3, r4, r5, r6, r7, r8, -⟩ := hf.cells9
          unfold put9 at hwf
          rw [← hwf]
          refine end_ret (v := .tuple #[.agg #[.int .i64 0, .int .i64 0, .string ⟨#[]⟩, .string ⟨#[]⟩, .int .i64 0, .int .i64 0, .int .i64 0, .int .i64 0, .slice none 0 0], .int .i64 4]) (by simp [results, Try.results13, go_sem, r0, r1, r2, r3, r4, r5, r6, r7, r8]) ?_
          exact ret_none hbf HK4.out
  · have HKD := Lib.hid hkd
    have HOF2 : Hid (Calls Try.prog 29 #[.pointer (some ⟨B, 0, none⟩)] wB fun e w' => e = .returned (.slice none 0 0) ∧ Below wB.heap.size wB w') := Lib.hid (HOF.out.mono fun e w' h => by
      have h2 := h.2
      rw [if_neg HKD.out] at h2
      exact ⟨h2, h.1⟩)
    have HK3 : Hid (askedT (kd :: r) = (3, g0 0)) := Lib.hid (by
      unfold askedT
      rw [if_neg (by rw [HL.out]; exact h5), if_neg (by simpa using HKD.out)])
    clear hkd
    have hnil : ∀ w : World, (binOp .eql 50 (.slice none 0 0) (.slice none 0 0)).run Try.prog w = .ok (.bool true) w := fun w => Lib.run_eql_slice_nil w 50 74 none 0 0 0 0 Try.underlying50
    go_wp2_with (go_at_call 29; (with_reducible refine HOF2.out.mono ?_); rintro e w4 ⟨rfl, hb4⟩; have HB4 := Lib.hid hb4; have HXR5 := Lib.hid (HXR2.out.below hb4); have HBW5 := Lib.hid (bthen HBR.out (bthen HBB.out hb4)); obtain ⟨lR, c0, c1, c2, c3, c4, c5, c6, c7, c8, fr⟩ := HXR5.out.cells9; have z0 := fr 0; have z1 := fr 1; have z2 := fr 2; have z3 := fr 3; have z4 := fr 4; have z5 := fr 5; have z6 := fr 6; have z7 := fr 7; have z8 := fr 8; clear hb4 fr)
    obtain ⟨wf, hwf⟩ : ∃ wf, wf = put9 w4 R (.int .i64 0) (.int .i64 0) (.string ⟨#[]⟩) (.string ⟨#[]⟩) (.int .i64 0) (.int .i64 0) (.int .i64 0) (.int .i64 0) (.slice none 0 0) := ⟨_, rfl⟩
    have hf := HXR5.out.put9 (.int .i64 0) (.int .i64 0) (.string ⟨#[]⟩) (.string ⟨#[]⟩) (.int .i64 0) (.int .i64 0) (.int .i64 0) (.int .i64 0) (.slice none 0 0)
    have hbf : Below w.heap.size w wf := by rw [hwf]; exact below_put9 HBW5.out (by have := HRV.out; omega) _ _ _ _ _ _ _ _ _
    rw [← hwf] at hf
    obtain ⟨-, r0, r1, r2, r3, r4, r5, r6, r7, r8, -⟩ := hf.cells9
    unfold put9 at hwf
    rw [← hwf]
    refine end_ret (v := .tuple #[.agg #[.int .i64 0, .int .i64 0, .string ⟨#[]⟩, .string ⟨#[]⟩, .int .i64 0, .int .i64 0, .int .i64 0, .int .i64 0, .slice none 0 0], .int .i64 3]) (by simp [results, Try.results13, go_sem, r0, r1, r2, r3, r4, r5, r6, r7, r8]) ?_
    exact ret_none hbf HK3.out

end Go.Proofs.Ytelfnlocgknpjaa
