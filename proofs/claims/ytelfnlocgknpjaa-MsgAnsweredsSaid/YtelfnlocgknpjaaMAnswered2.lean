/-
  Answered, whole.
-/
import Derived.Test.YtelfnlocgknpjaaMAnswered
import Derived.Test.YtelfnlocgknpjaaBox7
namespace Go.Proofs.Ytelfnlocgknpjaa
open Go.RowKit
set_option linter.unusedVariables false
set_option linter.unusedSimpArgs false

theorem Bx.cells7 {t : TypeId} {w : World} {B : Nat} {a0 a1 a2 a3 a4 a5 a6 : Value} (h : Bx t w B #[a0, a1, a2, a3, a4, a5, a6]) :
    B < w.heap.size ∧ w.cell? ⟨B, 0, none⟩ = some a0 ∧ w.cell? ⟨B, 1, none⟩ = some a1 ∧ w.cell? ⟨B, 2, none⟩ = some a2 ∧ w.cell? ⟨B, 3, none⟩ = some a3 ∧ w.cell? ⟨B, 4, none⟩ = some a4 ∧ w.cell? ⟨B, 5, none⟩ = some a5 ∧ w.cell? ⟨B, 6, none⟩ = some a6 ∧ ∀ j, w.frozen? ⟨B, j, none⟩ = false :=
  ⟨h.lt, h.cell 0 _ rfl, h.cell 1 _ rfl, h.cell 2 _ rfl, h.cell 3 _ rfl, h.cell 4 _ rfl, h.cell 5 _ rfl, h.cell 6 _ rfl, fun j => h.soft j⟩
def Rp.zero : Rp := ⟨0, 0, 0, 0, 0, [], []⟩
def Rpv.rp (x : Rpv) : Rp := ⟨x.mrk, x.code, x.han, x.kd, x.sz, x.zs, x.ns⟩
def Rp.fault (r : Rp) : Int := faultR r.mrk r.code r.han r.kd r.sz r.zs.length r.ns
def rpOf (vs us : List PC) : Rp := match vs with | [.n a, .n b, .n c, .n d, .n e, .d xs, .n _] => ⟨a, b, c, d, e, xs, nmsOf us⟩ | _ => Rp.zero
/-- what Answered answers -/
def answeredT (zs : List Int) : Int × Rp :=
  match repT zs with
  | none => (5, Rp.zero)
  | some (vs, us, ys) => if 0 < ys.length ∨ (rpOf vs us).fault ≠ 0 then (4, Rp.zero) else (0, rpOf vs us)
theorem answered_some {zs ys : List Int} {vs us : List PC} (h : repT zs = some (vs, us, ys)) : answeredT zs = if 0 < ys.length ∨ (rpOf vs us).fault ≠ 0 then (4, Rp.zero) else (0, rpOf vs us) := by
  unfold answeredT; rw [h]
def RetAnd (w : World) (zs : List Int) (e : Ending) (w' : World) : Prop :=
  Below w.heap.size w w' ∧ ∃ x : Rpv, e = .returned (.tuple #[.agg #[.int .i64 x.mrk, .int .i64 x.code, .int .i64 x.han, .int .i64 x.kd, .int .i64 x.sz, .slice x.D x.m x.d, .slice x.N x.n x.c], .int .i64 (answeredT zs).1]) ∧ x.In w' ∧ x.rp = (answeredT zs).2
theorem ret_noneR {w w' : World} {zs : List Int} {k : Int} (hb : Below w.heap.size w w') (h : answeredT zs = (k, Rp.zero)) : RetAnd w zs (.returned (.tuple #[.agg #[.int .i64 0, .int .i64 0, .int .i64 0, .int .i64 0, .int .i64 0, .slice none 0 0, .slice none 0 0], .int .i64 k])) w' :=
  ⟨hb, ⟨0, 0, 0, 0, 0, none, 0, 0, [], none, 0, 0, []⟩, by rw [h], ⟨⟨Ls.nil _ _, rfl⟩, Ls.nil _ _, rfl⟩, by rw [h]; rfl⟩
theorem ls_off7 {w : World} {D : Option Addr} {zs : List Int} {R : Nat} (h : Ls byS w D zs) (hx : Bx 36 w R #[.int .i64 0, .int .i64 0, .int .i64 0, .int .i64 0, .int .i64 0, .slice none 0 0, .slice none 0 0]) : zs = [] ∨ Clear (fun k => k = R) D := by
  rcases zs with _ | ⟨x, r⟩
  · exact .inl rfl
  · obtain ⟨b, o, rfl, hlt, hcc⟩ := h.at 0 x rfl
    right
    intro a ha e
    injection ha with ha
    subst ha
    have h1 := hcc 0 (.int .u8 x) rfl
    simp only [byS, Nat.add_zero, Nat.mul_one, Nat.mul_zero] at h1
    have e : b = R := e
    subst e
    unfold Bx at hx
    simp only [World.cell?, hx] at h1
    rcases o with _ | _ | _ | _ | _ | _ | _ | o <;> simp at h1
theorem st_off7 {w : World} {D : Option Addr} {l : List Byt} {R : Nat} (h : Ls stS w D l) (hx : Bx 36 w R #[.int .i64 0, .int .i64 0, .int .i64 0, .int .i64 0, .int .i64 0, .slice none 0 0, .slice none 0 0]) : l = [] ∨ Clear (fun k => k = R) D := by
  rcases l with _ | ⟨x, r⟩
  · exact .inl rfl
  · obtain ⟨b, o, rfl, hlt, hcc⟩ := h.at 0 x rfl
    right
    intro a ha e
    injection ha with ha
    subst ha
    have h1 := hcc 0 (.string (tx x)) rfl
    simp only [stS, Nat.add_zero, Nat.mul_one, Nat.mul_zero] at h1
    have e : b = R := e
    subst e
    unfold Bx at hx
    simp only [World.cell?, hx] at h1
    rcases o with _ | _ | _ | _ | _ | _ | _ | o <;> simp at h1
theorem Rpv.In.put {x : Rpv} {w w' : World} {R : Nat} (h : x.In w) (hx : Bx 36 w R #[.int .i64 0, .int .i64 0, .int .i64 0, .int .i64 0, .int .i64 0, .slice none 0 0, .slice none 0 0]) (ho : Only (fun k => k = R) w w') : x.In w' := by
  refine ⟨⟨?_, h.1.2⟩, ?_, h.2.2⟩
  · rcases ls_off7 h.1.1 hx with g | g
    · rw [g]; exact Ls.nil _ _
    · exact h.1.1.only ho g
  · rcases st_off7 h.2.1 hx with g | g
    · rw [g]; exact Ls.nil _ _
    · exact h.2.1.only ho g

set_option maxRecDepth 100000 in
set_option maxHeartbeats 8000000 in
theorem answered_any (A : Option Addr) (n c : Nat) (zs : List Int) (w : World) (hs : Ls byS w A zs) (hl : zs.length = n) (hc : n ≤ c) (hc2 : c ≤ 9223372036854775807) (ho : Oct zs) (hA : ∀ q, A = some q → q.block < w.heap.size) :
    Calls Try.prog 18 #[.slice A n c] w (RetAnd w zs) := by
  obtain ⟨wR, hwR⟩ : ∃ wR, wR = w.alloc (.cells #[.int .i64 0, .int .i64 0, .int .i64 0, .int .i64 0, .int .i64 0, .slice none 0 0, .slice none 0 0] 36) := ⟨_, rfl⟩
  obtain ⟨R, hR⟩ : ∃ R, R = w.heap.size := ⟨_, rfl⟩
  have HBR : Hid (Below w.heap.size w wR) := Lib.hid (by rw [hwR]; exact ba1 _ _)
  have HXR : Hid (Bx 36 wR R #[.int .i64 0, .int .i64 0, .int .i64 0, .int .i64 0, .int .i64 0, .slice none 0 0, .slice none 0 0]) := Lib.hid (by rw [hwR, hR]; exact bx_new _ _ _)
  have HRV : Hid (R = w.heap.size) := Lib.hid hR
  obtain ⟨wB, hwB⟩ : ∃ wB, wB = wR.alloc (.cells #[.int .i64 0, .int .i64 0, .int .i64 0, .int .i64 0, .int .i64 0, .slice none 0 0, .slice none 0 0] 36) := ⟨_, rfl⟩
  obtain ⟨B, hB⟩ : ∃ B, B = wR.heap.size := ⟨_, rfl⟩
  have hB1 : B = w.heap.size + 1 := by rw [hB, hwR, World.size_alloc]
  have HBB : Hid (Below wR.heap.size wR wB) := Lib.hid (by rw [hwB]; exact ba1 _ _)
  have HXB : Hid (Bx 36 wB B #[.int .i64 0, .int .i64 0, .int .i64 0, .int .i64 0, .int .i64 0, .slice none 0 0, .slice none 0 0]) := Lib.hid (by rw [hwB, hB]; exact bx_new _ _ _)
  have HXR2 := Lib.hid (HXR.out.below HBB.out)
  have hRw := HXR.out.lt
  have hRB : ¬ R = B := by omega
  have HBV2 : Hid (wR.heap.size ≤ B) := Lib.hid (by omega)
  have HBV : Hid (w.heap.size ≤ B) := Lib.hid (by have := HBR.out.size; omega)
  have HSB := Lib.hid ((hs.below HBR.out).below HBB.out)
  have HTR := Lib.hid (takeRep_any B A n c zs wB HSB.out hl hc hc2 ho (fun q hq => by have := hA q hq; have := HBV.out; omega) HXB.out)
  clear hs ho hA hRw
  go_enter Try.func18, Try.ntmps18
  go_upto_region 2 with fail
  rw [← hwR, ← hwB, ← hB1, ← hR]
  clear hwR hwB hR hB hB1
  rcases hr : repT zs with _ | ⟨vs, us, ys⟩
  · have HK : Hid (answeredT zs = (5, Rp.zero)) := Lib.hid (by unfold answeredT; rw [hr])
    have HT2 : Hid (Calls Try.prog 41 #[.slice A n c, .pointer (some ⟨B, 0, none⟩)] wB fun e w' => Only (fun k => k = B) wB w' ∧ e = .returned (.tuple #[.slice none 0 0, .bool false])) := Lib.hid (HTR.out.mono fun e w' h => by
      obtain ⟨h1, h2⟩ := h
      rw [hr] at h2
      exact ⟨h1, h2⟩)
    clear hr
    go_wp2_with (go_at_call 41; (with_reducible refine HT2.out.mono ?_); rintro e w3 ⟨hon, rfl⟩; have HON := Lib.hid hon; have HXR4 := Lib.hid (HXR2.out.only hon hRB); obtain ⟨lR, c0, c1, c2, c3, c4, c5, c6, fr⟩ := HXR4.out.cells7; have z0 := fr 0; have z1 := fr 1; have z2 := fr 2; have z3 := fr 3; have z4 := fr 4; have z5 := fr 5; have z6 := fr 6; clear fr; clear hon)
    have HBW : Hid (Below w.heap.size w w3) := Lib.hid (bthen HBR.out (HBB.out.trans (HON.out.below (fun x hx => by have hx : x = B := hx; have := HBV2.out; omega) HBB.out.size)))
    obtain ⟨wf, hwf⟩ : ∃ wf, wf = put7 w3 R (.int .i64 0) (.int .i64 0) (.int .i64 0) (.int .i64 0) (.int .i64 0) (.slice none 0 0) (.slice none 0 0) := ⟨_, rfl⟩
    have hf := HXR4.out.put7 (.int .i64 0) (.int .i64 0) (.int .i64 0) (.int .i64 0) (.int .i64 0) (.slice none 0 0) (.slice none 0 0)
    have hon : Only (fun k => k = R) w3 wf := by rw [hwf]; exact only_put7 w3 R (.int .i64 0) (.int .i64 0) (.int .i64 0) (.int .i64 0) (.int .i64 0) (.slice none 0 0) (.slice none 0 0)
    have hbf : Below w.heap.size w wf := HBW.out.trans (hon.below (fun k hk => by have hk : k = R := hk; have := HRV.out; omega) HBW.out.size)
    rw [← hwf] at hf
    obtain ⟨-, r0, r1, r2, r3, r4, r5, r6, -⟩ := hf.cells7
    unfold put7 at hwf
    rw [← hwf]
    refine end_ret (v := .tuple #[.agg #[.int .i64 0, .int .i64 0, .int .i64 0, .int .i64 0, .int .i64 0, .slice none 0 0, .slice none 0 0], .int .i64 5]) (by simp [results, Try.results18, go_sem, r0, r1, r2, r3, r4, r5, r6]) ?_
    exact ret_noneR hbf HK.out
  · have HT2 : Hid (Calls Try.prog 41 #[.slice A n c, .pointer (some ⟨B, 0, none⟩)] wB fun e w' => Only (fun k => k = B) wB w' ∧ ∃ A n c, ∃ x : Rpv, e = .returned (.tuple #[.slice A n c, .bool true]) ∧ n = ys.length ∧ Bx 36 w' B #[.int .i64 x.mrk, .int .i64 x.code, .int .i64 x.han, .int .i64 x.kd, .int .i64 x.sz, .slice x.D x.m x.d, .slice x.N x.n x.c] ∧ x.In w' ∧ x.n ≤ 1000 ∧ x.rp = rpOf vs us) := Lib.hid (HTR.out.mono fun e w' h => by
      obtain ⟨h1, h2⟩ := h
      rw [hr] at h2
      obtain ⟨A2, n2, c2, a, b, c1, d, e1, xs, f, D, m, dd, Q, rfl, g1, rfl, g3, g4, g5, g6, g7⟩ := h2
      exact ⟨h1, A2, n2, c2, ⟨a, b, c1, d, e1, D, m, dd, xs, some ⟨Q, 0, none⟩, f.toNat, f.toNat, nmsOf us⟩, rfl, g1, g4, ⟨g5, g6, by unfold nmsOf; rw [List.length_map]; exact g7⟩, by show f.toNat ≤ 1000; omega, rfl⟩)
    have HAS := Lib.hid (answered_some hr)
    clear hr
    go_upto_region 5 with (go_at_call 41; (with_reducible refine HT2.out.mono ?_); rintro e w3 ⟨hon, A3, n3, c3, x, rfl, h1, h2, h3, h4, h5⟩; have HON := Lib.hid hon; have H1 := Lib.hid h1; have H2 := Lib.hid h2; have H3 := Lib.hid h3; have H5 := Lib.hid h5; clear hon h1 h2 h3 h5)
    have HXR4 := Lib.hid (HXR2.out.only HON.out hRB)
    have HBW : Hid (Below w.heap.size w w3) := Lib.hid (bthen HBR.out (HBB.out.trans (HON.out.below (fun x hx => by have hx : x = B := hx; have := HBV2.out; omega) HBB.out.size)))
    by_cases hn3 : 0 < n3
    · have g1 : decide ((0 : Int) < (n3 : Int)) = true := by simp; omega
      have HK4 : Hid (answeredT zs = (4, Rp.zero)) := Lib.hid (by rw [HAS.out]; exact if_pos (.inl (by rw [← H1.out]; exact hn3)))
      obtain ⟨lR, c0, c1, c2, c3, c4, c5, c6, fr⟩ := HXR4.out.cells7
      have z0 := fr 0
      have z1 := fr 1
      have z2 := fr 2
      have z3 := fr 3
      have z4 := fr 4
      have z5 := fr 5
      have z6 := fr 6
      clear fr
      go_wp2_with fail
      obtain ⟨wf, hwf⟩ : ∃ wf, wf = put7 w3 R (.int .i64 0) (.int .i64 0) (.int .i64 0) (.int .i64 0) (.int .i64 0) (.slice none 0 0) (.slice none 0 0) := ⟨_, rfl⟩
      have hf := HXR4.out.put7 (.int .i64 0) (.int .i64 0) (.int .i64 0) (.int .i64 0) (.int .i64 0) (.slice none 0 0) (.slice none 0 0)
      have hon : Only (fun k => k = R) w3 wf := by rw [hwf]; exact only_put7 w3 R (.int .i64 0) (.int .i64 0) (.int .i64 0) (.int .i64 0) (.int .i64 0) (.slice none 0 0) (.slice none 0 0)
      have hbf : Below w.heap.size w wf := HBW.out.trans (hon.below (fun k hk => by have hk : k = R := hk; have := HRV.out; omega) HBW.out.size)
      rw [← hwf] at hf
      obtain ⟨-, r0, r1, r2, r3, r4, r5, r6, -⟩ := hf.cells7
      unfold put7 at hwf
      rw [← hwf]
      refine end_ret (v := .tuple #[.agg #[.int .i64 0, .int .i64 0, .int .i64 0, .int .i64 0, .int .i64 0, .slice none 0 0, .slice none 0 0], .int .i64 4]) (by simp [results, Try.results18, go_sem, r0, r1, r2, r3, r4, r5, r6]) ?_
      exact ret_noneR hbf HK4.out
    · have g1 : decide ((0 : Int) < (n3 : Int)) = false := by simp; omega
      have hn0 : n3 = 0 := by omega
      have HYL : Hid (¬ 0 < ys.length) := Lib.hid (by rw [← H1.out]; omega)
      have HFT := Lib.hid (repFault_any x w3 H3.out (by omega))
      have HFC : Hid (x.fault = (rpOf vs us).fault) := Lib.hid (by rw [← H5.out]; unfold Rpv.fault Rp.fault Rpv.rp; rw [H3.out.1.2])
      obtain ⟨v, hv⟩ : ∃ v, v = x.fault := ⟨_, rfl⟩
      rw [← hv] at HFT HFC
      have HV := Lib.hid hv
      clear hv
      obtain ⟨lx, q0, q1, q2, q3, q4, q5, q6, -⟩ := H2.out.cells7
      by_cases hv0 : v = 0
      · have HK0 : Hid (answeredT zs = (0, rpOf vs us)) := Lib.hid (by
          rw [HAS.out]
          exact if_neg (by rintro (h | h); exact HYL.out h; exact h (by rw [← HFC.out]; exact hv0)))
        subst hv0
        go_wp2_with (go_at_call 37; (with_reducible refine HFT.out.mono ?_); rintro e w4 ⟨rfl, hb4⟩; have HB4 := Lib.hid hb4; have HXR5 := Lib.hid (HXR4.out.below hb4); have HBW5 := Lib.hid (bthen HBW.out hb4); obtain ⟨lR, c0, c1, c2, c3, c4, c5, c6, fr⟩ := HXR5.out.cells7; have z0 := fr 0; have z1 := fr 1; have z2 := fr 2; have z3 := fr 3; have z4 := fr 4; have z5 := fr 5; have z6 := fr 6; clear fr; obtain ⟨lx, q0, q1, q2, q3, q4, q5, q6, -⟩ := (H2.out.below hb4).cells7; clear hb4)
        obtain ⟨wf, hwf⟩ : ∃ wf, wf = put7 w4 R (.int .i64 x.mrk) (.int .i64 x.code) (.int .i64 x.han) (.int .i64 x.kd) (.int .i64 x.sz) (.slice x.D x.m x.d) (.slice x.N x.n x.c) := ⟨_, rfl⟩
        have hf := HXR5.out.put7 (.int .i64 x.mrk) (.int .i64 x.code) (.int .i64 x.han) (.int .i64 x.kd) (.int .i64 x.sz) (.slice x.D x.m x.d) (.slice x.N x.n x.c)
        have hon : Only (fun k => k = R) w4 wf := by rw [hwf]; exact only_put7 w4 R (.int .i64 x.mrk) (.int .i64 x.code) (.int .i64 x.han) (.int .i64 x.kd) (.int .i64 x.sz) (.slice x.D x.m x.d) (.slice x.N x.n x.c)
        have hbf : Below w.heap.size w wf := HBW5.out.trans (hon.below (fun k hk => by have hk : k = R := hk; have := HRV.out; omega) HBW5.out.size)
        rw [← hwf] at hf
        obtain ⟨-, r0, r1, r2, r3, r4, r5, r6, -⟩ := hf.cells7
        unfold put7 at hwf
        rw [← hwf]
        refine end_ret (v := .tuple #[.agg #[.int .i64 x.mrk, .int .i64 x.code, .int .i64 x.han, .int .i64 x.kd, .int .i64 x.sz, .slice x.D x.m x.d, .slice x.N x.n x.c], .int .i64 0]) (by simp [results, Try.results18, go_sem, r0, r1, r2, r3, r4, r5, r6]) ?_
        exact ⟨hbf, x, by rw [HK0.out], (H3.out.below HB4.out).put HXR5.out hon, by rw [HK0.out]; exact H5.out⟩
      · have HK4 : Hid (answeredT zs = (4, Rp.zero)) := Lib.hid (by
          rw [HAS.out]
          exact if_pos (.inr (by rw [← HFC.out]; exact hv0)))
        have hv1 : (v == 0) = false := by simpa using hv0
        have hv2 : (v != 0) = true := by simpa using hv0
        go_wp2_with (go_at_call 37; (with_reducible refine HFT.out.mono ?_); rintro e w4 ⟨rfl, hb4⟩; have HB4 := Lib.hid hb4; have HXR5 := Lib.hid (HXR4.out.below hb4); have HBW5 := Lib.hid (bthen HBW.out hb4); obtain ⟨lR, c0, c1, c2, c3, c4, c5, c6, fr⟩ := HXR5.out.cells7; have z0 := fr 0; have z1 := fr 1; have z2 := fr 2; have z3 := fr 3; have z4 := fr 4; have z5 := fr 5; have z6 := fr 6; clear fr; clear hb4)
        obtain ⟨wf, hwf⟩ : ∃ wf, wf = put7 w4 R (.int .i64 0) (.int .i64 0) (.int .i64 0) (.int .i64 0) (.int .i64 0) (.slice none 0 0) (.slice none 0 0) := ⟨_, rfl⟩
        have hf := HXR5.out.put7 (.int .i64 0) (.int .i64 0) (.int .i64 0) (.int .i64 0) (.int .i64 0) (.slice none 0 0) (.slice none 0 0)
        have hon : Only (fun k => k = R) w4 wf := by rw [hwf]; exact only_put7 w4 R (.int .i64 0) (.int .i64 0) (.int .i64 0) (.int .i64 0) (.int .i64 0) (.slice none 0 0) (.slice none 0 0)
        have hbf : Below w.heap.size w wf := HBW5.out.trans (hon.below (fun k hk => by have hk : k = R := hk; have := HRV.out; omega) HBW5.out.size)
        rw [← hwf] at hf
        obtain ⟨-, r0, r1, r2, r3, r4, r5, r6, -⟩ := hf.cells7
        unfold put7 at hwf
        rw [← hwf]
        refine end_ret (v := .tuple #[.agg #[.int .i64 0, .int .i64 0, .int .i64 0, .int .i64 0, .int .i64 0, .slice none 0 0, .slice none 0 0], .int .i64 4]) (by simp [results, Try.results18, go_sem, r0, r1, r2, r3, r4, r5, r6]) ?_
        exact ret_noneR hbf HK4.out

end Go.Proofs.Ytelfnlocgknpjaa
