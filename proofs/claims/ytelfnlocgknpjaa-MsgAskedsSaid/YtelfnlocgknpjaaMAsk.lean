/-
  Ask.
-/
import Derived.Test.YtelfnlocgknpjaaMFault
import Derived.Test.YtelfnlocgknpjaaMLay
namespace Go.Proofs.Ytelfnlocgknpjaa
open Go.RowKit
set_option linter.unusedVariables false
set_option linter.unusedSimpArgs false

/-- the bytes of one part, by what stands there -/
def layP (p : Pt) (v : PV) : List Int :=
  match p with
  | .num _ k => (match v with | .n v => be k v | _ => [])
  | .txt _ => (match v with | .t s => enc (ofT s) | _ => [])
  | .dat _ => (match v with | .d _ _ _ zs => enc zs | _ => [])
def askT (f : Nat → PV) (kd : Int) : List Int := ((partsOf 0 kd).map fun p => layP p (f p.adr.off)).flatten
theorem parts_lay (B : Nat) (kd : Int) (f : Nat → PV) : (partsOf B kd).map (fun p => layP p (f p.adr.off)) = (partsOf 0 kd).map fun p => layP p (f p.adr.off) := by
  unfold partsOf namedBy
  repeat' split
  all_goals rfl
theorem parts_len (B : Nat) (kd : Int) : (partsOf B kd).length ≤ 8 := by
  unfold partsOf namedBy
  repeat' split
  all_goals simp
theorem flat_le (ls : List (List Int)) (m : Nat) (h : ∀ x ∈ ls, x.length ≤ m) : ls.flatten.length ≤ ls.length * m := by
  induction ls with
  | nil => simp
  | cons x r ih =>
    have h1 := h x (by simp)
    have h2 := ih fun y hy => h y (by simp [hy])
    simp only [List.flatten_cons, List.length_append, List.length_cons, Nat.add_mul, Nat.one_mul]
    omega
/-- nothing against any part -/
theorem chk_zero {es : List Int} (h : chkT es = 0) (hv : ∀ e ∈ es, e = 0 ∨ e = 1 ∨ e = 2) : ∀ e ∈ es, e = 0 := fun e he => by
  unfold chkT at h
  by_cases h2 : es.any (· == 2) = true
  · rw [if_pos h2] at h; omega
  · rw [if_neg h2] at h
    by_cases h1 : es.any (· == 1) = true
    · rw [if_pos h1] at h; omega
    · rcases hv e he with g | g | g
      · exact g
      · exact absurd (List.any_eq_true.2 ⟨e, he, by simp [g]⟩) h1
      · exact absurd (List.any_eq_true.2 ⟨e, he, by simp [g]⟩) h2
theorem ck_vals (p : Pt) (v : PV) : ckOf p v = 0 ∨ ckOf p v = 1 ∨ ckOf p v = 2 := by
  rcases p with ⟨a, k⟩ | a | a <;> rcases v with v | s | ⟨D, m, d, zs⟩ <;> simp only [ckOf] <;> try (exact Or.inl trivial) <;> split <;> simp
  all_goals (split <;> simp)
theorem fault_zero {f : Nat → PV} {kd : Int} (h : faultT f kd = 0) : (1 ≤ kd ∧ kd ≤ 10) ∧ ∀ (B : Nat), ∀ p ∈ partsOf B kd, ckOf p (f p.adr.off) = 0 := by
  unfold faultT at h
  by_cases hk : 1 ≤ kd ∧ kd ≤ 10
  · rw [if_pos hk] at h
    refine ⟨hk, fun B p hp => ?_⟩
    by_cases hm : moreB f kd = true
    · rw [if_pos hm] at h; omega
    · rw [if_neg hm] at h
      rw [← parts_ck B] at h
      exact chk_zero h (fun e he => by obtain ⟨q, -, rfl⟩ := List.mem_map.1 he; exact ck_vals _ _) _ (List.mem_map.2 ⟨p, hp, rfl⟩)
  · rw [if_neg hk] at h; omega
theorem lay_at {B : Nat} {kd : Int} {f : Nat → PV} {w : World} {T : Nat → Prop} (hx : Bx 24 w B (rqC f)) (ht : Typed f) (hok : (f 8).ok T w) (hf : faultT f kd = 0) (n c : Nat) :
    ∀ p ∈ partsOf B kd, PtAt w (.slice none n c) (layP p (f p.adr.off)) p ∧ (layP p (f p.adr.off)).length ≤ 202 := fun p hp => by
  obtain ⟨j, hj⟩ := List.getElem?_of_mem hp
  obtain ⟨o, h1, h2, h3⟩ := (good_parts B kd).loc j p hj
  have hc := hx.cell o _ (rqC_at f o h1)
  have hl := hx.lt
  have hwd := parts_wide B kd p hp
  have hz := (fault_zero hf).2 B p hp
  rcases p with ⟨a, k⟩ | a | a
  · obtain ⟨v, hv⟩ := ht.num o h3
    have h2' : a = ⟨B, o, none⟩ := h2
    subst h2'
    have hz' : (match f o with | .n v => if v < 0 ∨ 256 ^ k ≤ v then (2 : Int) else 0 | _ => 0) = 0 := hz
    show PtAt w _ (match f o with | .n v => be k v | _ => []) _ ∧ (match f o with | .n v => be k v | _ => []).length ≤ 202
    rw [hv] at hc hz'
    rw [hv]
    have hk := hwd _ k rfl
    have hr : 0 ≤ v ∧ v < 256 ^ k := by
      by_cases g : v < 0 ∨ 256 ^ k ≤ v
      · simp only [if_pos g] at hz'; omega
      · omega
    have hr2 : (256 : Int) ^ k ≤ 4294967296 := by rcases hk with rfl | rfl | rfl <;> decide
    exact ⟨⟨v, by omega, by omega, hl, Fre.nil _ _ _, hc, rfl⟩, by show (be k v).length ≤ 202; rw [be_len]; omega⟩
  · obtain ⟨s, hs⟩ := ht.txt o h3
    have h2' : a = ⟨B, o, none⟩ := h2
    subst h2'
    have hz' : (match f o with | .t s => if 200 < s.length then (1 : Int) else 0 | _ => 0) = 0 := hz
    show PtAt w _ (match f o with | .t s => enc (ofT s) | _ => []) _ ∧ (match f o with | .t s => enc (ofT s) | _ => []).length ≤ 202
    rw [hs] at hc hz'
    rw [hs]
    have hr : s.length ≤ 200 := by
      by_cases g : 200 < s.length
      · simp only [if_pos g] at hz'; omega
      · omega
    exact ⟨⟨s, by omega, hl, Fre.nil _ _ _, hc, rfl⟩, by show (enc (ofT s)).length ≤ 202; unfold enc; rw [List.length_append, be_len, ofT_len]; omega⟩
  · obtain ⟨D, m, d, zs, hd⟩ := ht.dat
    have h2' : a = ⟨B, o, none⟩ := h2
    have h3' : o = 8 := h3
    subst h2'; subst h3'
    have hz' : (match f 8 with | .d _ m _ _ => if 100 < m then (1 : Int) else 0 | _ => 0) = 0 := hz
    show PtAt w _ (match f 8 with | .d _ _ _ zs => enc zs | _ => []) _ ∧ (match f 8 with | .d _ _ _ zs => enc zs | _ => []).length ≤ 202
    rw [hd] at hc hz' hok
    rw [hd]
    have hr : m ≤ 100 := by
      by_cases g : 100 < m
      · simp only [if_pos g] at hz'; omega
      · omega
    exact ⟨⟨D, m, d, zs, by omega, hl, Fre.nil _ _ _, hc, hok.1, hok.2.1, .inr (Fre.nil _ _ _), rfl⟩, by show (enc zs).length ≤ 202; unfold enc; rw [List.length_append, be_len, hok.2.1]; omega⟩

/-- what Ask answers -/
def RetAsk (w : World) (f : Nat → PV) (kd : Int) (e : Ending) (w' : World) : Prop :=
  Below w.heap.size w w' ∧
  if faultT f kd = 0 then ∃ A n c, e = .returned (.tuple #[.slice A n c, .int .i64 0]) ∧ OwnL byS 5 w' w.heap.size A n c (askT f kd)
  else e = .returned (.tuple #[.slice none 0 0, .int .i64 (faultT f kd)])
theorem okMore {w w' : World} {v : PV} (h : v.ok (fun k => w.heap.size ≤ k) w) (hb : Below w.heap.size w w') : v.ok (fun k => w'.heap.size ≤ k) w' := by
  rcases v with v | s | ⟨D, m, d, zs⟩
  · trivial
  · trivial
  · exact ⟨h.1.below hb, h.2.1, h.2.2.imp id fun hc a ha e => hc a ha (by have := hb.size; omega)⟩

theorem lay_call {B : Nat} {kd : Int} {f : Nat → PV} {T : Nat → Prop} (P : Option Addr) (k d : Nat) (w : World) (hx : Bx 24 w B (rqC f)) (ht : Typed f) (hok : (f 8).ok T w) (hf : faultT f kd = 0) (hk : (partsOf B kd).length = k) (hp : Ls ptS w P (partsOf B kd)) :
    Calls Try.prog 28 #[.slice none 0 0, .slice P k d] w fun e w' => ∃ A N c, e = .returned (.slice A N c) ∧ OwnL byS 5 w' w.heap.size A N c (askT f kd) ∧ Below w.heap.size w w' := by
  have hat := lay_at hx ht hok hf 0 0
  have h8 := parts_len B kd
  have hfst : (((partsOf B kd).map fun p => (p, layP p (f p.adr.off))).map Prod.fst) = partsOf B kd := by
    rw [List.map_map]; show (partsOf B kd).map id = _; rw [List.map_id]
  have hsnd : (((partsOf B kd).map fun p => (p, layP p (f p.adr.off))).map Prod.snd) = (partsOf 0 kd).map fun p => layP p (f p.adr.off) := by
    rw [List.map_map, ← parts_lay B]; rfl
  refine (lay_any P k d ((partsOf B kd).map fun p => (p, layP p (f p.adr.off))) w.heap.size none 0 0 [] w (by rw [hfst]; exact hp) (by rw [List.length_map]; exact hk) (by omega) (.inr (Fre.nil _ _ _)) (fun q hq => ?_) (OwnL.nil _ _) (Nat.le_refl _) ?_).mono ?_
  · obtain ⟨p, hp2, rfl⟩ := List.mem_map.1 hq
    exact (hat p hp2).1
  · rw [List.nil_append]
    have := flat_le (((partsOf B kd).map fun p => (p, layP p (f p.adr.off))).map Prod.snd) 202 (fun x hx2 => by
      obtain ⟨q, hq, rfl⟩ := List.mem_map.1 hx2
      obtain ⟨p, hp2, rfl⟩ := List.mem_map.1 hq
      exact (hat p hp2).2)
    rw [List.length_map, List.length_map] at this
    omega
  · rintro e w' ⟨A, N, c, rfl, ho, hb, -⟩
    rw [List.nil_append, hsnd] at ho
    exact ⟨A, N, c, rfl, ho, hb⟩

set_option maxRecDepth 100000 in
set_option maxHeartbeats 8000000 in
theorem ask_any (f : Nat → PV) (kd : Int) (w : World) (h0 : f 0 = .n kd) (ht : Typed f) (hok : (f 8).ok (fun k => w.heap.size ≤ k) w) :
    Calls Try.prog 10 #[.agg (rqC f)] w (RetAsk w f kd) := by
  obtain ⟨w1, hw1⟩ : ∃ w1, w1 = w.alloc (.cells #[(f 0).cell, (f 1).cell, (f 2).cell, (f 3).cell, (f 4).cell, (f 5).cell, (f 6).cell, (f 7).cell, (f 8).cell] 24) := ⟨_, rfl⟩
  obtain ⟨B, hB⟩ : ∃ B, B = w.heap.size := ⟨_, rfl⟩
  have HB1 : Hid (Below w.heap.size w w1) := Lib.hid (by rw [hw1]; exact ba1 _ _)
  have HX : Hid (Bx 24 w1 B (rqC f)) := Lib.hid (by rw [hw1, hB]; exact bx_new _ _ _)
  have HBV := Lib.hid hB
  have hlb := HX.out.lt
  have hok1 := okMore hok HB1.out
  have HFT : Hid (Calls Try.prog 27 #[.agg #[(f 0).cell, (f 1).cell, (f 2).cell, (f 3).cell, (f 4).cell, (f 5).cell, (f 6).cell, (f 7).cell, (f 8).cell]] w1 fun e w' => e = .returned (.int .i64 (faultT f kd)) ∧ Below w1.heap.size w1 w') := Lib.hid (fault_any f kd w1 h0 ht hok1)
  have HTY := Lib.hid ht
  have HOK := Lib.hid hok1
  have H0 := Lib.hid h0
  have c0 := HX.out.cell 0 _ (rqC_at f 0 (by omega))
  have c1 := HX.out.cell 1 _ (rqC_at f 1 (by omega))
  have c2 := HX.out.cell 2 _ (rqC_at f 2 (by omega))
  have c3 := HX.out.cell 3 _ (rqC_at f 3 (by omega))
  have c4 := HX.out.cell 4 _ (rqC_at f 4 (by omega))
  have c5 := HX.out.cell 5 _ (rqC_at f 5 (by omega))
  have c6 := HX.out.cell 6 _ (rqC_at f 6 (by omega))
  have c7 := HX.out.cell 7 _ (rqC_at f 7 (by omega))
  have c8 := HX.out.cell 8 _ (rqC_at f 8 (by omega))
  clear hok hok1 ht hB h0
  show Calls Try.prog 10 #[.agg #[(f 0).cell, (f 1).cell, (f 2).cell, (f 3).cell, (f 4).cell, (f 5).cell, (f 6).cell, (f 7).cell, (f 8).cell]] w _
  go_enter Try.func10, Try.ntmps10
  go_upto_region 1 with fail
  rw [← hw1, ← HBV.out]
  clear hw1
  by_cases hz : faultT f kd = 0
  · have HZ := Lib.hid hz
    have HKD := Lib.hid (fault_zero hz).1
    rw [hz] at HFT
    clear hz
    go_upto_region 4 with (go_at_call 27; (with_reducible refine HFT.out.mono ?_); rintro e w2 ⟨rfl, hb2⟩; have HB2 := Lib.hid hb2; clear hb2)
    have hx2 := HX.out.below HB2.out
    have HOF : Hid (Calls Try.prog 29 #[.pointer (some ⟨B, 0, none⟩)] w2 fun e w' => Below w2.heap.size w2 w' ∧ ∃ P k d, e = .returned (.slice P k d) ∧ k = (partsOf B kd).length ∧ OwnL ptS 74 w' w2.heap.size P k d (partsOf B kd)) := Lib.hid ((ofReq_any B kd w2 hx2.lt (by
        have := hx2.cell 0 _ (rqC_at f 0 (by omega))
        rw [H0.out] at this; exact this)).mono fun e w' h => ⟨h.1, by
      have h2 := h.2
      rw [if_pos HKD.out] at h2
      exact h2⟩)
    have HX2 := Lib.hid hx2
    clear hx2
    go_wp2_with (first
      | (go_at_call 29; (with_reducible refine HOF.out.mono ?_); rintro e w3 ⟨hb3, P, k, d, rfl, hk, ho3⟩; have HB3 := Lib.hid hb3; have HK := Lib.hid hk.symm; have HO3 := Lib.hid ho3; clear hb3 hk ho3; have HLY := Lib.hid (lay_call (B := B) (kd := kd) (f := f) P k d w3 (HX2.out.below HB3.out) HTY.out (okMore HOK.out (bthen HB2.out HB3.out)) HZ.out HK.out HO3.out.ls))
      | (go_at_call 28; (with_reducible refine HLY.out.mono ?_); rintro e w4 ⟨A, N, c, rfl, ho4, hb4⟩; have HO4 := Lib.hid ho4; have HB4 := Lib.hid hb4; clear ho4 hb4))
    refine ⟨rfl, .tuple #[.slice A N c, .int .i64 0], ?_, bthen HB1.out (bthen HB2.out (bthen HB3.out HB4.out)), ?_⟩
    · simp [results, Try.results10, go_sem]; try rfl
    · rw [if_pos HZ.out]
      exact ⟨A, N, c, rfl, HO4.out.base (by have h1 := HB1.out.size; have h2 := HB2.out.size; have h3 := HB3.out.size; omega)⟩
  · have HZ := Lib.hid hz
    obtain ⟨v, hv⟩ : ∃ v, v = faultT f kd := ⟨_, rfl⟩
    rw [← hv] at HFT HZ
    have HV := Lib.hid hv
    have hv0 : v ≠ 0 := by rw [hv]; exact hz
    clear hz hv
    go_wp2_with (go_at_call 27; (with_reducible refine HFT.out.mono ?_); rintro e w2 ⟨rfl, hb2⟩; have HB2 := Lib.hid hb2; clear hb2)
    refine ⟨rfl, .tuple #[.slice none 0 0, .int .i64 v], ?_, bthen HB1.out HB2.out, ?_⟩
    · simp [results, Try.results10, go_sem]; try rfl
    · rw [if_neg (by rw [← HV.out]; exact HZ.out), ← HV.out]

end Go.Proofs.Ytelfnlocgknpjaa
