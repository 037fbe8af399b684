/-
  What there is against a request.
-/
import Derived.Test.YtelfnlocgknpjaaMMore
namespace Go.Proofs.Ytelfnlocgknpjaa
open Go.RowKit
set_option linter.unusedVariables false
set_option linter.unusedSimpArgs false

/-- what there is against one part, by what stands there -/
def ckOf (p : Pt) (v : PV) : Int :=
  match p with
  | .num _ k => (match v with | .n v => if v < 0 ∨ 256 ^ k ≤ v then 2 else 0 | _ => 0)
  | .txt _ => (match v with | .t s => if 200 < s.length then 1 else 0 | _ => 0)
  | .dat _ => (match v with | .d _ m _ _ => if 100 < m then 1 else 0 | _ => 0)
def faultT (f : Nat → PV) (kd : Int) : Int :=
  if 1 ≤ kd ∧ kd ≤ 10 then (if moreB f kd then 4 else chkT ((partsOf 0 kd).map fun p => ckOf p (f p.adr.off))) else 3
theorem parts_ck (B : Nat) (kd : Int) (f : Nat → PV) : (partsOf B kd).map (fun p => ckOf p (f p.adr.off)) = (partsOf 0 kd).map fun p => ckOf p (f p.adr.off) := by
  unfold partsOf namedBy
  repeat' split
  all_goals rfl
theorem parts_wide (B : Nat) (kd : Int) : ∀ p ∈ partsOf B kd, ∀ a k, p = .num a k → k = 1 ∨ k = 2 ∨ k = 4 := by
  unfold partsOf namedBy
  repeat' split
  all_goals
    intro p hp a k he
    subst he
    simp at hp
    omega
theorem ck_at {B : Nat} {kd : Int} {f : Nat → PV} {w : World} (hx : Bx 24 w B (rqC f)) (ht : Typed f) : CkL w ((partsOf B kd).map fun p => (p, ckOf p (f p.adr.off))) := fun q hq => by
  obtain ⟨p, hp, rfl⟩ := List.mem_map.1 hq
  obtain ⟨j, hj⟩ := List.getElem?_of_mem hp
  obtain ⟨o, h1, h2, h3⟩ := (good_parts B kd).loc j p hj
  have hc := hx.cell o _ (rqC_at f o h1)
  have hl := hx.lt
  have hwd := parts_wide B kd p hp
  rcases p with ⟨a, k⟩ | a | a
  · obtain ⟨v, hv⟩ := ht.num o h3
    have h2' : a = ⟨B, o, none⟩ := h2
    subst h2'
    rw [hv] at hc
    refine ⟨v, hwd _ k rfl, hl, hc, ?_⟩
    show (match f o with | .n v => if v < 0 ∨ 256 ^ k ≤ v then (2 : Int) else 0 | _ => 0) = _
    rw [hv]
  · obtain ⟨s, hs⟩ := ht.txt o h3
    have h2' : a = ⟨B, o, none⟩ := h2
    subst h2'
    rw [hs] at hc
    refine ⟨s, hl, hc, ?_⟩
    show (match f o with | .t s => if 200 < s.length then (1 : Int) else 0 | _ => 0) = _
    rw [hs]
  · obtain ⟨D, m, d, zs, hd⟩ := ht.dat
    have h2' : a = ⟨B, o, none⟩ := h2
    have h3' : o = 8 := h3
    subst h2'; subst h3'
    rw [hd] at hc
    refine ⟨D, m, d, hl, hc, ?_⟩
    show (match f 8 with | .d _ m _ _ => if 100 < m then (1 : Int) else 0 | _ => 0) = _
    rw [hd]

theorem ls_of_none {α : Type} {F : Shape α} {w : World} {l : List α} (h : Ls F w none l) : l = [] := by
  rcases l with _ | ⟨x, r⟩
  · rfl
  · obtain ⟨b, o, h, -, -⟩ := h.at 0 x rfl; cases h
/-- what lies below a world's end lies in no block that comes -/
theorem okLess {w w' : World} {v : PV} (h : v.ok (fun k => w.heap.size ≤ k) w) (hb : Below w.heap.size w w') : v.ok (fun k => k = w'.heap.size) w' := by
  rcases v with v | s | ⟨D, m, d, zs⟩
  · trivial
  · trivial
  · exact ⟨h.1.below hb, h.2.1, h.2.2.imp id fun hc a ha e => hc a ha (by have := hb.size; omega)⟩

set_option maxRecDepth 100000 in
set_option maxHeartbeats 8000000 in
theorem fault_any (f : Nat → PV) (kd : Int) (w : World) (h0 : f 0 = .n kd) (ht : Typed f) (hok : (f 8).ok (fun k => w.heap.size ≤ k) w) :
    Calls Try.prog 27 #[.agg (rqC f)] w fun e w' => e = .returned (.int .i64 (faultT f kd)) ∧ Below w.heap.size w w' := by
  obtain ⟨w1, hw1⟩ : ∃ w1, w1 = w.alloc (.cells #[(f 0).cell, (f 1).cell, (f 2).cell, (f 3).cell, (f 4).cell, (f 5).cell, (f 6).cell, (f 7).cell, (f 8).cell] 24) := ⟨_, rfl⟩
  obtain ⟨B, hB⟩ : ∃ B, B = w.heap.size := ⟨_, rfl⟩
  have HB1 : Hid (Below w.heap.size w w1) := Lib.hid (by rw [hw1]; exact ba1 _ _)
  have HX : Hid (Bx 24 w1 B (rqC f)) := Lib.hid (by rw [hw1, hB]; exact bx_new _ _ _)
  have HBV := Lib.hid hB
  have hlb := HX.out.lt
  have hc0 : w1.cell? ⟨B, 0, none⟩ = some (.int .i64 kd) := by
    have := HX.out.cell 0 _ (rqC_at f 0 (by omega))
    rw [h0] at this; exact this
  have HOF := Lib.hid (ofReq_any B kd w1 hlb hc0)
  have HTY := Lib.hid ht
  have HOK := Lib.hid hok
  have H0 := Lib.hid h0
  clear hok ht hc0 hlb hB h0
  show Calls Try.prog 27 #[.agg #[(f 0).cell, (f 1).cell, (f 2).cell, (f 3).cell, (f 4).cell, (f 5).cell, (f 6).cell, (f 7).cell, (f 8).cell]] w _
  go_enter Try.func27, Try.ntmps27
  go_upto_region 1 with fail
  rw [← hw1, ← HBV.out]
  clear hw1
  by_cases hkd : 1 ≤ kd ∧ kd ≤ 10
  · have HKD := Lib.hid hkd
    have HOF2 : Hid (Calls Try.prog 29 #[.pointer (some ⟨B, 0, none⟩)] w1 fun e w' => Below w1.heap.size w1 w' ∧ ∃ a k d, e = .returned (.slice (some a) k d) ∧ k = (partsOf B kd).length ∧ OwnL ptS 74 w' w1.heap.size (some a) k d (partsOf B kd)) := Lib.hid (HOF.out.mono fun e w' h => ⟨h.1, by
      have h2 := h.2
      rw [if_pos HKD.out] at h2
      obtain ⟨P, k, d, q1, q2, q3⟩ := h2
      rcases P with _ | a
      · exfalso
        have := ls_of_none q3.ls
        have h3 := q3.1
        rw [this] at h3 q2
        unfold partsOf at this
        cases this
      · exact ⟨a, k, d, q1, q2, q3⟩⟩)
    clear hkd
    go_upto_region 2 with (go_at_call 29; refine HOF2.out.mono ?_; rintro e w2 ⟨hb2, a, k, d, rfl, hk, ho2⟩; have HB2 := Lib.hid hb2; have HK := Lib.hid hk.symm; have HO2 := Lib.hid ho2; clear hb2 hk ho2)
    have hnil : ∀ w : World, (binOp .eql 50 (.slice (some a) k d) (.slice none 0 0)).run Try.prog w = .ok (.bool false) w := fun w => Lib.run_eql_slice_nil w 50 74 (some a) k d 0 0 Try.underlying50
    have hx2 := HX.out.below HB2.out
    have c0 := hx2.cell 0 _ (rqC_at f 0 (by omega))
    have c1 := hx2.cell 1 _ (rqC_at f 1 (by omega))
    have c2 := hx2.cell 2 _ (rqC_at f 2 (by omega))
    have c3 := hx2.cell 3 _ (rqC_at f 3 (by omega))
    have c4 := hx2.cell 4 _ (rqC_at f 4 (by omega))
    have c5 := hx2.cell 5 _ (rqC_at f 5 (by omega))
    have c6 := hx2.cell 6 _ (rqC_at f 6 (by omega))
    have c7 := hx2.cell 7 _ (rqC_at f 7 (by omega))
    have c8 := hx2.cell 8 _ (rqC_at f 8 (by omega))
    have hl2 := hx2.lt
    have HX2 := Lib.hid hx2
    have HM := Lib.hid (hasMore_any f kd w2 H0.out HKD.out HTY.out (okLess HOK.out (HB1.out.trans (HB2.out.mono HB1.out.size))))
    have hk8 : k ≤ 8 := by
      have h1 : (partsOf B kd).length ≤ 8 := by
        unfold partsOf namedBy
        repeat' split
        all_goals simp
      have := HK.out; omega
    clear hx2
    have HM2 : Hid (Calls Try.prog 45 #[.agg #[(f 0).cell, (f 1).cell, (f 2).cell, (f 3).cell, (f 4).cell, (f 5).cell, (f 6).cell, (f 7).cell, (f 8).cell]] w2 fun e w' => e = .returned (.bool (moreB f kd)) ∧ Below w2.heap.size w2 w') := Lib.hid HM
    rcases hmb : moreB f kd with _ | _
    · have HMB := Lib.hid hmb
      rw [hmb] at HM2
      clear hmb HM
      go_upto_region 6 with (go_at_call 45; (with_reducible refine HM2.out.mono ?_); rintro e w3 ⟨rfl, hb3⟩; have HB3 := Lib.hid hb3; clear hb3)
      have HCK := Lib.hid (check_parts (some a) k d ((partsOf B kd).map fun p => (p, ckOf p (f p.adr.off))) w3 (by rw [List.map_map]; show Ls ptS w3 (some a) ((partsOf B kd).map id); rw [List.map_id]; exact (HO2.out.below HB3.out).ls) (by rw [List.length_map]; exact HK.out) (by omega) (ck_at (HX2.out.below HB3.out) HTY.out))
      have HANS : Hid (faultT f kd = chkT (((partsOf B kd).map fun p => (p, ckOf p (f p.adr.off))).map Prod.snd)) := Lib.hid (by
        unfold faultT
        rw [if_pos HKD.out, HMB.out, List.map_map, ← parts_ck B]
        rfl)
      go_wp2_with (go_at_call 46; (with_reducible refine HCK.out.mono ?_); rintro e w4 ⟨rfl, hb4⟩; have HB4 := Lib.hid hb4; clear hb4)
      refine ⟨rfl, .int .i64 (faultT f kd), ?_, ⟨rfl, bthen HB1.out (bthen HB2.out (bthen HB3.out HB4.out))⟩⟩
      rw [HANS.out]
      simp [results, Try.results27, go_sem]; try rfl
    · have HMB := Lib.hid hmb
      rw [hmb] at HM2
      clear hmb HM
      have HANS : Hid (faultT f kd = 4) := Lib.hid (by
        unfold faultT
        rw [if_pos HKD.out, HMB.out]
        rfl)
      go_wp2_with (go_at_call 45; (with_reducible refine HM2.out.mono ?_); rintro e w3 ⟨rfl, hb3⟩; have HB3 := Lib.hid hb3; clear hb3)
      refine ⟨rfl, .int .i64 (faultT f kd), ?_, ⟨rfl, bthen HB1.out (bthen HB2.out HB3.out)⟩⟩
      rw [HANS.out]
      simp [results, Try.results27, go_sem]; try rfl
  · have HKD := Lib.hid hkd
    have HOF2 : Hid (Calls Try.prog 29 #[.pointer (some ⟨B, 0, none⟩)] w1 fun e w' => e = .returned (.slice none 0 0) ∧ Below w1.heap.size w1 w') := Lib.hid (HOF.out.mono fun e w' h => by
      have h2 := h.2
      rw [if_neg HKD.out] at h2
      exact ⟨h2, h.1⟩)
    have HANS : Hid (faultT f kd = 3) := Lib.hid (by
      unfold faultT
      rw [if_neg HKD.out])
    clear hkd
    have hnil : ∀ w : World, (binOp .eql 50 (.slice none 0 0) (.slice none 0 0)).run Try.prog w = .ok (.bool true) w := fun w => Lib.run_eql_slice_nil w 50 74 none 0 0 0 0 Try.underlying50
    go_wp2_with (go_at_call 29; (with_reducible refine HOF2.out.mono ?_); rintro e w2 ⟨rfl, hb2⟩; have HB2 := Lib.hid hb2; clear hb2)
    refine ⟨rfl, .int .i64 (faultT f kd), ?_, ⟨rfl, bthen HB1.out HB2.out⟩⟩
    rw [HANS.out]
    simp [results, Try.results27, go_sem]; try rfl

end Go.Proofs.Ytelfnlocgknpjaa
