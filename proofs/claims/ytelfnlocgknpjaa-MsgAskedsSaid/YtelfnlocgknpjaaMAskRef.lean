/-
  The document's askFault, whole.
  The letters of what a kind names, and their bytes: in plain words.
  The document's MsgAsk.
-/
import Derived.Test.YtelfnlocgknpjaaMRefAskA
import Derived.Test.YtelfnlocgknpjaaMRefAskB
import Derived.Test.YtelfnlocgknpjaaMRefAskC
import Derived.Test.YtelfnlocgknpjaaMRefAskD
import Derived.Test.YtelfnlocgknpjaaMRefAskE
import Derived.Test.YtelfnlocgknpjaaMRefAskF
import Derived.Test.YtelfnlocgknpjaaMRefBytes
import Derived.Test.YtelfnlocgknpjaaDecHigh
import Derived.Lib.OthersKept
namespace Go.Proofs.Ytelfnlocgknpjaa
open Go.RowKit
set_option linter.unusedVariables false
set_option linter.unusedSimpArgs false

theorem askFault_bad (x : Rqv) (w : World) (hk : ¬ (1 ≤ x.kd ∧ x.kd ≤ 10)) :
    Calls Try.prog 30 #[.agg x.V] w fun e w' => e = .returned (.int .i64 3) ∧ Below w.heap.size w w' := by
  obtain ⟨kd, mrk, p, q, how, han, a, c, D, m, d, zs⟩ := x
  simp only at hk
  unfold Rqv.V
  simp only
  obtain ⟨w1, hw1⟩ : ∃ w1, w1 = w.alloc (.cells #[.int .i64 kd, .int .i64 mrk, .string (tx p), .string (tx q), .int .i64 how, .int .i64 han, .int .i64 a, .int .i64 c, .slice D m d] 24) := ⟨_, rfl⟩
  obtain ⟨B, hB⟩ : ∃ B, B = w.heap.size := ⟨_, rfl⟩
  have HB1 : Hid (Below w.heap.size w w1) := Lib.hid (by rw [hw1]; exact ba1 _ _)
  have HX : Hid (Bx 24 w1 B #[.int .i64 kd, .int .i64 mrk, .string (tx p), .string (tx q), .int .i64 how, .int .i64 han, .int .i64 a, .int .i64 c, .slice D m d]) := Lib.hid (by rw [hw1, hB]; exact bx_new _ _ _)
  have lb := HX.out.lt
  have b0 := HX.out.cell 0 _ rfl
  by_cases h1 : kd < 1
  · clear hk
    go_enter Try.func30, Try.ntmps30
    go_upto_region 1 with fail
    rw [← hw1, ← hB]
    clear hw1 hB
    go_wp2_with fail
    go_ret
    exact ⟨rfl, HB1.out⟩
  · have h2 : 10 < kd := by omega
    clear hk
    go_enter Try.func30, Try.ntmps30
    go_upto_region 1 with fail
    rw [← hw1, ← hB]
    clear hw1 hB
    go_wp2_with fail
    go_ret
    exact ⟨rfl, HB1.out⟩
theorem if_iff {P Q : Prop} [Decidable P] [Decidable Q] {a b c : Int} (h : P ↔ Q) (hb : b = c) : (if P then a else b) = if Q then a else c := by
  by_cases hp : P
  · rw [if_pos hp, if_pos (h.1 hp)]
  · rw [if_neg hp, if_neg (fun q => hp (h.2 q)), hb]
theorem isE_iff {l : Byt} : l.isEmpty = false ↔ l ≠ [] := by cases l <;> simp
/-- what the document finds against a request -/
theorem refFault_any (x : Rqv) (w : World) (hm : x.zs.length = x.m) (v : Int) (hv : faultC x.G x.kd = v) :
    Calls Try.prog 30 #[.agg x.V] w fun e w' => e = .returned (.int .i64 v) ∧ Below w.heap.size w w' := by
  by_cases hk : 1 ≤ x.kd ∧ x.kd ≤ 10
  · obtain ⟨kd, mrk, p, q, how, han, a, c, D, m, d, zs⟩ := x
    simp only at hk hm hv
    have h10 : kd = 1 ∨ kd = 2 ∨ kd = 3 ∨ kd = 4 ∨ kd = 5 ∨ kd = 6 ∨ kd = 7 ∨ kd = 8 ∨ kd = 9 ∨ kd = 10 := by omega
    have hN := fun (k : Nat) (hk : 1 ≤ k ∧ k ≤ 10) (ww : World) => msgNames_any k hk ww
    unfold Rqv.V
    simp only
    rcases h10 with rfl | rfl | rfl | rfl | rfl | rfl | rfl | rfl | rfl | rfl
    · refine askFault_A 1 mrk p q how han a c D m d zs w v hm hk (fun ww => hN 1 (by omega) ww) ?_
      rw [← hv]
      unfold faultC
      rw [if_pos (by omega)]
      exact if_iff (by simp [moreC, named, partsOf, namedBy, at_, Rqv.G, PC.nz, Pt.adr, List.length_pos_iff]) (by rfl)
    · refine askFault_B 2 mrk p q how han a c D m d zs w v hm hk (fun ww => hN 2 (by omega) ww) ?_
      rw [← hv]
      unfold faultC
      rw [if_pos (by omega)]
      exact if_iff (by simp [moreC, named, partsOf, namedBy, at_, Rqv.G, PC.nz, Pt.adr, List.length_pos_iff]) (by rfl)
    · refine askFault_C 3 mrk p q how han a c D m d zs w v hm hk (fun ww => hN 3 (by omega) ww) ?_
      rw [← hv]
      unfold faultC
      rw [if_pos (by omega)]
      exact if_iff (by simp [moreC, named, partsOf, namedBy, at_, Rqv.G, PC.nz, Pt.adr, List.length_pos_iff]) (by rfl)
    · refine askFault_D 4 mrk p q how han a c D m d zs w v hm hk (fun ww => hN 4 (by omega) ww) ?_
      rw [← hv]
      unfold faultC
      rw [if_pos (by omega)]
      exact if_iff (by simp [moreC, named, partsOf, namedBy, at_, Rqv.G, PC.nz, Pt.adr, List.length_pos_iff]) (by rfl)
    · refine askFault_E 5 mrk p q how han a c D m d zs w v hm hk (fun ww => hN 5 (by omega) ww) ?_
      rw [← hv]
      unfold faultC
      rw [if_pos (by omega)]
      exact if_iff (by simp [moreC, named, partsOf, namedBy, at_, Rqv.G, PC.nz, Pt.adr, List.length_pos_iff]) (by rfl)
    · refine askFault_E 6 mrk p q how han a c D m d zs w v hm hk (fun ww => hN 6 (by omega) ww) ?_
      rw [← hv]
      unfold faultC
      rw [if_pos (by omega)]
      exact if_iff (by simp [moreC, named, partsOf, namedBy, at_, Rqv.G, PC.nz, Pt.adr, List.length_pos_iff]) (by rfl)
    · refine askFault_E 7 mrk p q how han a c D m d zs w v hm hk (fun ww => hN 7 (by omega) ww) ?_
      rw [← hv]
      unfold faultC
      rw [if_pos (by omega)]
      exact if_iff (by simp [moreC, named, partsOf, namedBy, at_, Rqv.G, PC.nz, Pt.adr, List.length_pos_iff]) (by rfl)
    · refine askFault_E 8 mrk p q how han a c D m d zs w v hm hk (fun ww => hN 8 (by omega) ww) ?_
      rw [← hv]
      unfold faultC
      rw [if_pos (by omega)]
      exact if_iff (by simp [moreC, named, partsOf, namedBy, at_, Rqv.G, PC.nz, Pt.adr, List.length_pos_iff]) (by rfl)
    · refine askFault_F 9 mrk p q how han a c D m d zs w v hm hk (fun ww => hN 9 (by omega) ww) ?_
      rw [← hv]
      unfold faultC
      rw [if_pos (by omega)]
      exact if_iff (by simp [moreC, named, partsOf, namedBy, at_, Rqv.G, PC.nz, Pt.adr, List.length_pos_iff]) (by rfl)
    · refine askFault_F 10 mrk p q how han a c D m d zs w v hm hk (fun ww => hN 10 (by omega) ww) ?_
      rw [← hv]
      unfold faultC
      rw [if_pos (by omega)]
      exact if_iff (by simp [moreC, named, partsOf, namedBy, at_, Rqv.G, PC.nz, Pt.adr, List.length_pos_iff]) (by rfl)
  · have : v = 3 := by rw [← hv]; unfold faultC; rw [if_neg hk]
    rw [this]
    exact askFault_bad x w hk

end Go.Proofs.Ytelfnlocgknpjaa

namespace Go.Proofs.Ytelfnlocgknpjaa
open Go.RowKit
set_option linter.unusedVariables false
set_option linter.unusedSimpArgs false

/-- the bytes of what a letter names -/
def letB (x : Rqv) (ch : UInt8) : List Int :=
  if ch = 112 then enc (ofT x.p) else if ch = 116 then enc (ofT x.q) else if ch = 104 then be 1 x.how else if ch = 110 then be 4 x.han else if ch = 97 then be 4 x.a else if ch = 99 then be 2 x.c else enc x.zs
/-- what a letter names has its size -/
def LetOk (x : Rqv) (ch : UInt8) : Prop :=
  (ch = 112 ∧ x.p.length ≤ 200) ∨ (ch = 116 ∧ x.q.length ≤ 200) ∨ (ch = 104 ∧ 0 ≤ x.how ∧ x.how ≤ 255) ∨ (ch = 110 ∧ 0 ≤ x.han ∧ x.han ≤ 4294967295) ∨ (ch = 97 ∧ 0 ≤ x.a ∧ x.a ≤ 4294967295) ∨ (ch = 99 ∧ 0 ≤ x.c ∧ x.c ≤ 65535) ∨ (ch = 100 ∧ x.zs.length ≤ 100)
def lets (x : Rqv) (l : Byt) : List Int := (l.map (letB x)).flatten
theorem lets_snoc (x : Rqv) (l : Byt) (ch : UInt8) : lets x (l ++ [ch]) = lets x l ++ letB x ch := by unfold lets; simp
theorem chk0 {l : List Int} (h : chkT l = 0) (hs : ∀ z ∈ l, z = 0 ∨ z = 1 ∨ z = 2) : ∀ z ∈ l, z = 0 := by
  intro z hz
  rcases hs z hz with h0 | h1 | h2
  · exact h0
  · subst h1
    unfold chkT at h
    split at h
    · cases h
    · rw [if_pos (List.any_eq_true.2 ⟨1, hz, rfl⟩)] at h; cases h
  · subst h2
    unfold chkT at h
    rw [if_pos (List.any_eq_true.2 ⟨2, hz, rfl⟩)] at h; cases h
theorem ckN_val (k : Nat) (v : Int) : ckN k v = 0 ∨ ckN k v = 1 ∨ ckN k v = 2 := by unfold ckN; split <;> simp
theorem ckN0 {k : Nat} {v : Int} (h : ckN k v = 0) : 0 ≤ v ∧ v < 256 ^ k := by
  unfold ckN at h
  split at h
  · cases h
  · rename_i hh; exact ⟨by omega, by omega⟩
theorem ckC_val (p : Pt) (v : PC) : ckC p v = 0 ∨ ckC p v = 1 ∨ ckC p v = 2 := by
  unfold ckC
  rcases p with ⟨a, k⟩ | a | a <;> rcases v with v | s | zs
  all_goals simp only
  all_goals first
    | exact .inl rfl
    | exact .inl trivial
    | (split
       · first | exact .inr (.inr rfl) | exact .inr (.inl rfl)
       · exact .inl rfl)
/-- what is granted: its number, its mark, and what it names -/
theorem fault_lets {x : Rqv} (h : faultC x.G x.kd = 0) : 1 ≤ x.kd ∧ x.kd ≤ 10 ∧ (0 ≤ x.mrk ∧ x.mrk ≤ 4294967295) ∧ (∀ ch ∈ nmsK x.kd.toNat, LetOk x ch) ∧ (nmsK x.kd.toNat).length ≤ 3 ∧ be 1 x.kd ++ be 4 x.mrk ++ lets x (nmsK x.kd.toNat) = askC x.G x.kd := by
  unfold faultC at h
  split at h
  · rename_i hk
    split at h
    · cases h
    · have hall := chk0 h (fun z hz => by obtain ⟨p, -, rfl⟩ := List.mem_map.1 hz; exact ckC_val _ _)
      obtain ⟨kd, mrk, p, q, how, han, a, c, D, m, d, zs⟩ := x
      simp only at hk hall ⊢
      have h10 : kd = 1 ∨ kd = 2 ∨ kd = 3 ∨ kd = 4 ∨ kd = 5 ∨ kd = 6 ∨ kd = 7 ∨ kd = 8 ∨ kd = 9 ∨ kd = 10 := by omega
      refine ⟨hk.1, hk.2, ?_⟩
      rcases h10 with rfl | rfl | rfl | rfl | rfl | rfl | rfl | rfl | rfl | rfl
      all_goals
        simp [partsOf, namedBy, at_, Rqv.G, Pt.adr, ckC] at hall
        refine ⟨by omega, ?_, by decide, ?_⟩
        · intro ch hch
          simp [nmsK] at hch
          unfold LetOk
          simp only
          first
            | (rcases hch with rfl | rfl | rfl <;> simp <;> omega)
            | (rcases hch with rfl | rfl <;> simp <;> omega)
            | (subst hch; simp; omega)
        · simp [askC, lets, nmsK, letB, partsOf, namedBy, at_, Rqv.G, Pt.adr, layC]
  · cases h

end Go.Proofs.Ytelfnlocgknpjaa

namespace Go.Proofs.Ytelfnlocgknpjaa
open Go.RowKit
set_option linter.unusedVariables false
set_option linter.unusedSimpArgs false

/-- what MsgAsk answers -/
def RetRq (w : World) (x : Rqv) (v : Int) (e : Ending) (w' : World) : Prop :=
  Below w.heap.size w w' ∧ if v = 0 then ∃ A n c, e = .returned (.tuple #[.slice A n c, .int .i64 0]) ∧ OwnL byS 5 w' w.heap.size A n c (askC x.G x.kd) else e = .returned (.tuple #[.slice none 0 0, .int .i64 v])
/-- how far the letters have come -/
def AskI (x : Rqv) (l : Byt) (base I : Nat) (w0 : World) (g : Nat) (o : Value) (wx : World) : Prop :=
  ∃ (pos N : Nat) (A : Option Addr) (c : Nat), wx.heap[I]? = some (.stringIter (tx l) pos) ∧ pos + g = l.length ∧ o = .slice A N c ∧ OwnL byS 5 wx base A N c (be 1 x.kd ++ be 4 x.mrk ++ lets x (l.take pos)) ∧ N ≤ 5 + 300 * pos ∧ (∀ k, (Value.slice A N c).ownBlock = some k → k ≠ I) ∧ Below base w0 wx

theorem ascii_dec (l : Byt) (pos : Nat) (h : pos < l.length) (ha : (l.getD pos 0).toNat < 128) : Utf8.decode (tx l) pos = ((l.getD pos 0).toNat, 1) := by
  unfold Utf8.decode
  simp only [Nat.add_zero, tx_getb l pos h]
  rw [if_pos ha]
/-- one letter more -/
theorem askI_next {x : Rqv} {l : Byt} {base I g pos N c m c7 : Nat} {w4 W w6 w7 : World} {A A7 : Option Addr}
    (hit : W.heap[I]? = some (.stringIter (tx l) (pos + 1))) (hps : pos < l.length) (hg : pos + 1 + g = l.length)
    (hoff : ∀ k, (Value.slice A N c).ownBlock = some k → k ≠ I) (hbw : Below base w4 W) (hN : N ≤ 5 + 300 * pos) (hm : m ≤ 300)
    (hb6 : Below W.heap.size W w6) (ho7 : OwnL byS 5 w7 base A7 (N + m) c7 (be 1 x.kd ++ be 4 x.mrk ++ lets x (l.take pos) ++ letB x (l.getD pos 0))) (hb7 : Below base w6 w7) (hs7 : Beside (.slice A N c) (.slice A7 (N + m) c7) w6 w7) (hbz : base ≤ W.heap.size) :
    AskI x l base I w4 g (.slice A7 (N + m) c7) w7 := by
  have hlt : I < W.heap.size := (Array.getElem?_eq_some_iff.1 hit).1
  have z6 := hb6.size
  refine ⟨pos + 1, N + m, A7, c7, ?_, by omega, rfl, ?_, by omega, fun k hk e => ?_, (hbw.trans (hb6.mono hbz)).trans hb7⟩
  · exact ((hs7.block I (by omega) (fun j hj e => hoff j hj e.symm)).trans (hb6.block I hlt)).trans hit
  · have e : l.take (pos + 1) = l.take pos ++ [l.getD pos 0] := by
      rw [List.take_add_one, List.getElem?_eq_getElem hps, List.getD_eq_getElem?_getD, List.getElem?_eq_getElem hps]; rfl
    rw [e, lets_snoc, ← List.append_assoc]
    exact ho7
  · rcases hs7.own k hk with h | h
    · exact hoff k h e
    · omega

set_option maxRecDepth 100000 in
set_option maxHeartbeats 16000000 in
theorem refAsk_any (x : Rqv) (w : World) (hin : x.In w) (hoz : Oct x.zs) (v : Int) (hv : faultC x.G x.kd = v) :
    Calls Try.prog 11 #[.agg x.V] w (RetRq w x v) := by
  obtain ⟨w1, hw1⟩ : ∃ w1, w1 = w.alloc (.cells x.V 24) := ⟨_, rfl⟩
  obtain ⟨B, hB⟩ : ∃ B, B = w.heap.size := ⟨_, rfl⟩
  have HB1 : Hid (Below w.heap.size w w1) := Lib.hid (by rw [hw1]; exact ba1 _ _)
  have HX : Hid (Bx 24 w1 B x.V) := Lib.hid (by rw [hw1, hB]; exact bx_new _ _ _)
  have HIN1 := Lib.hid (hin.below HB1.out)
  have HIN0 := Lib.hid hin
  have HFT := Lib.hid (refFault_any x w1 hin.2 v hv)
  have HV := Lib.hid hv
  have HOZ := Lib.hid hoz
  clear hin hv hoz
  unfold Rqv.V at hw1 HX HFT ⊢
  obtain ⟨lb, b0, b1, b2, b3, b4, b5, b6, b7, b8, -⟩ := HX.out.cells9
  go_enter Try.func11, Try.ntmps11
  go_upto_region 1 with fail
  rw [← hw1, ← hB]
  clear hw1 hB
  by_cases hv0 : v = 0
  · subst hv0
    obtain ⟨hk1, hk2, hmk, hlet, hl3, hby⟩ := fault_lets HV.out
    have HLET := Lib.hid hlet
    have HBY := Lib.hid hby
    clear hlet hby
    go_upto_region 4 with (go_at_call 30; (with_reducible refine HFT.out.mono ?_); rintro e w2 ⟨rfl, hb2⟩; have HB2 := Lib.hid hb2; clear hb2)
    have HX2 := Lib.hid (HX.out.below HB2.out)
    have HBW2 : Hid (Below w.heap.size w w2) := Lib.hid (bthen HB1.out HB2.out)
    clear lb b0 b1 b2 b3 b4 b5 b6 b7 b8
    obtain ⟨lb, b0, b1, b2, b3, b4, b5, b6, b7, b8, -⟩ := HX2.out.cells9
    obtain ⟨base, hbs⟩ : ∃ base, base = w2.heap.size := ⟨_, rfl⟩
    have HBS := Lib.hid hbs
    have HBK : Hid (∀ ww : World, Calls Try.prog 31 #[.int .i64 x.kd, .int .i64 1] ww fun e w' => e = .returned (.slice (some ⟨ww.heap.size, 0, none⟩) 1 1) ∧ Wh byS 5 w' ww.heap.size (be 1 x.kd) ∧ Below ww.heap.size ww w') := Lib.hid (fun ww => bytesOf_any 1 x.kd ww (by omega) (by omega) (by omega))
    have HBM : Hid (∀ ww : World, Calls Try.prog 31 #[.int .i64 x.mrk, .int .i64 4] ww fun e w' => e = .returned (.slice (some ⟨ww.heap.size, 0, none⟩) 4 4) ∧ Wh byS 5 w' ww.heap.size (be 4 x.mrk) ∧ Below ww.heap.size ww w') := Lib.hid (fun ww => bytesOf_any 4 x.mrk ww (by omega) hmk.1 (by omega))
    have m0 := cell_drew1 b0
    have m1 := cell_drew1 b1
    clear hbs
    go_cut [5] (fun o wc => ∃ A c, o = .slice A 5 c ∧ Hid (OwnL byS 5 wc base A 5 c (be 1 x.kd ++ be 4 x.mrk)) ∧ Hid (Below w2.heap.size w2 wc))
    case first =>
      go_region_held3 (fun w' => w'.cell? ⟨B, 0, none⟩ = some (.int .i64 x.kd) ∧ w'.cell? ⟨B, 1, none⟩ = some (.int .i64 x.mrk)) (first | (with_reducible exact ⟨q0, q1⟩) | (with_reducible exact ⟨p0, p1⟩) | (with_reducible exact ⟨m0, m1⟩) | (with_reducible exact ⟨b0, b1⟩) | go_keep) (first
        | (go_at_call 31; (with_reducible refine (HBK.out _).mono ?_); rintro e wk ⟨rfl, hwk, hbk⟩; have HWK := Lib.hid hwk; have HBk := Lib.hid hbk; have HBK2 : Hid (Below w2.heap.size w2 wk) := Lib.hid (by first | exact (Below.refl _ _).drew.trans hbk | exact bthen HBM2.out hbk); have HX3 := Lib.hid (HX2.out.below HBK2.out); have p0 := HX3.out.cell 0 _ rfl; have p1 := HX3.out.cell 1 _ rfl; clear hwk hbk)
        | (go_at_call 31; (with_reducible refine (HBM.out _).mono ?_); rintro e wm ⟨rfl, hwm, hbm⟩; have HWM := Lib.hid hwm; have HBm := Lib.hid hbm; have HBM2 : Hid (Below w2.heap.size w2 wm) := Lib.hid (by first | exact (Below.refl _ _).drew.trans hbm | exact bthen HBK2.out hbm); have HX4 := Lib.hid (HX2.out.below HBM2.out); have q0 := HX4.out.cell 0 _ rfl; have q1 := HX4.out.cell 1 _ rfl; clear hwm hbm)
        | (refine wp_appL (F := byS) wm (.tmp 15) (.tmp 18) 22 rfl _ 1 Try.underlying22 byInfo rfl base _ 1 1 _ (by simp [Act.eval, Act.put]) ((HWK.out.own (by rw [HBS.out]; first | simp | exact HBM2.out.size) (be_len _ _) (by omega)).below HBm.out) _ 4 4 _ (by simp [Act.eval, Act.put]) HWM.out.ls (be_len _ _) 5 rfl (by omega) (by omega) (by rw [HBS.out]; exact HBM2.out.size) ?_; intro A4 c4 w4 ho4 hb4 _; have HO4 := Lib.hid ho4; have HB4 : Hid (Below w2.heap.size w2 w4) := Lib.hid (by rw [← HBS.out]; exact (HBM2.out.mono (by rw [HBS.out]; exact Nat.le_refl _)).trans hb4); have HX5 := Lib.hid (HX2.out.below HB4.out); have q0 := HX5.out.cell 0 _ rfl; have q1 := HX5.out.cell 1 _ rfl; clear ho4 hb4)
        | (refine wp_appL (F := byS) wk (.tmp 15) (.tmp 18) 22 rfl _ 1 Try.underlying22 byInfo rfl base _ 1 1 _ (by simp [Act.eval, Act.put]) (HWK.out.own (by rw [HBS.out]; first | simp | exact HBM2.out.size) (be_len _ _) (by omega)) _ 4 4 _ (by simp [Act.eval, Act.put]) (HWM.out.ls.below HBk.out) (be_len _ _) 5 rfl (by omega) (by omega) (by rw [HBS.out]; exact HBK2.out.size) ?_; intro A4 c4 w4 ho4 hb4 _; have HO4 := Lib.hid ho4; have HB4 : Hid (Below w2.heap.size w2 w4) := Lib.hid (by rw [← HBS.out]; exact (HBK2.out.mono (by rw [HBS.out]; exact Nat.le_refl _)).trans hb4); have HX5 := Lib.hid (HX2.out.below HB4.out); have q0 := HX5.out.cell 0 _ rfl; have q1 := HX5.out.cell 1 _ rfl; clear ho4 hb4))
      all_goals
        go_wp2_with fail
        go_meet
        exact ⟨A4, c4, rfl, HO4, HB4⟩
    case rest =>
      obtain ⟨A4, c4, rfl, HO4, HB4⟩ := hcut
      obtain ⟨w4, hw4⟩ : ∃ x, x = wc := ⟨_, rfl⟩
      subst hw4
      clear lb b0 b1 b2 b3 b4 b5 b6 b7 b8 m0 m1
      have HX4 := Lib.hid (HX2.out.below HB4.out)
      obtain ⟨lb, b0, b1, b2, b3, b4, b5, b6, b7, b8, -⟩ := HX4.out.cells9
      obtain ⟨l, hl⟩ : ∃ l, l = nmsK x.kd.toNat := ⟨_, rfl⟩
      have HL := Lib.hid hl
      rw [← hl] at HLET HBY hl3
      have HMN : Hid (∀ ww : World, Calls Try.prog 32 #[.int .i64 x.kd] ww fun e w' => e = .returned (.string (tx l)) ∧ Below ww.heap.size ww w') := Lib.hid (fun ww => by
        have h := msgNames_any x.kd.toNat (by omega) ww
        rw [show ((x.kd.toNat : Nat) : Int) = x.kd from by omega, ← HL.out] at h
        exact h)
      clear hl
      have HSZ : Hid ((tx l).size = l.length) := Lib.hid (tx_size l)
      have HBS' : Hid (B < base) := Lib.hid (by rw [HBS.out]; exact HX2.out.lt)
      have HW4 : Hid (Below w.heap.size w w4) := Lib.hid (bthen HBW2.out HB4.out)
      have HZ4 : Hid (base ≤ w4.heap.size) := Lib.hid (by rw [HBS.out]; exact HB4.out.size)
      go_wp2_with (go_at_call 32; (with_reducible refine (HMN.out w4).mono ?_); rintro e w5 ⟨rfl, hb5⟩; have HB5 := Lib.hid hb5; clear hb5)
      obtain ⟨I, hI⟩ : ∃ I, I = w5.heap.size := ⟨_, rfl⟩
      have HI := Lib.hid hI
      have HZ5 : Hid (base ≤ I) := Lib.hid (by rw [hI]; exact Nat.le_trans HZ4.out HB5.out.size)
      rw [← hI]
      clear hI
      go_loopg [5] l.length (fun g o wx => AskI x l base I w4 g o wx)
      case atStart =>
        refine ⟨0, 5, A4, c4, ?_, by omega, rfl, ?_, by omega, fun k hk e => ?_, ?_⟩
        · rw [HI.out]; exact World.iter_heap w5 (tx l) 0
        · rw [List.take_zero]
          show OwnL _ _ _ _ _ _ _ (be 1 x.kd ++ be 4 x.mrk ++ [])
          rw [List.append_nil]
          exact (HO4.out.below HB5.out).below ((Below.refl _ _).alloc (Nat.le_refl _) _)
        · have := (HO4.out.lt k hk).2; have := HI.out; have := HB5.out.size; omega
        · exact (HB5.out.mono HZ4.out).alloc (by rw [← HI.out]; exact HZ5.out) _
      case round =>
        obtain ⟨pos, N, A, c, hit, hpg, rfl, how, hN, hoff, hbw⟩ := hrel
        have HOFF := Lib.hid hoff
        have HBWr := Lib.hid hbw
        have HXr := Lib.hid (HX4.out.below' (hbw) HBS'.out)
        by_cases hps : pos < l.length
        · obtain ⟨g', rfl⟩ : ∃ g', gk = g' + 1 := ⟨gk - 1, by omega⟩
          have hps2 : pos < (tx l).size := by rw [HSZ.out]; exact hps
          have hnx : ∀ ty, (Instr.next (.pointer (some ⟨I, 0, none⟩)) true ty).run Try.prog wr = _ := fun ty => Lib.run_next_any_at wr I (tx l) pos ty hit hps2
          obtain ⟨ch, hch⟩ : ∃ ch, ch = l.getD pos 0 := ⟨_, rfl⟩
          have HOK := Lib.hid (HLET.out (l.getD pos 0) (by rw [List.getD_eq_getElem?_getD, List.getElem?_eq_getElem hps]; exact List.getElem_mem hps))
          rw [← hch] at HOK
          have hasc : (l.getD pos 0).toNat < 128 := by
            rw [← hch]
            rcases HOK.out with h | h | h | h | h | h | h <;> rw [h.1] <;> decide
          rw [ascii_dec l pos hps hasc] at hnx
          simp only at hnx
          have hit2 := Lib.iterAt_heap wr I (tx l) pos (pos + 1) hit
          have hbw2 := Lib.below_iterAt hbw (k := I) HZ5.out (tx l) (pos + 1)
          have how2 : OwnL byS 5 (wr.iterAt I (tx l) (pos + 1)) base A N c (be 1 x.kd ++ be 4 x.mrk ++ lets x (l.take pos)) := how.keep (fun j hj => Lib.iterAt_other wr I j (tx l) (pos + 1) (hoff j hj))
          obtain ⟨W, hWd⟩ : ∃ W, wr.iterAt I (tx l) (pos + 1) = W := ⟨_, rfl⟩
          rw [hWd] at hnx hit2 hbw2 how2
          obtain ⟨R, hR⟩ : ∃ R : Nat, R = (l.getD pos 0).toNat := ⟨_, rfl⟩
          rw [← hR] at hnx
          have HIT := Lib.hid hit2
          have HBW := Lib.hid hbw2
          have HOW := Lib.hid how2
          have HBZ : Hid (base ≤ W.heap.size) := Lib.hid (Nat.le_trans HZ4.out hbw2.size)
          have HXW := Lib.hid (HX4.out.below' hbw2 HBS'.out)
          have HG : Hid (pos + 1 + g' = l.length) := Lib.hid (by omega)
          have HWW : Hid (Below w.heap.size w W) := Lib.hid (HW4.out.trans (hbw2.mono (by rw [HBS.out]; exact HBW2.out.size)))
          have HINW : Hid (x.In W) := Lib.hid ((show x.In w from HIN0.out).below HWW.out)
          have HTZ : Hid (∀ ww : World, x.zs.length ≤ 100 → Calls Try.prog 33 #[.string (tx (toT x.zs))] ww fun e w' => Below ww.heap.size ww w' ∧ ∃ A c, e = .returned (.slice A (2 + x.m) c) ∧ OwnL byS 5 w' ww.heap.size A (2 + x.m) c (enc x.zs)) := Lib.hid (fun ww hz => by
            have h := textOf_any (toT x.zs) ww (by rw [toT_len]; omega)
            rw [toT_len, HIN0.out.2, ofT_toT _ HOZ.out] at h
            exact h)
          have HCV : Hid ((convert 22 9 (.slice x.D x.m x.d)).run Try.prog W = .ok (.string (tx (toT x.zs))) W) := Lib.hid (conv_text x.D x.m x.d x.zs W HINW.out.1 HINW.out.2)
          have hZM : x.zs.length = x.m := HIN0.out.2
          obtain ⟨lb, b0, b1, b2, b3, b4, b5, b6, b7, b8, -⟩ := HXW.out.cells9
          have hcv := HCV.out
          have hok := HOK.out
          have HCHE := Lib.hid hch
          rw [← hch] at hR
          clear hit hoff hbw how hit2 hbw2 how2 hWd hasc hch hps2
          rcases hok with ⟨h1, hq⟩ | ⟨h1, hq⟩ | ⟨h1, hq, hq1⟩ | ⟨h1, hq, hq1⟩ | ⟨h1, hq, hq1⟩ | ⟨h1, hq, hq1⟩ | ⟨h1, hq⟩
          · have HCH : Hid (l.getD pos 0 = 112) := Lib.hid (by rw [← HCHE.out]; exact h1)
            obtain rfl : R = 112 := by rw [hR, h1]; rfl
            clear h1 hR
            have HLB : Hid (letB x (l.getD pos 0) = enc (ofT x.p)) := Lib.hid (by rw [HCH.out]; rfl)
            go_wp2_with (first
              | (go_at_call 33; (with_reducible refine (textOf_any x.p W (by omega)).mono ?_); rintro e w6 ⟨hb6, S6, c6, rfl, ho6⟩; have HB6 := Lib.hid hb6; have HL6 := Lib.hid ho6.ls; have HLN := Lib.hid ho6.1; clear hb6 ho6)
              | (at_builtin; refine wpList_appL (F := byS) rfl _ (.tmp 30) (.tmp 33) 22 rfl _ 1 Try.underlying22 byInfo rfl base A N c _ rfl (HOW.out.below HB6.out) S6 (2 + x.p.length) c6 (enc (ofT x.p)) rfl HL6.out HLN.out (N + (2 + x.p.length)) rfl (by omega) (by omega) (Nat.le_trans HBZ.out HB6.out.size) ?_; intro A7 c7 w7 ho7 hb7 hs7; have HO7 := Lib.hid ho7; have HB7 := Lib.hid hb7; have HS7 := Lib.hid hs7; clear ho7 hb7 hs7))
            go_roundg g'
            case measure => omega
            case rel => exact askI_next HIT.out hps HG.out HOFF.out HBW.out hN (by omega) HB6.out (by rw [HLB.out]; exact HO7.out) HB7.out HS7.out HBZ.out
          · have HCH : Hid (l.getD pos 0 = 116) := Lib.hid (by rw [← HCHE.out]; exact h1)
            obtain rfl : R = 116 := by rw [hR, h1]; rfl
            clear h1 hR
            have HLB : Hid (letB x (l.getD pos 0) = enc (ofT x.q)) := Lib.hid (by rw [HCH.out]; rfl)
            go_wp2_with (first
              | (go_at_call 33; (with_reducible refine (textOf_any x.q W (by omega)).mono ?_); rintro e w6 ⟨hb6, S6, c6, rfl, ho6⟩; have HB6 := Lib.hid hb6; have HL6 := Lib.hid ho6.ls; have HLN := Lib.hid ho6.1; clear hb6 ho6)
              | (at_builtin; refine wpList_appL (F := byS) rfl _ (.tmp 37) (.tmp 40) 22 rfl _ 1 Try.underlying22 byInfo rfl base A N c _ rfl (HOW.out.below HB6.out) S6 (2 + x.q.length) c6 (enc (ofT x.q)) rfl HL6.out HLN.out (N + (2 + x.q.length)) rfl (by omega) (by omega) (Nat.le_trans HBZ.out HB6.out.size) ?_; intro A7 c7 w7 ho7 hb7 hs7; have HO7 := Lib.hid ho7; have HB7 := Lib.hid hb7; have HS7 := Lib.hid hs7; clear ho7 hb7 hs7))
            go_roundg g'
            case measure => omega
            case rel => exact askI_next HIT.out hps HG.out HOFF.out HBW.out hN (by omega) HB6.out (by rw [HLB.out]; exact HO7.out) HB7.out HS7.out HBZ.out
          · have HCH : Hid (l.getD pos 0 = 104) := Lib.hid (by rw [← HCHE.out]; exact h1)
            obtain rfl : R = 104 := by rw [hR, h1]; rfl
            clear h1 hR
            have HBO : Hid (Calls Try.prog 31 #[.int .i64 x.how, .int .i64 1] W fun e w' => e = .returned (.slice (some ⟨W.heap.size, 0, none⟩) 1 1) ∧ Wh byS 5 w' W.heap.size (be 1 x.how) ∧ Below W.heap.size W w') := Lib.hid (bytesOf_any 1 x.how W (by omega) (by omega) (by omega))
            have HLB : Hid (letB x (l.getD pos 0) = be 1 x.how) := Lib.hid (by rw [HCH.out]; rfl)
            go_wp2_with (first
              | (go_at_call 31; (with_reducible refine HBO.out.mono ?_); rintro e w6 ⟨rfl, hw6, hb6⟩; have HB6 := Lib.hid hb6; have HL6 := Lib.hid hw6.ls; have HLN : Hid ((be 1 x.how).length = 1) := Lib.hid (be_len _ _); clear hb6 hw6)
              | (at_builtin; refine wpList_appL (F := byS) rfl _ (.tmp 44) (.tmp 47) 22 rfl _ 1 Try.underlying22 byInfo rfl base A N c _ rfl (HOW.out.below HB6.out) (some ⟨W.heap.size, 0, none⟩) 1 1 (be 1 x.how) rfl HL6.out HLN.out (N + 1) rfl (by omega) (by omega) (Nat.le_trans HBZ.out HB6.out.size) ?_; intro A7 c7 w7 ho7 hb7 hs7; have HO7 := Lib.hid ho7; have HB7 := Lib.hid hb7; have HS7 := Lib.hid hs7; clear ho7 hb7 hs7))
            go_roundg g'
            case measure => omega
            case rel => exact askI_next HIT.out hps HG.out HOFF.out HBW.out hN (by omega) HB6.out (by rw [HLB.out]; exact HO7.out) HB7.out HS7.out HBZ.out
          · have HCH : Hid (l.getD pos 0 = 110) := Lib.hid (by rw [← HCHE.out]; exact h1)
            obtain rfl : R = 110 := by rw [hR, h1]; rfl
            clear h1 hR
            have HBO : Hid (Calls Try.prog 31 #[.int .i64 x.han, .int .i64 4] W fun e w' => e = .returned (.slice (some ⟨W.heap.size, 0, none⟩) 4 4) ∧ Wh byS 5 w' W.heap.size (be 4 x.han) ∧ Below W.heap.size W w') := Lib.hid (bytesOf_any 4 x.han W (by omega) (by omega) (by omega))
            have HLB : Hid (letB x (l.getD pos 0) = be 4 x.han) := Lib.hid (by rw [HCH.out]; rfl)
            go_wp2_with (first
              | (go_at_call 31; (with_reducible refine HBO.out.mono ?_); rintro e w6 ⟨rfl, hw6, hb6⟩; have HB6 := Lib.hid hb6; have HL6 := Lib.hid hw6.ls; have HLN : Hid ((be 4 x.han).length = 4) := Lib.hid (be_len _ _); clear hb6 hw6)
              | (at_builtin; refine wpList_appL (F := byS) rfl _ (.tmp 51) (.tmp 54) 22 rfl _ 1 Try.underlying22 byInfo rfl base A N c _ rfl (HOW.out.below HB6.out) (some ⟨W.heap.size, 0, none⟩) 4 4 (be 4 x.han) rfl HL6.out HLN.out (N + 4) rfl (by omega) (by omega) (Nat.le_trans HBZ.out HB6.out.size) ?_; intro A7 c7 w7 ho7 hb7 hs7; have HO7 := Lib.hid ho7; have HB7 := Lib.hid hb7; have HS7 := Lib.hid hs7; clear ho7 hb7 hs7))
            go_roundg g'
            case measure => omega
            case rel => exact askI_next HIT.out hps HG.out HOFF.out HBW.out hN (by omega) HB6.out (by rw [HLB.out]; exact HO7.out) HB7.out HS7.out HBZ.out
          · have HCH : Hid (l.getD pos 0 = 97) := Lib.hid (by rw [← HCHE.out]; exact h1)
            obtain rfl : R = 97 := by rw [hR, h1]; rfl
            clear h1 hR
            have HBO : Hid (Calls Try.prog 31 #[.int .i64 x.a, .int .i64 4] W fun e w' => e = .returned (.slice (some ⟨W.heap.size, 0, none⟩) 4 4) ∧ Wh byS 5 w' W.heap.size (be 4 x.a) ∧ Below W.heap.size W w') := Lib.hid (bytesOf_any 4 x.a W (by omega) (by omega) (by omega))
            have HLB : Hid (letB x (l.getD pos 0) = be 4 x.a) := Lib.hid (by rw [HCH.out]; rfl)
            go_wp2_with (first
              | (go_at_call 31; (with_reducible refine HBO.out.mono ?_); rintro e w6 ⟨rfl, hw6, hb6⟩; have HB6 := Lib.hid hb6; have HL6 := Lib.hid hw6.ls; have HLN : Hid ((be 4 x.a).length = 4) := Lib.hid (be_len _ _); clear hb6 hw6)
              | (at_builtin; refine wpList_appL (F := byS) rfl _ (.tmp 58) (.tmp 61) 22 rfl _ 1 Try.underlying22 byInfo rfl base A N c _ rfl (HOW.out.below HB6.out) (some ⟨W.heap.size, 0, none⟩) 4 4 (be 4 x.a) rfl HL6.out HLN.out (N + 4) rfl (by omega) (by omega) (Nat.le_trans HBZ.out HB6.out.size) ?_; intro A7 c7 w7 ho7 hb7 hs7; have HO7 := Lib.hid ho7; have HB7 := Lib.hid hb7; have HS7 := Lib.hid hs7; clear ho7 hb7 hs7))
            go_roundg g'
            case measure => omega
            case rel => exact askI_next HIT.out hps HG.out HOFF.out HBW.out hN (by omega) HB6.out (by rw [HLB.out]; exact HO7.out) HB7.out HS7.out HBZ.out
          · have HCH : Hid (l.getD pos 0 = 99) := Lib.hid (by rw [← HCHE.out]; exact h1)
            obtain rfl : R = 99 := by rw [hR, h1]; rfl
            clear h1 hR
            have HBO : Hid (Calls Try.prog 31 #[.int .i64 x.c, .int .i64 2] W fun e w' => e = .returned (.slice (some ⟨W.heap.size, 0, none⟩) 2 2) ∧ Wh byS 5 w' W.heap.size (be 2 x.c) ∧ Below W.heap.size W w') := Lib.hid (bytesOf_any 2 x.c W (by omega) (by omega) (by omega))
            have HLB : Hid (letB x (l.getD pos 0) = be 2 x.c) := Lib.hid (by rw [HCH.out]; rfl)
            go_wp2_with (first
              | (go_at_call 31; (with_reducible refine HBO.out.mono ?_); rintro e w6 ⟨rfl, hw6, hb6⟩; have HB6 := Lib.hid hb6; have HL6 := Lib.hid hw6.ls; have HLN : Hid ((be 2 x.c).length = 2) := Lib.hid (be_len _ _); clear hb6 hw6)
              | (at_builtin; refine wpList_appL (F := byS) rfl _ (.tmp 65) (.tmp 68) 22 rfl _ 1 Try.underlying22 byInfo rfl base A N c _ rfl (HOW.out.below HB6.out) (some ⟨W.heap.size, 0, none⟩) 2 2 (be 2 x.c) rfl HL6.out HLN.out (N + 2) rfl (by omega) (by omega) (Nat.le_trans HBZ.out HB6.out.size) ?_; intro A7 c7 w7 ho7 hb7 hs7; have HO7 := Lib.hid ho7; have HB7 := Lib.hid hb7; have HS7 := Lib.hid hs7; clear ho7 hb7 hs7))
            go_roundg g'
            case measure => omega
            case rel => exact askI_next HIT.out hps HG.out HOFF.out HBW.out hN (by omega) HB6.out (by rw [HLB.out]; exact HO7.out) HB7.out HS7.out HBZ.out
          · have HCH : Hid (l.getD pos 0 = 100) := Lib.hid (by rw [← HCHE.out]; exact h1)
            obtain rfl : R = 100 := by rw [hR, h1]; rfl
            clear h1 hR
            have HLB : Hid (letB x (l.getD pos 0) = enc x.zs) := Lib.hid (by rw [HCH.out]; rfl)
            go_wp2_with (first
              | (go_at_call 33; (with_reducible refine (HTZ.out W hq).mono ?_); rintro e w6 ⟨hb6, S6, c6, rfl, ho6⟩; have HB6 := Lib.hid hb6; have HL6 := Lib.hid ho6.ls; have HLN := Lib.hid ho6.1; clear hb6 ho6)
              | (at_builtin; refine wpList_appL (F := byS) rfl _ (.tmp 72) (.tmp 76) 22 rfl _ 1 Try.underlying22 byInfo rfl base A N c _ rfl (HOW.out.below HB6.out) S6 (2 + x.m) c6 (enc x.zs) rfl HL6.out HLN.out (N + (2 + x.m)) rfl (by omega) (by omega) (Nat.le_trans HBZ.out HB6.out.size) ?_; intro A7 c7 w7 ho7 hb7 hs7; have HO7 := Lib.hid ho7; have HB7 := Lib.hid hb7; have HS7 := Lib.hid hs7; clear ho7 hb7 hs7))
            go_roundg g'
            case measure => omega
            case rel => exact askI_next HIT.out hps HG.out HOFF.out HBW.out hN (by omega) HB6.out (by rw [HLB.out]; exact HO7.out) HB7.out HS7.out HBZ.out
        · have hnx : ∀ ty, (Instr.next (.pointer (some ⟨I, 0, none⟩)) true ty).run Try.prog wr = _ := fun ty => Lib.run_next_end_at wr I (tx l) pos ty hit (by rw [HSZ.out]; exact hps)
          have HOW := Lib.hid how
          have HTK : Hid (be 1 x.kd ++ be 4 x.mrk ++ lets x (l.take pos) = askC x.G x.kd) := Lib.hid (by rw [List.take_of_length_le (by omega)]; exact HBY.out)
          clear how hit hoff hbw
          go_wp2_with fail
          go_ret2
          refine ⟨HW4.out.trans (HBWr.out.mono (by rw [HBS.out]; exact HBW2.out.size)), ?_⟩
          rw [if_pos rfl]
          exact ⟨A, N, c, rfl, by rw [← HTK.out]; exact HOW.out.base (by rw [HBS.out]; exact HBW2.out.size)⟩
  · have HNZ : Hid (¬ v = 0) := Lib.hid hv0
    have hvb : (v == 0) = false := by rw [beq_eq_false_iff_ne]; exact hv0
    go_wp2_with (go_at_call 30; (with_reducible refine HFT.out.mono ?_); rintro e w2 ⟨rfl, hb2⟩; have HB2 := Lib.hid hb2; clear hb2)
    go_ret2
    exact ⟨bthen HB1.out HB2.out, by rw [if_neg HNZ.out]; rfl⟩

end Go.Proofs.Ytelfnlocgknpjaa
