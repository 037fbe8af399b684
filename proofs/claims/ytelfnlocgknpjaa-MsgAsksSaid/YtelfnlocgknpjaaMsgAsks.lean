/-
  MsgAsks.
-/
import Derived.Test.YtelfnlocgknpjaaReqArg
import Derived.Test.YtelfnlocgknpjaaMAskRef
import Derived.Test.YtelfnlocgknpjaaSameLaw
namespace Go.Proofs.Ytelfnlocgknpjaa
open Go.RowKit
set_option linter.unusedVariables false
set_option linter.unusedSimpArgs false

theorem letB_len {x : Rqv} {ch : UInt8} (h : LetOk x ch) : (letB x ch).length ≤ 202 := by
  have he : ∀ l : List Int, l.length ≤ 200 → (enc l).length ≤ 202 := fun l hl => by unfold enc; rw [List.length_append, be_len]; omega
  unfold letB
  rcases h with ⟨rfl, h⟩ | ⟨rfl, h⟩ | ⟨rfl, h⟩ | ⟨rfl, h⟩ | ⟨rfl, h⟩ | ⟨rfl, h⟩ | ⟨rfl, h⟩
  · exact he _ (by rw [ofT_len]; exact h)
  · exact he _ (by rw [ofT_len]; exact h)
  · show (be 1 x.how).length ≤ 202; rw [be_len]; omega
  · show (be 4 x.han).length ≤ 202; rw [be_len]; omega
  · show (be 4 x.a).length ≤ 202; rw [be_len]; omega
  · show (be 2 x.c).length ≤ 202; rw [be_len]; omega
  · exact he _ (by omega)
theorem lets_len {x : Rqv} : ∀ l : Byt, (∀ ch ∈ l, LetOk x ch) → (lets x l).length ≤ 202 * l.length
  | [], _ => by simp [lets]
  | ch :: t, h => by
    have h1 := letB_len (h ch (List.mem_cons_self ..))
    have h2 := lets_len t (fun c hc => h c (List.mem_cons_of_mem _ hc))
    unfold lets at h2 ⊢
    simp only [List.map_cons, List.flatten_cons, List.length_append, List.length_cons]
    omega
theorem ask_len {x : Rqv} (h : faultC x.G x.kd = 0) : (askC x.G x.kd).length ≤ 1000 := by
  obtain ⟨-, -, -, h4, h5, h6⟩ := fault_lets h
  have := lets_len _ h4
  rw [← h6, List.length_append, List.length_append, be_len, be_len]
  omega
/-- what msg.Ask answers, whatever the request -/
theorem askX_any (x : Rqv) (w : World) (hin : x.In w) (v : Int) (hv : faultC x.G x.kd = v) :
    Calls Try.prog 10 #[.agg #[.int .i64 x.kd, .int .i64 x.mrk, .string (tx x.p), .string (tx x.q), .int .i64 x.how, .int .i64 x.han, .int .i64 x.a, .int .i64 x.c, .slice x.D x.m x.d]] w (RetRq w x v) := by
  refine (ask_any x.F x.kd w rfl x.typed hin.ok).mono ?_
  rintro e w' ⟨hb, h⟩
  have hp : (fun o => (x.F o).pure) = x.G := funext x.pure
  have hz : faultT x.F x.kd = v := by rw [fault_pure x.typed hin.ok.len, hp]; exact hv
  rw [hz, ask_pure, hp] at h
  exact ⟨hb, h⟩
set_option maxRecDepth 100000 in
set_option maxHeartbeats 8000000 in
theorem walkMsgAsks (x : Rqv) (w : World) (hq : RqIn w x) :
    Calls Try.prog 3 #[.agg #[.int .i64 x.kd, .int .i64 x.mrk, .string (tx x.p), .string (tx x.q), .int .i64 x.how, .int .i64 x.han, .int .i64 x.a, .int .i64 x.c, .slice x.D x.m x.d]] w fun e w' => e = .returned (.bool true) ∧ Below w.heap.size w w' := by
  obtain ⟨hin, hm, hoz⟩ := hq
  obtain ⟨w1, hw1⟩ : ∃ w1, w1 = w.alloc (.cells #[.int .i64 x.kd, .int .i64 x.mrk, .string (tx x.p), .string (tx x.q), .int .i64 x.how, .int .i64 x.han, .int .i64 x.a, .int .i64 x.c, .slice x.D x.m x.d] 24) := ⟨_, rfl⟩
  obtain ⟨B, hB⟩ : ∃ B, B = w.heap.size := ⟨_, rfl⟩
  have HB1 : Hid (Below w.heap.size w w1) := Lib.hid (by rw [hw1]; exact ba1 _ _)
  have HX : Hid (Bx 24 w1 B #[.int .i64 x.kd, .int .i64 x.mrk, .string (tx x.p), .string (tx x.q), .int .i64 x.how, .int .i64 x.han, .int .i64 x.a, .int .i64 x.c, .slice x.D x.m x.d]) := Lib.hid (by rw [hw1, hB]; exact bx_new _ _ _)
  have HIN1 := Lib.hid (hin.below HB1.out)
  have HOZ := Lib.hid hoz
  obtain ⟨lb, b0, b1, b2, b3, b4, b5, b6, b7, b8, -⟩ := HX.out.cells9
  obtain ⟨v, hv⟩ : ∃ v, faultC x.G x.kd = v := ⟨_, rfl⟩
  have HA : Hid (∀ ww, Below w1.heap.size w1 ww → Calls Try.prog 10 #[.agg #[.int .i64 x.kd, .int .i64 x.mrk, .string (tx x.p), .string (tx x.q), .int .i64 x.how, .int .i64 x.han, .int .i64 x.a, .int .i64 x.c, .slice x.D x.m x.d]] ww (RetRq ww x v)) := Lib.hid (fun ww h => askX_any x ww (HIN1.out.below h) v hv)
  have HR : Hid (∀ ww, Below w1.heap.size w1 ww → Calls Try.prog 11 #[.agg #[.int .i64 x.kd, .int .i64 x.mrk, .string (tx x.p), .string (tx x.q), .int .i64 x.how, .int .i64 x.han, .int .i64 x.a, .int .i64 x.c, .slice x.D x.m x.d]] ww (RetRq ww x v)) := Lib.hid (fun ww h => refAsk_any x ww (HIN1.out.below h) HOZ.out v hv)
  have HV := Lib.hid hv
  clear hin hoz hv
  go_enter Try.func3, Try.ntmps3
  go_upto_region 1 with fail
  rw [← hw1, ← hB]
  clear hw1 hB
  by_cases hv0 : v = 0
  · subst hv0
    obtain ⟨bs, hbs⟩ : ∃ bs, bs = askC x.G x.kd := ⟨_, rfl⟩
    have HBS := Lib.hid hbs
    have HBL : Hid (bs.length ≤ 1000) := Lib.hid (by rw [hbs]; exact ask_len HV.out)
    clear hbs
    go_wp2_with (first
      | (go_at_call 10; (with_reducible refine (HA.out w1 (Below.refl _ _)).mono ?_); rintro e w2 ⟨hb2, h2⟩; rw [if_pos rfl, ← HBS.out] at h2; obtain ⟨A2, n2, c2, rfl, ho2⟩ := h2; have HB2 := Lib.hid hb2; have HO2 := Lib.hid ho2; have hx2 := HX.out.below hb2; obtain ⟨lb, b0, b1, b2, b3, b4, b5, b6, b7, b8, -⟩ := hx2.cells9; clear hb2 ho2 hx2)
      | (go_at_call 11; (with_reducible refine (HR.out w2 HB2.out).mono ?_); rintro e w3 ⟨hb3, h3⟩; rw [if_pos rfl, ← HBS.out] at h3; obtain ⟨A3, n3, c3, rfl, ho3⟩ := h3; have HB3 := Lib.hid hb3; have HO3 := Lib.hid ho3; have HLN := Lib.hid ho3.1; obtain rfl : n3 = n2 := ho3.1.symm.trans HO2.out.1; have HLB : Hid (n3 ≤ 140737488355328) := Lib.hid (by have h1 := HO3.out.1; have h2 := HBL.out; omega); clear hb3 ho3)
      | (go_at_call 12; ((with_reducible refine (same_law A2 n3 c2 A3 c3 bs w3 (HO2.out.ls.below HB3.out) HO3.out.ls HLN.out HLB.out).mono ?_); rintro e w4 ⟨rfl, hb4⟩; have HB4 := Lib.hid hb4; clear hb4)))
    go_ret
    exact ⟨rfl, bthen HB1.out (bthen HB2.out (bthen HB3.out HB4.out))⟩
  · have HNZ : Hid (¬ v = 0) := Lib.hid hv0
    have HSM : Hid (∀ ww, Calls Try.prog 12 #[.slice none 0 0, .slice none 0 0] ww fun e w' => e = .returned (.bool true) ∧ Below ww.heap.size ww w') := Lib.hid (fun ww => same_law none 0 0 none 0 [] ww (Ls.nil _ _) (Ls.nil _ _) rfl (by omega))
    clear hv0
    go_wp2_with (first
      | (go_at_call 10; (with_reducible refine (HA.out w1 (Below.refl _ _)).mono ?_); rintro e w2 ⟨hb2, h2⟩; rw [if_neg HNZ.out] at h2; subst h2; have HB2 := Lib.hid hb2; have hx2 := HX.out.below hb2; obtain ⟨lb, b0, b1, b2, b3, b4, b5, b6, b7, b8, -⟩ := hx2.cells9; clear hb2 hx2)
      | (go_at_call 11; (with_reducible refine (HR.out w2 HB2.out).mono ?_); rintro e w3 ⟨hb3, h3⟩; rw [if_neg HNZ.out] at h3; subst h3; have HB3 := Lib.hid hb3; clear hb3)
      | (go_at_call 12; (with_reducible refine (HSM.out w3).mono ?_); rintro e w4 ⟨rfl, hb4⟩; have HB4 := Lib.hid hb4; clear hb4))
    go_ret
    exact ⟨by simp, bthen HB1.out (bthen HB2.out (bthen HB3.out HB4.out))⟩

end Go.Proofs.Ytelfnlocgknpjaa
