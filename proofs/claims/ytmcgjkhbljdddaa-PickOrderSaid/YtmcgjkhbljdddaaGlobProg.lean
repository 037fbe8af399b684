/-
  The program's reading of a pattern: set, first, read.
-/
import Derived.Test.YtmcgjkhbljdddaaGlobCut
import Derived.Great.BuildSlice
namespace Go.Proofs.Ytmcgjkhbljdddaa
open Go.RowKit
set_option linter.unusedVariables false
set_option linter.unusedSimpArgs false

/-- what stands ahead, and how many bytes of it there are -/
def retF (s : Byt) : Option (Gi × Byt) → Value
  | none => .tuple #[.agg (gpC gp0), .int .i64 0]
  | some (it, r) => .tuple #[.agg (gpC (gpOf it)), .int .i64 ((s.length : Int) - r.length)]
theorem retF_on (c : UInt8) (t : Byt) (rs : List (UInt8 × UInt8)) (h3 : 93 ∈ t) (h0 : lisT t ≠ []) (h92 : 92 ∉ lisT t) (hr : rgT (lisT t) = some rs) (p : Gp) (hp : gpOf ⟨91, 0, rs, othT t⟩ = p) (k : Nat) (hk : (innT t).length = k) :
    retF (c :: t) (setT t) = .tuple #[.agg (gpC p), .int .i64 ((k : Int) + 2)] ∧ k + 2 ≤ t.length + 1 := by
  obtain ⟨r, h1, h2⟩ := inn_some h3
  have hl := congrArg List.length h1
  simp only [List.length_append, List.length_cons] at hl
  rw [setT_on h3 h0 h92 hr]
  refine ⟨?_, by omega⟩
  simp only [retF]
  rw [hp, List.length_drop, List.length_cons]
  have e : ((t.length + 1 : Nat) : Int) - ((t.length - ((innT t).length + 1) : Nat) : Int) = (k : Int) + 2 := by omega
  rw [e]
theorem caret_inn (t : Byt) (w : World) : Calls Try.prog 40 #[.string (tx (innT t)), .string ⟨#[94]⟩] w fun e w' => e = .returned (.tuple #[.string (tx (lisT t)), .bool (othT t)]) ∧ w' = w := caret_any (innT t) w
theorem lis_le (t : Byt) : (lisT t).length ≤ t.length := by
  have h1 := lis_len t
  have h2 : (innT t).length ≤ t.length := (List.takeWhile_sublist _).length_le
  omega

set_option maxHeartbeats 4000000 in
theorem set_any (c : UInt8) (t : Byt) (w : World) (hl : t.length ≤ 40) :
    Calls Try.prog 35 #[.string (tx (c :: t))] w fun e w' => e = .returned (retF (c :: t) (setT t)) ∧ Below w.heap.size w w' := by
  have hz := gp_zero
  have hb0 := gp_build0
  have hts : (tx (c :: t)).size = t.length + 1 := by rw [tx_size]; rfl
  have hx1 : (tx (c :: t)).extract 1 (t.length + 1) = tx t := by rw [tx_cut]; simp
  have hin : (tx (innT t)).size = (innT t).length := tx_size _
  have hil : (innT t).length ≤ t.length := (List.takeWhile_sublist _).length_le
  have HCUT := Lib.hid (fun w => cut_any t w (by omega))
  have HCAR := Lib.hid (caret_inn t)
  have HLST := Lib.hid (fun w => listed_any (lisT t) w (by have := lis_le t; omega))
  unfold RetLs at HLST
  obtain ⟨Q, hQ⟩ : ∃ Q, Q = w.heap.size := ⟨_, rfl⟩
  obtain ⟨w1, hw1⟩ : ∃ w1, w1 = w.alloc (.cells (gpC gp0) 52) := ⟨_, rfl⟩
  have HB1 : Hid (Below w.heap.size w w1) := Lib.hid (by rw [hw1]; exact ba1 _ _)
  have HX1 : Hid (Gx w1 Q gp0) := Lib.hid (by rw [hw1, hQ]; exact heap_alloc_new _ _)
  have HQ := Lib.hid hQ
  obtain ⟨k, hk⟩ : ∃ k, (innT t).length = k := ⟨_, rfl⟩
  rw [hk] at hin hil
  have HOFF : Hid ((93 ∉ t) ∨ lstT (lisT t) = none → retF (c :: t) (setT t) = .tuple #[.agg (gpC gp0), .int .i64 0]) := Lib.hid fun h => by rw [setT_off h]; rfl
  have HON : Hid (∀ p0, 93 ∈ t → lstT (lisT t) = some p0 → retF (c :: t) (setT t) = .tuple #[.agg (gpC (if othT t then gpBut p0 else p0)), .int .i64 ((k : Int) + 2)]) := Lib.hid fun p0 h3 hls => by
    obtain ⟨g1, g2, rs, g3, rfl⟩ := lstT_some hls
    exact (retF_on c t rs h3 g1 g2 g3 _ (by rw [gp_set]; rfl) k hk).1
  obtain ⟨v93, hv93⟩ : ∃ v, decide (93 ∈ t) = v := ⟨_, rfl⟩
  rw [hv93] at HCUT
  obtain ⟨o, ho⟩ : ∃ o, lstT (lisT t) = o := ⟨_, rfl⟩
  rw [ho] at HLST HOFF HON
  obtain ⟨oth, hoth⟩ : ∃ o, othT t = o := ⟨_, rfl⟩
  rw [hoth] at HCAR HON
  obtain ⟨R, hR⟩ : ∃ R, retF (c :: t) (setT t) = R := ⟨_, rfl⟩
  rw [hR] at HOFF HON ⊢
  obtain ⟨tl, htl⟩ : ∃ tl, tl = t.length := ⟨_, rfl⟩
  rw [← htl] at hts hx1 hil hl
  obtain ⟨inn, hinn⟩ : ∃ i, innT t = i := ⟨_, rfl⟩
  rw [hinn] at HCUT HCAR hin
  obtain ⟨lis, hlis⟩ : ∃ i, lisT t = i := ⟨_, rfl⟩
  rw [hlis] at HCAR HLST
  have H93 : Hid (v93 = true → 93 ∈ t) := Lib.hid fun h => of_decide_eq_true (hv93.trans h)
  have H93' : Hid (v93 = false → 93 ∉ t) := Lib.hid fun h => of_decide_eq_false (hv93.trans h)
  clear hk hv93 ho hoth hR htl hinn hlis
  go_enter Try.func35, Try.ntmps35
  go_upto_region 1 with fail
  rw [← hw1, ← hQ]
  clear hw1 hQ
  go_upto_region 3 with (first | (go_at_call 39; refine (HCUT.out _).mono ?_; rintro e _ ⟨⟨rr, rfl⟩, nd, rfl⟩) | (go_at_call 40; refine (HCAR.out _).mono ?_; rintro e _ ⟨rfl, rfl⟩))
  rcases o with _ | p0
  · simp only [Option.getD_none, Option.isSome_none] at HLST
    go_upto_region 4 with (first | (go_at_call 41; refine (HLST.out _).mono ?_; rintro e w3 ⟨rfl, hb3⟩; have HB3 := Lib.hid hb3; clear hb3) | (refine wpG_store rfl (.tmp 9) (.tmp 26) rfl w3.heap.size rfl gp0 gp0 rfl (heap_alloc_new _ _) ?_))
    obtain ⟨Q3, hQ3⟩ : ∃ Q3, Q3 = w3.heap.size := ⟨_, rfl⟩
    obtain ⟨w4, hw4⟩ : ∃ w4, w4 = (w3.alloc (.cells (gpC gp0) 52)).setRow w3.heap.size (gpC gp0) := ⟨_, rfl⟩
    have HBD : Hid (Below w.heap.size w w4 ∧ Gx w4 Q gp0 ∧ Gx w4 Q3 gp0 ∧ Q < Q3) := Lib.hid (by
      have g1 : Gx w3 Q gp0 := (HX1.out.below (below_drewN (Below.refl _ _) nd)).below HB3.out
      have b1 : Below w.heap.size w w3 := bthen (below_drewN HB1.out nd) HB3.out
      refine ⟨by rw [hw4]; exact below_setRow (b1.alloc b1.size _) b1.size _, ?_, by rw [hw4, hQ3]; exact Gx.put (p := gp0) (heap_alloc_new _ _) _, by rw [hQ3]; exact g1.lt⟩
      rw [hw4]
      have hlt := g1.lt
      exact (setRow_other _ _ _ _ (by omega)).trans (g1.below (ba1 _ _)))
    rw [← hw4, ← hQ3]
    clear hw4 hQ3 HB3 HX1 HB1
    have HX5 := Lib.hid (HBD.out.2.1.put gp0)
    cases v93 <;>
    · go_wp2_with (first | (refine wpG_store rfl (.tmp 2) (.tmp 35) rfl Q rfl gp0 gp0 rfl HBD.out.2.1 ?_) | (refine end_ret (gp_result2 rfl _ Q rfl (.int .i64 0) rfl gp0 HX5.out) ?_))
      exact ⟨by rw [HOFF.out (.inr (by first | rfl | trivial))], below_setRow HBD.out.1 (by rw [← HQ.out]; exact Nat.le_refl _) _⟩
  · simp only [Option.getD_some, Option.isSome_some] at HLST
    go_upto_region 4 with (first | (go_at_call 41; refine (HLST.out _).mono ?_; rintro e w3 ⟨rfl, hb3⟩; have HB3 := Lib.hid hb3; clear hb3) | (refine wpG_store rfl (.tmp 9) (.tmp 26) rfl w3.heap.size rfl gp0 p0 rfl (heap_alloc_new _ _) ?_))
    obtain ⟨Q3, hQ3⟩ : ∃ Q3, Q3 = w3.heap.size := ⟨_, rfl⟩
    obtain ⟨w4, hw4⟩ : ∃ w4, w4 = (w3.alloc (.cells (gpC gp0) 52)).setRow w3.heap.size (gpC p0) := ⟨_, rfl⟩
    have HBD : Hid (Below w.heap.size w w4 ∧ Gx w4 Q gp0 ∧ Gx w4 Q3 p0 ∧ Q < Q3) := Lib.hid (by
      have g1 : Gx w3 Q gp0 := (HX1.out.below (below_drewN (Below.refl _ _) nd)).below HB3.out
      have b1 : Below w.heap.size w w3 := bthen (below_drewN HB1.out nd) HB3.out
      refine ⟨by rw [hw4]; exact below_setRow (b1.alloc b1.size _) b1.size _, ?_, by rw [hw4, hQ3]; exact Gx.put (p := gp0) (heap_alloc_new _ _) _, by rw [hQ3]; exact g1.lt⟩
      rw [hw4]
      have hlt := g1.lt
      exact (setRow_other _ _ _ _ (by omega)).trans (g1.below (ba1 _ _)))
    rw [← hw4, ← hQ3]
    clear hw4 hQ3 HB3 HX1 HB1
    have HX5 := Lib.hid (HBD.out.2.1.put gp0)
    rcases v93
    · go_wp2_with (first | (refine wpG_store rfl (.tmp 2) (.tmp 35) rfl Q rfl gp0 gp0 rfl HBD.out.2.1 ?_) | (refine end_ret (gp_result2 rfl _ Q rfl (.int .i64 0) rfl gp0 HX5.out) ?_))
      exact ⟨by rw [HOFF.out (.inl (H93'.out (by first | rfl | trivial)))], below_setRow HBD.out.1 (by rw [← HQ.out]; exact Nat.le_refl _) _⟩
    · have hw2 : IntKind.i64.wrap ((k : Int) + 2) = (k : Int) + 2 := by rw [IntKind.wrap_i64]; omega
      have HR := Lib.hid (HON.out p0 (H93.out (by first | rfl | trivial)) (by first | rfl | trivial))
      rcases oth
      · have HX6 := Lib.hid (HBD.out.2.1.put p0)
        go_wp2_with (first | (refine wpG_load rfl (.tmp 9) rfl Q3 rfl p0 HBD.out.2.2.1 ?_) | (refine wpG_store rfl (.tmp 2) (.tmp 40) rfl Q rfl gp0 p0 rfl HBD.out.2.1 ?_) | (refine end_ret (gp_result2 rfl _ Q rfl (.int .i64 ((k : Int) + 2)) rfl p0 HX6.out) ?_))
        exact ⟨by rw [HR.out]; rfl, below_setRow HBD.out.1 (by rw [← HQ.out]; exact Nat.le_refl _) _⟩
      · have HBUT := Lib.hid (but_any p0 w4)
        go_upto_region 8 with (first | (refine wpG_load rfl (.tmp 9) rfl Q3 rfl p0 HBD.out.2.2.1 ?_) | (refine wpG_store rfl (.tmp 9) (.tmp 39) rfl Q3 rfl p0 (gpBut p0) rfl (HBD.out.2.2.1.below HB7.out) ?_) | (go_at_call 34; refine HBUT.out.mono ?_; rintro e w7 ⟨rfl, hb7⟩; have HB7 := Lib.hid hb7; clear hb7))
        obtain ⟨w8, hw8⟩ : ∃ w8, w8 = w7.setRow Q3 (gpC (gpBut p0)) := ⟨_, rfl⟩
        have HB8 : Hid (Below w.heap.size w w8 ∧ Gx w8 Q gp0 ∧ Gx w8 Q3 (gpBut p0)) := Lib.hid (by
          obtain ⟨b1, b2, b3, b4⟩ := HBD.out
          have hlt := b2.lt
          have hq := HQ.out
          refine ⟨by rw [hw8]; exact below_setRow (bthen b1 HB7.out) (by omega) _, ?_, by rw [hw8]; exact Gx.put (p := p0) (b3.below HB7.out) _⟩
          rw [hw8]
          exact (setRow_other _ _ _ _ (by omega)).trans (b2.below HB7.out))
        rw [← hw8]
        clear hw8 HB7
        have HX6 := Lib.hid (HB8.out.2.1.put (gpBut p0))
        go_wp2_with (first | (refine wpG_load rfl (.tmp 9) rfl Q3 rfl (gpBut p0) HB8.out.2.2 ?_) | (refine wpG_store rfl (.tmp 2) (.tmp 40) rfl Q rfl gp0 (gpBut p0) rfl HB8.out.2.1 ?_) | (refine end_ret (gp_result2 rfl _ Q rfl (.int .i64 ((k : Int) + 2)) rfl (gpBut p0) HX6.out) ?_))
        exact ⟨by rw [HR.out]; rfl, below_setRow HB8.out.1 (by rw [← HQ.out]; exact Nat.le_refl _) _⟩

theorem wpG_build1 {ops : Array Oper} {rest : List Oper} {o : Oper} {a : Act} {w : World} {Q : Exit → Act → World → Prop} (hgd : o.guard = none) (ho : o.op = .build 52 #[(1, .const (.bool true))])
    (h : wpList Try.prog ops Q rest (a.put o.dst (.agg (gpC ⟨true, fun _ => false⟩))) w) : wpList Try.prog ops Q (o :: rest) a w := by
  refine wpList_plain hgd fun K hK => ?_
  unfold Oper.wp execOp
  have e : (#[((1 : Nat), Operand.const (.bool true))].map fun (i, x) => (i, a.eval x)) = #[(1, .bool true)] := by simp [Act.eval]
  simp only [ho, e, Sem.run_bind, gp_build1, Result.andThen_ok]
  exact hK _ _ h
theorem gpOf_any : gpOf ⟨63, 0, [], false⟩ = gpBut gp0 := gp_ext rfl fun c => by simp [gpOf, takesG, gpBut, gp0]
theorem gpOf_run : gpOf ⟨42, 0, [], false⟩ = ⟨true, fun _ => false⟩ := gp_ext rfl fun c => by simp [gpOf, takesG, inR]
theorem gpOf_one (b : UInt8) : gpOf ⟨61, b, [], false⟩ = gpOne b := gp_ext rfl fun c => by simp [gpOf, takesG, gpOne]
theorem bn_zero (c : UInt8) (t : Byt) : bn (c :: t) 0 = (c.toNat : Int) := rfl
theorem bn_one (c b : UInt8) (t : Byt) : bn (c :: b :: t) 1 = (b.toNat : Int) := rfl
set_option maxHeartbeats 4000000 in
theorem first_any (c : UInt8) (t : Byt) (w : World) (hl : t.length ≤ 40) :
    Calls Try.prog 29 #[.string (tx (c :: t))] w fun e w' => e = .returned (retF (c :: t) (fsT (c :: t))) ∧ Below w.heap.size w w' := by
  have hz := gp_zero
  have hb0 := gp_build0
  have hb1 := gp_build1
  have hts : (tx (c :: t)).size = t.length + 1 := by rw [tx_size]; rfl
  have bg := bn_get (c :: t)
  have hc0 : bn (c :: t) 0 = (c.toNat : Int) := bn_zero c t
  have HSET := Lib.hid (fun w => set_any c t w hl)
  have HONE := Lib.hid (fun w => one_any c w)
  have HBUT := Lib.hid (fun w => but_any gp0 w)
  have hlen : (((c :: t).length : Nat) : Int) - (t.length : Int) = 1 := by simp; omega
  obtain ⟨Q, hQ⟩ : ∃ Q, Q = w.heap.size := ⟨_, rfl⟩
  obtain ⟨w1, hw1⟩ : ∃ w1, w1 = w.alloc (.cells (gpC gp0) 52) := ⟨_, rfl⟩
  have HB1 : Hid (Below w.heap.size w w1) := Lib.hid (by rw [hw1]; exact ba1 _ _)
  have HX1 : Hid (Gx w1 Q gp0) := Lib.hid (by rw [hw1, hQ]; exact heap_alloc_new _ _)
  have HQ := Lib.hid hQ
  have fin : ∀ w', Below w.heap.size w w' → ∀ p, Below w.heap.size w (w'.setRow Q (gpC p)) := fun w' h p => below_setRow h (by rw [hQ]; exact Nat.le_refl _) _
  have FIN := Lib.hid fin
  clear fin
  by_cases h63 : c = 63
  · subst h63
    have HR : Hid (retF (63 :: t) (fsT (63 :: t)) = .tuple #[.agg (gpC (gpBut gp0)), .int .i64 1]) := Lib.hid (by rw [fsT_any t (.inr rfl)]; simp only [retF]; rw [gpOf_any, hlen])
    have i63 : bn (63 :: t) 0 = 63 := rfl
    clear hc0 hlen
    go_enter Try.func29, Try.ntmps29
    go_upto_region 1 with fail
    rw [← hw1, ← hQ]
    clear hw1 hQ
    go_wp2_with (first | (go_at_call 34; refine (HBUT.out _).mono ?_; rintro e w7 ⟨rfl, hb7⟩; have HB7 := Lib.hid hb7; clear hb7) | (refine wpG_store rfl (.tmp 2) (.tmp 9) rfl Q rfl gp0 (gpBut gp0) rfl (HX1.out.below HB7.out) ?_) | (refine end_ret (gp_result2 rfl _ Q rfl (.int .i64 1) rfl (gpBut gp0) (Gx.put (p := gp0) (HX1.out.below HB7.out) _)) ?_))
    exact ⟨by rw [HR.out], FIN.out _ (bthen HB1.out HB7.out) _⟩
  · have n63 : ¬ (c.toNat : Int) = 63 := fun e => h63 (UInt8.toNat_inj.1 (by show c.toNat = 63; omega))
    by_cases h42 : c = 42
    · subst h42
      have HR : Hid (retF (42 :: t) (fsT (42 :: t)) = .tuple #[.agg (gpC ⟨true, fun _ => false⟩), .int .i64 1]) := Lib.hid (by rw [fsT_any t (.inl rfl)]; simp only [retF]; rw [gpOf_run, hlen])
      have i42 : bn (42 :: t) 0 = 42 := rfl
      clear hc0 hlen n63
      go_enter Try.func29, Try.ntmps29
      go_upto_region 1 with fail
      rw [← hw1, ← hQ]
      clear hw1 hQ
      go_wp2_with (first | (refine wpG_build1 rfl rfl ?_) | (refine wpG_store rfl (.tmp 2) (.tmp 14) rfl Q rfl gp0 ⟨true, fun _ => false⟩ rfl HX1.out ?_) | (refine end_ret (gp_result2 rfl _ Q rfl (.int .i64 1) rfl ⟨true, fun _ => false⟩ (HX1.out.put _)) ?_))
      exact ⟨by rw [HR.out], FIN.out _ HB1.out _⟩
    · have n42 : ¬ (c.toNat : Int) = 42 := fun e => h42 (UInt8.toNat_inj.1 (by show c.toNat = 42; omega))
      by_cases h91 : c = 91
      · subst h91
        have i91 : bn (91 :: t) 0 = 91 := rfl
        rw [fsT_set]
        rcases hs : setT t with _ | ⟨it, r⟩
        · rw [hs] at HSET
          simp only [retF] at HSET ⊢
          clear hc0 hlen n63 n42 hs
          go_enter Try.func29, Try.ntmps29
          go_upto_region 1 with fail
          rw [← hw1, ← hQ]
          clear hw1 hQ
          go_wp2_with (first | (go_at_call 35; refine (HSET.out _).mono ?_; rintro e w7 ⟨rfl, hb7⟩; have HB7 := Lib.hid hb7; clear hb7) | (refine wpG_store rfl (.tmp 2) (.tmp 21) rfl Q rfl gp0 gp0 rfl (HX1.out.below HB7.out) ?_) | (refine end_ret (gp_result2 rfl _ Q rfl (.int .i64 0) rfl gp0 (Gx.put (p := gp0) (HX1.out.below HB7.out) _)) ?_))
          exact FIN.out _ (bthen HB1.out HB7.out) _
        · rw [hs] at HSET
          simp only [retF] at HSET ⊢
          obtain ⟨m, hm⟩ : ∃ m : Int, (((91 :: t).length : Nat) : Int) - (r.length : Int) = m := ⟨_, rfl⟩
          rw [hm] at HSET ⊢
          clear hc0 hlen n63 n42 hs hm
          go_enter Try.func29, Try.ntmps29
          go_upto_region 1 with fail
          rw [← hw1, ← hQ]
          clear hw1 hQ
          go_wp2_with (first | (go_at_call 35; refine (HSET.out _).mono ?_; rintro e w7 ⟨rfl, hb7⟩; have HB7 := Lib.hid hb7; clear hb7) | (refine wpG_store rfl (.tmp 2) (.tmp 21) rfl Q rfl gp0 (gpOf it) rfl (HX1.out.below HB7.out) ?_) | (refine end_ret (gp_result2 rfl _ Q rfl (.int .i64 m) rfl (gpOf it) (Gx.put (p := gp0) (HX1.out.below HB7.out) _)) ?_))
          exact FIN.out _ (bthen HB1.out HB7.out) _
      · have n91 : ¬ (c.toNat : Int) = 91 := fun e => h91 (UInt8.toNat_inj.1 (by show c.toNat = 91; omega))
        by_cases h92 : c = 92
        · subst h92
          have i92 : bn (92 :: t) 0 = 92 := rfl
          rcases t with _ | ⟨b, t⟩
          · have HR : Hid (retF [92] (fsT [92]) = .tuple #[.agg (gpC gp0), .int .i64 0]) := Lib.hid rfl
            clear hc0 hlen n63 n42 n91
            go_enter Try.func29, Try.ntmps29
            go_upto_region 1 with fail
            rw [← hw1, ← hQ]
            clear hw1 hQ
            go_wp2_with (first | (refine wpG_store rfl (.tmp 2) (.tmp 37) rfl Q rfl gp0 gp0 rfl HX1.out ?_) | (refine end_ret (gp_result2 rfl _ Q rfl (.int .i64 0) rfl gp0 (HX1.out.put _)) ?_))
            exact ⟨by rw [HR.out], FIN.out _ HB1.out _⟩
          · have HR : Hid (retF (92 :: b :: t) (fsT (92 :: b :: t)) = .tuple #[.agg (gpC (gpOne b)), .int .i64 2]) := Lib.hid (by
              rw [fsT_esc]; simp only [retF]; rw [gpOf_one, show (((92 :: b :: t).length : Nat) : Int) - (t.length : Int) = 2 from by simp; omega])
            have HONB := Lib.hid (fun w => one_any b w)
            have hc1 : bn (92 :: b :: t) 1 = (b.toNat : Int) := bn_one 92 b t
            have i1 : (1 : Int) < (t.length : Int) + 1 + 1 := by omega
            clear hc0 hlen n63 n42 n91
            go_enter Try.func29, Try.ntmps29
            go_upto_region 1 with fail
            rw [← hw1, ← hQ]
            clear hw1 hQ
            go_wp2_with (first | (go_at_call 36; refine (HONB.out _).mono ?_; rintro e w7 ⟨rfl, hb7⟩; have HB7 := Lib.hid hb7; clear hb7) | (refine wpG_store rfl (.tmp 2) (.tmp 36) rfl Q rfl gp0 (gpOne b) rfl (HX1.out.below HB7.out) ?_) | (refine end_ret (gp_result2 rfl _ Q rfl (.int .i64 2) rfl (gpOne b) (Gx.put (p := gp0) (HX1.out.below HB7.out) _)) ?_))
            exact ⟨by rw [HR.out], FIN.out _ (bthen HB1.out HB7.out) _⟩
        · have n92 : ¬ (c.toNat : Int) = 92 := fun e => h92 (UInt8.toNat_inj.1 (by show c.toNat = 92; omega))
          have HR : Hid (retF (c :: t) (fsT (c :: t)) = .tuple #[.agg (gpC (gpOne c)), .int .i64 1]) := Lib.hid (by rw [fsT_one t h42 h63 h92 h91]; simp only [retF]; rw [gpOf_one, hlen])
          clear hlen h63 h42 h91 h92
          go_enter Try.func29, Try.ntmps29
          go_upto_region 1 with fail
          rw [← hw1, ← hQ]
          clear hw1 hQ
          go_wp2_with (first | (go_at_call 36; refine (HONE.out _).mono ?_; rintro e w7 ⟨rfl, hb7⟩; have HB7 := Lib.hid hb7; clear hb7) | (refine wpG_store rfl (.tmp 2) (.tmp 29) rfl Q rfl gp0 (gpOne c) rfl (HX1.out.below HB7.out) ?_) | (refine end_ret (gp_result2 rfl _ Q rfl (.int .i64 1) rfl (gpOne c) (Gx.put (p := gp0) (HX1.out.below HB7.out) _)) ?_))
          exact ⟨by rw [HR.out], FIN.out _ (bthen HB1.out HB7.out) _⟩
end Go.Proofs.Ytmcgjkhbljdddaa
