/-
  The document's askFault at the kinds that name 'nad' (by gen/mkaskfault.py).
-/
import Derived.Test.YtelfnlocgknpjaaMRefAsk
namespace Go.Proofs.Ytelfnlocgknpjaa
open Go.RowKit
set_option linter.unusedVariables false
set_option linter.unusedSimpArgs false

set_option maxRecDepth 100000 in
set_option maxHeartbeats 32000000 in
theorem askFault_D (kd mrk : Int) (p q : Byt) (how han a c : Int) (D : Option Addr) (m d : Nat) (zs : List Int) (w : World) (v : Int) (hm : zs.length = m) (hk : 1 ≤ kd ∧ kd ≤ 10) (hg : ∀ ww, Calls Try.prog 32 #[.int .i64 kd] ww fun e w' => e = .returned (.string (tx [110, 97, 100])) ∧ Below ww.heap.size ww w')
    (hv : v = if p ≠ [] ∨ q ≠ [] ∨ how ≠ 0 ∨ c ≠ 0 then 4 else chkT [ckN 1 kd, ckN 4 mrk, (ckN 4 han), (ckN 4 a), (if 100 < zs.length then 1 else 0)]) :
    Calls Try.prog 30 #[.agg #[.int .i64 kd, .int .i64 mrk, .string (tx p), .string (tx q), .int .i64 how, .int .i64 han, .int .i64 a, .int .i64 c, .slice D m d]] w fun e w' => e = .returned (.int .i64 v) ∧ Below w.heap.size w w' := by
  have HV := Lib.hid hv
  have HML := Lib.hid hm
  obtain ⟨w1, hw1⟩ : ∃ w1, w1 = w.alloc (.cells #[.int .i64 kd, .int .i64 mrk, .string (tx p), .string (tx q), .int .i64 how, .int .i64 han, .int .i64 a, .int .i64 c, .slice D m d] 24) := ⟨_, rfl⟩
  obtain ⟨B, hB⟩ : ∃ B, B = w.heap.size := ⟨_, rfl⟩
  have HB1 : Hid (Below w.heap.size w w1) := Lib.hid (by rw [hw1]; exact ba1 _ _)
  have HX : Hid (Bx 24 w1 B #[.int .i64 kd, .int .i64 mrk, .string (tx p), .string (tx q), .int .i64 how, .int .i64 han, .int .i64 a, .int .i64 c, .slice D m d]) := Lib.hid (by rw [hw1, hB]; exact bx_new _ _ _)
  have HM := Lib.hid hg
  have CK : Hid (ckN 1 kd = 0) := Lib.hid (if_neg (by omega))
  have g0 : ¬ kd < 1 := by omega
  have g1 : ¬ 10 < kd := by omega
  obtain ⟨lb, b0, b1, b2, b3, b4, b5, b6, b7, b8, -⟩ := HX.out.cells9
  have hub : ∀ b : Bool, some undef = some (Value.bool b) → False := fun b h => by injection h with h; cases h
  clear hm hv hg hk
  have Hp := Lib.hid (fun ww => has_at [110, 97, 100] 112 false ww (by decide) (by decide))
  have Ht := Lib.hid (fun ww => has_at [110, 97, 100] 116 false ww (by decide) (by decide))
  have Hh := Lib.hid (fun ww => has_at [110, 97, 100] 104 false ww (by decide) (by decide))
  have Hn := Lib.hid (fun ww => has_at [110, 97, 100] 110 true ww (by decide) (by decide))
  have Ha := Lib.hid (fun ww => has_at [110, 97, 100] 97 true ww (by decide) (by decide))
  have Hc := Lib.hid (fun ww => has_at [110, 97, 100] 99 false ww (by decide) (by decide))
  have Hd := Lib.hid (fun ww => has_at [110, 97, 100] 100 true ww (by decide) (by decide))
  have F0 := Lib.hid (fun ww => ffour_ok 0 ww (by omega))
  go_enter Try.func30, Try.ntmps30
  go_upto_region 1 with fail
  rw [← hw1, ← hB]
  clear hw1 hB
  go_upto_region 4 with (go_at_call 32; (with_reducible refine (HM.out w1).mono ?_); rintro e w2 ⟨rfl, hb2⟩; have HB2 := Lib.hid hb2; obtain ⟨lb, b0, b1, b2, b3, b4, b5, b6, b7, b8, -⟩ := (HX.out.below hb2).cells9; clear hb2)
  have HBW : Hid (Below w.heap.size w w2) := Lib.hid (bthen HB1.out HB2.out)
  obtain ⟨vp, hvp⟩ : ∃ vp, vp = Value.string (tx p) := ⟨_, rfl⟩
  have NEp : Hid (∀ ww : World, (binOp .neq 9 vp (.string { data := #[] })).run Try.prog ww = .ok (.bool (!p.isEmpty)) ww) := Lib.hid (by rw [hvp]; exact neq_empty p)
  have NGp : Hid (∀ (x y : Operand) (ww : World), (eqGuard .neq 9 x y vp (.string { data := #[] })).run Try.prog ww = .ok () ww) := Lib.hid (by rw [hvp]; exact eg_empty p)
  have b2' : w2.cell? ⟨B, 2, none⟩ = some vp := by rw [hvp]; exact b2
  have HVp := Lib.hid hvp
  clear b2 hvp
  obtain ⟨vq, hvq⟩ : ∃ vq, vq = Value.string (tx q) := ⟨_, rfl⟩
  have NEq : Hid (∀ ww : World, (binOp .neq 9 vq (.string { data := #[] })).run Try.prog ww = .ok (.bool (!q.isEmpty)) ww) := Lib.hid (by rw [hvq]; exact neq_empty q)
  have NGq : Hid (∀ (x y : Operand) (ww : World), (eqGuard .neq 9 x y vq (.string { data := #[] })).run Try.prog ww = .ok () ww) := Lib.hid (by rw [hvq]; exact eg_empty q)
  have b3' : w2.cell? ⟨B, 3, none⟩ = some vq := by rw [hvq]; exact b3
  have HVq := Lib.hid hvq
  clear b3 hvq
  by_cases u0 : p = []
  rotate_left
  · have UU := Lib.hid u0
    rw [show p.isEmpty = false from by simpa using u0] at NEp
    clear u0
    have HR : Hid (v = 4) := Lib.hid (by rw [HV.out]; exact if_pos (.inl UU.out))
    go_wp2_with (first | (go_at_call 47; first | ((with_reducible refine (Hp.out _).mono ?_); rintro e wq ⟨rfl, rfl⟩) | ((with_reducible refine (Ht.out _).mono ?_); rintro e wq ⟨rfl, rfl⟩) | ((with_reducible refine (Hh.out _).mono ?_); rintro e wq ⟨rfl, rfl⟩) | ((with_reducible refine (Hn.out _).mono ?_); rintro e wq ⟨rfl, rfl⟩) | ((with_reducible refine (Ha.out _).mono ?_); rintro e wq ⟨rfl, rfl⟩) | ((with_reducible refine (Hc.out _).mono ?_); rintro e wq ⟨rfl, rfl⟩) | ((with_reducible refine (Hd.out _).mono ?_); rintro e wq ⟨rfl, rfl⟩)) | (rw [NGp.out]; simp only [Result.andThen]; rw [NEp.out]; simp only [Result.andThen]; rw [Oper.upon_value]) | (rw [NGq.out]; simp only [Result.andThen]; rw [NEq.out]; simp only [Result.andThen]; rw [Oper.upon_value]))
    go_ret
    exact ⟨by rw [HR.out]; rfl, HBW.out⟩
  have Up := Lib.hid u0
  rw [show p.isEmpty = true from by rw [u0]; rfl] at NEp
  clear u0
  by_cases u1 : q = []
  rotate_left
  · have UU := Lib.hid u1
    rw [show q.isEmpty = false from by simpa using u1] at NEq
    clear u1
    have HR : Hid (v = 4) := Lib.hid (by rw [HV.out]; exact if_pos (.inr (.inl UU.out)))
    go_wp2_with (first | (go_at_call 47; first | ((with_reducible refine (Hp.out _).mono ?_); rintro e wq ⟨rfl, rfl⟩) | ((with_reducible refine (Ht.out _).mono ?_); rintro e wq ⟨rfl, rfl⟩) | ((with_reducible refine (Hh.out _).mono ?_); rintro e wq ⟨rfl, rfl⟩) | ((with_reducible refine (Hn.out _).mono ?_); rintro e wq ⟨rfl, rfl⟩) | ((with_reducible refine (Ha.out _).mono ?_); rintro e wq ⟨rfl, rfl⟩) | ((with_reducible refine (Hc.out _).mono ?_); rintro e wq ⟨rfl, rfl⟩) | ((with_reducible refine (Hd.out _).mono ?_); rintro e wq ⟨rfl, rfl⟩)) | (rw [NGp.out]; simp only [Result.andThen]; rw [NEp.out]; simp only [Result.andThen]; rw [Oper.upon_value]) | (rw [NGq.out]; simp only [Result.andThen]; rw [NEq.out]; simp only [Result.andThen]; rw [Oper.upon_value]))
    go_ret
    exact ⟨by rw [HR.out]; rfl, HBW.out⟩
  have Uq := Lib.hid u1
  rw [show q.isEmpty = true from by rw [u1]; rfl] at NEq
  clear u1
  by_cases u2 : how = 0
  rotate_left
  · have UU := Lib.hid u2
    have e2 : (how == 0) = false := by simpa using u2
    have e3 : (how != 0) = true := by simpa using u2
    clear u2
    have HR : Hid (v = 4) := Lib.hid (by rw [HV.out]; exact if_pos (.inr (.inr (.inl UU.out))))
    go_wp2_with (first | (go_at_call 47; first | ((with_reducible refine (Hp.out _).mono ?_); rintro e wq ⟨rfl, rfl⟩) | ((with_reducible refine (Ht.out _).mono ?_); rintro e wq ⟨rfl, rfl⟩) | ((with_reducible refine (Hh.out _).mono ?_); rintro e wq ⟨rfl, rfl⟩) | ((with_reducible refine (Hn.out _).mono ?_); rintro e wq ⟨rfl, rfl⟩) | ((with_reducible refine (Ha.out _).mono ?_); rintro e wq ⟨rfl, rfl⟩) | ((with_reducible refine (Hc.out _).mono ?_); rintro e wq ⟨rfl, rfl⟩) | ((with_reducible refine (Hd.out _).mono ?_); rintro e wq ⟨rfl, rfl⟩)) | (rw [NGp.out]; simp only [Result.andThen]; rw [NEp.out]; simp only [Result.andThen]; rw [Oper.upon_value]) | (rw [NGq.out]; simp only [Result.andThen]; rw [NEq.out]; simp only [Result.andThen]; rw [Oper.upon_value]))
    go_ret
    exact ⟨by rw [HR.out]; rfl, HBW.out⟩
  subst u2
  by_cases u3 : c = 0
  rotate_left
  · have UU := Lib.hid u3
    have e2 : (c == 0) = false := by simpa using u3
    have e3 : (c != 0) = true := by simpa using u3
    clear u3
    have HR : Hid (v = 4) := Lib.hid (by rw [HV.out]; exact if_pos (.inr (.inr (.inr UU.out))))
    go_wp2_with (first | (go_at_call 47; first | ((with_reducible refine (Hp.out _).mono ?_); rintro e wq ⟨rfl, rfl⟩) | ((with_reducible refine (Ht.out _).mono ?_); rintro e wq ⟨rfl, rfl⟩) | ((with_reducible refine (Hh.out _).mono ?_); rintro e wq ⟨rfl, rfl⟩) | ((with_reducible refine (Hn.out _).mono ?_); rintro e wq ⟨rfl, rfl⟩) | ((with_reducible refine (Ha.out _).mono ?_); rintro e wq ⟨rfl, rfl⟩) | ((with_reducible refine (Hc.out _).mono ?_); rintro e wq ⟨rfl, rfl⟩) | ((with_reducible refine (Hd.out _).mono ?_); rintro e wq ⟨rfl, rfl⟩)) | (rw [NGp.out]; simp only [Result.andThen]; rw [NEp.out]; simp only [Result.andThen]; rw [Oper.upon_value]) | (rw [NGq.out]; simp only [Result.andThen]; rw [NEq.out]; simp only [Result.andThen]; rw [Oper.upon_value]))
    go_ret
    exact ⟨by rw [HR.out]; rfl, HBW.out⟩
  subst u3
  have HN : Hid (¬ (p ≠ [] ∨ q ≠ [] ∨ (0 : Int) ≠ 0 ∨ (0 : Int) ≠ 0)) := Lib.hid (by simp [Up.out, Uq.out])
  go_upto_region 6 with (first | (go_at_call 47; first | ((with_reducible refine (Hp.out _).mono ?_); rintro e wq ⟨rfl, rfl⟩) | ((with_reducible refine (Ht.out _).mono ?_); rintro e wq ⟨rfl, rfl⟩) | ((with_reducible refine (Hh.out _).mono ?_); rintro e wq ⟨rfl, rfl⟩) | ((with_reducible refine (Hn.out _).mono ?_); rintro e wq ⟨rfl, rfl⟩) | ((with_reducible refine (Ha.out _).mono ?_); rintro e wq ⟨rfl, rfl⟩) | ((with_reducible refine (Hc.out _).mono ?_); rintro e wq ⟨rfl, rfl⟩) | ((with_reducible refine (Hd.out _).mono ?_); rintro e wq ⟨rfl, rfl⟩)) | (rw [NGp.out]; simp only [Result.andThen]; rw [NEp.out]; simp only [Result.andThen]; rw [Oper.upon_value]) | (rw [NGq.out]; simp only [Result.andThen]; rw [NEq.out]; simp only [Result.andThen]; rw [Oper.upon_value]))
  have b2 := b2'
  rw [HVp.out, Up.out] at b2
  clear b2'
  have b3 := b3'
  rw [HVq.out, Uq.out] at b3
  clear b3'
  -- TAIL
  by_cases rM : 0 ≤ mrk ∧ mrk ≤ 4294967295
  rotate_left
  · have FBM := Lib.hid (fun ww => ffour_no mrk ww (by omega))
    have CB : Hid (ckN 4 mrk = 2) := Lib.hid (if_pos (by omega))
    clear rM
    have HR : Hid (v = 2) := Lib.hid (by rw [HV.out]; rw [if_neg HN.out]; exact chk_bad (by simp [CB.out]))
    go_wp2_with (go_at_call 48; first | ((with_reducible refine (F0.out _).mono ?_); rintro e wq ⟨rfl, rfl⟩) | ((with_reducible refine (FBM.out _).mono ?_); rintro e wq ⟨rfl, rfl⟩))
    go_ret
    exact ⟨by rw [HR.out]; rfl, HBW.out⟩
  have FGM := Lib.hid (fun ww => ffour_ok mrk ww rM)
  have CM : Hid (ckN 4 mrk = 0) := Lib.hid (if_neg (by omega))
  clear rM
  by_cases rn : 0 ≤ han ∧ han ≤ 4294967295
  rotate_left
  · have FBn := Lib.hid (fun ww => ffour_no han ww (by omega))
    have CB : Hid (ckN 4 han = 2) := Lib.hid (if_pos (by omega))
    clear rn
    have HR : Hid (v = 2) := Lib.hid (by rw [HV.out]; rw [if_neg HN.out]; exact chk_bad (by simp [CB.out]))
    go_wp2_with (go_at_call 48; first | ((with_reducible refine (F0.out _).mono ?_); rintro e wq ⟨rfl, rfl⟩) | ((with_reducible refine (FGM.out _).mono ?_); rintro e wq ⟨rfl, rfl⟩) | ((with_reducible refine (FBn.out _).mono ?_); rintro e wq ⟨rfl, rfl⟩))
    go_ret
    exact ⟨by rw [HR.out]; rfl, HBW.out⟩
  have FGn := Lib.hid (fun ww => ffour_ok han ww rn)
  have Cn : Hid (ckN 4 han = 0) := Lib.hid (if_neg (by omega))
  clear rn
  by_cases ra : 0 ≤ a ∧ a ≤ 4294967295
  rotate_left
  · have FBa := Lib.hid (fun ww => ffour_no a ww (by omega))
    have CB : Hid (ckN 4 a = 2) := Lib.hid (if_pos (by omega))
    clear ra
    have HR : Hid (v = 2) := Lib.hid (by rw [HV.out]; rw [if_neg HN.out]; exact chk_bad (by simp [CB.out]))
    go_wp2_with (go_at_call 48; first | ((with_reducible refine (F0.out _).mono ?_); rintro e wq ⟨rfl, rfl⟩) | ((with_reducible refine (FGM.out _).mono ?_); rintro e wq ⟨rfl, rfl⟩) | ((with_reducible refine (FGn.out _).mono ?_); rintro e wq ⟨rfl, rfl⟩) | ((with_reducible refine (FBa.out _).mono ?_); rintro e wq ⟨rfl, rfl⟩))
    go_ret
    exact ⟨by rw [HR.out]; rfl, HBW.out⟩
  have FGa := Lib.hid (fun ww => ffour_ok a ww ra)
  have Ca : Hid (ckN 4 a = 0) := Lib.hid (if_neg (by omega))
  clear ra
  by_cases sd : (100 : Int) < (m : Int)
  · have CB : Hid (100 < zs.length) := Lib.hid (by have := HML.out; omega)
    have HR : Hid (v = 1) := Lib.hid (by rw [HV.out]; rw [if_neg HN.out]; exact chk_one (by simp [CB.out]) (by simp [CK.out, CM.out, Cn.out, Ca.out]; repeat' split; all_goals simp))
    go_wp2_with (go_at_call 48; first | ((with_reducible refine (F0.out _).mono ?_); rintro e wq ⟨rfl, rfl⟩) | ((with_reducible refine (FGM.out _).mono ?_); rintro e wq ⟨rfl, rfl⟩) | ((with_reducible refine (FGn.out _).mono ?_); rintro e wq ⟨rfl, rfl⟩) | ((with_reducible refine (FGa.out _).mono ?_); rintro e wq ⟨rfl, rfl⟩))
    go_ret
    exact ⟨by rw [HR.out]; rfl, HBW.out⟩
  have CSd : Hid (¬ 100 < zs.length) := Lib.hid (by have := HML.out; omega)
  have HR : Hid (v = 0) := Lib.hid (by rw [HV.out]; rw [if_neg HN.out]; simp [chkT, CK.out, CM.out, Cn.out, Ca.out, CSd.out])
  go_wp2_with (go_at_call 48; first | ((with_reducible refine (F0.out _).mono ?_); rintro e wq ⟨rfl, rfl⟩) | ((with_reducible refine (FGM.out _).mono ?_); rintro e wq ⟨rfl, rfl⟩) | ((with_reducible refine (FGn.out _).mono ?_); rintro e wq ⟨rfl, rfl⟩) | ((with_reducible refine (FGa.out _).mono ?_); rintro e wq ⟨rfl, rfl⟩))
  go_ret
  exact ⟨by rw [HR.out]; rfl, HBW.out⟩

end Go.Proofs.Ytelfnlocgknpjaa
