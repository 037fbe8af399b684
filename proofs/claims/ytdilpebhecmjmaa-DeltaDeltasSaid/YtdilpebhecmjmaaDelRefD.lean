/-
  The document's DeltaOf.
-/
import Derived.Test.YtdilpebhecmjmaaDelDelta
import Derived.Test.YtdilpebhecmjmaaDelBackMath
namespace Go.Proofs.Ytdilpebhecmjmaa
open Go.RowKit
set_option linter.unusedVariables false
set_option linter.unusedSimpArgs false

/-- whether the next byte that is told begins a piece -/
def freshT (l : List Pc) : Bool := match l.getLast? with | some p => p.copy | none => true
theorem fresh_app (l : List Pc) (p : Pc) : freshT (l ++ [p]) = p.copy := by unfold freshT; simp
theorem fresh_tell (l : List Pc) (b : Int) : freshT (tellT l b) = false := by
  rcases tellT_cases l b with e | ⟨l0, p, rfl, hc, e⟩
  · rw [e, fresh_app]
  · rw [e, fresh_app]; exact hc
theorem tell_fresh {l : List Pc} (h : freshT l = true) (b : Int) : tellT l b = l ++ [⟨false, 0, 0, [b]⟩] := by
  rcases List.eq_nil_or_concat l with rfl | ⟨l0, x, rfl⟩
  · rfl
  · rw [List.concat_eq_append] at h ⊢
    rw [fresh_app] at h
    unfold tellT; simp [h]
theorem tell_same {l : List Pc} (h : freshT l = false) : ∃ l0 p, l = l0 ++ [p] ∧ p.copy = false := by
  rcases List.eq_nil_or_concat l with rfl | ⟨l0, x, rfl⟩
  · simp [freshT] at h
  · rw [List.concat_eq_append] at h ⊢
    rw [fresh_app] at h
    exact ⟨l0, x, rfl, h⟩

theorem refD_size (A : Option Addr) (n c : Nat) (B : Option Addr) (m d : Nat) (w : World) (h : 2048 < n ∨ 2048 < m) :
    Calls Try.prog 9 #[.slice A n c, .slice B m d] w fun e w' => e = .returned (.tuple #[.slice none 0 0, .int .i64 1]) ∧ Below w.heap.size w w' := by
  by_cases h1 : 2048 < n
  · have h2 : (2048 : Int) < (n : Int) := by omega
    go_enter Try.func9, Try.ntmps9
    go_wp2
    go_ret2
    exact ⟨rfl, Below.refl _ _⟩
  · have h2 : ¬ (2048 : Int) < (n : Int) := by omega
    have h3 : (2048 : Int) < (m : Int) := by omega
    go_enter Try.func9, Try.ntmps9
    go_wp2
    go_ret2
    exact ⟨rfl, Below.refl _ _⟩
/-- how far the walk has come -/
def RdX (w0 : World) (old now : List Int) (m : Nat) (R : List Pc) (lv fv i : Value) (wr : World) : Prop :=
  ∃ (k q : Nat) (A : Option Addr) (c : Nat) (l : List Pv), k ≤ m ∧ i = .int .i64 k ∧ lv = .slice A q c ∧ fv = .bool (freshT (l.map Pv.p)) ∧ PL wr w0.heap.size A q c l ∧ goT old (now.drop k) (l.map Pv.p) = R ∧ (l.map Pv.p).length ≤ k ∧ (∀ p ∈ l.map Pv.p, p.data.length ≤ k) ∧ Below w0.heap.size w0 wr
/-- how many places have been tried -/
def RiX (wo : World) (old b : List Int) (n : Nat) (fv mv i : Value) (wr : World) : Prop :=
  ∃ k f mm : Nat, k ≤ n ∧ i = .int .i64 k ∧ fv = .int .i64 f ∧ mv = .int .i64 mm ∧ (f, mm) = bestT old b k ∧ Below wo.heap.size wo wr
/-- how many bytes are the same -/
def RnX (wo : World) (R : Nat) (i : Value) (wr : World) : Prop := ∃ t : Nat, t ≤ R ∧ i = .int .i64 t ∧ Below wo.heap.size wo wr

set_option maxRecDepth 100000 in
set_option maxHeartbeats 32000000 in
theorem refD_ok (A : Option Addr) (n c : Nat) (B : Option Addr) (m d : Nat) (old now : List Int) (w : World) (ha : Ls byS w A old) (hn : old.length = n)
    (hB : Ls byS w B now) (hm : now.length = m) (h1 : n ≤ 2048) (h2 : m ≤ 2048) :
    Calls Try.prog 9 #[.slice A n c, .slice B m d] w (RetDl w (deltaT old now)) := by
  obtain ⟨R, hR⟩ : ∃ R, R = deltaT old now := ⟨_, rfl⟩
  rw [← hR]
  have HR := Lib.hid hR
  have HA := Lib.hid ha
  have HN := Lib.hid hn
  have HB := Lib.hid hB
  have HM := Lib.hid hm
  have k1 : ¬ (2048 : Int) < (n : Int) := by omega
  have k2 : ¬ (2048 : Int) < (m : Int) := by omega
  clear ha hn hB hm hR
  go_enter Try.func9, Try.ntmps9
  go_wp2
  go_loopw [6, 7, 8] (fun lv fv i wr => RdX w old now m R lv fv i wr) (fun _ _ i _ => m - (intOf i).toNat)
  case atStart => exact ⟨0, 0, none, 0, [], Nat.zero_le _, rfl, rfl, rfl, PL.nil _ _, HR.out.symm, Nat.le_refl _, by simp, Below.refl _ _⟩
  case round =>
    obtain ⟨k, q, A1, c1, l, hk, rfl, rfl, rfl, hpl, hgo, hf1, hf2, hbw⟩ := hrel
    have HP := Lib.hid hpl
    have HGO := Lib.hid hgo
    have HF1 := Lib.hid hf1
    have HF2 := Lib.hid hf2
    have HBW := Lib.hid hbw
    have hql : l.length = q := hpl.row.1
    have hqk : q ≤ k := by rw [← hql]; simpa using hf1
    obtain ⟨fr, hfr⟩ : ∃ fr, fr = freshT (l.map Pv.p) := ⟨_, rfl⟩
    have HFR := Lib.hid hfr
    rw [← hfr]
    clear hpl hgo hf1 hf2 hbw hql hfr
    by_cases hlt : k < m
    · have hki : (k : Int) < (m : Int) := by omega
      obtain ⟨wo, rfl⟩ : ∃ wo, wo = wr := ⟨_, rfl⟩
      obtain ⟨b, hb⟩ : ∃ b, b = now.drop k := ⟨_, rfl⟩
      have HBL : Hid (b.length = m - k) := Lib.hid (by rw [hb, List.length_drop, HM.out])
      have HBG : Hid (∀ t, b[t]? = now[k + t]?) := Lib.hid fun t => by rw [hb, List.getElem?_drop]
      have HBD := Lib.hid hb
      clear hb
      go_wp2
      go_loopw [9, 10, 11] (fun fv mv i wr => RiX wo old b n fv mv i wr) (fun _ _ i _ => n - (intOf i).toNat)
      case atStart => exact ⟨0, 0, 0, Nat.zero_le _, rfl, rfl, rfl, rfl, Below.refl _ _⟩
      case round =>
        obtain ⟨i, f, mm, hin, rfl, rfl, rfl, hfm, hbi⟩ := hrel
        have HFM := Lib.hid hfm
        have HBI := Lib.hid hbi
        clear hfm hbi
        by_cases hi : i < n
        · have hii : (i : Int) < (n : Int) := by omega
          obtain ⟨wi, rfl⟩ : ∃ wi, wi = wr := ⟨_, rfl⟩
          obtain ⟨Q, hQ⟩ : ∃ Q, Q = alikeT (old.drop i) b := ⟨_, rfl⟩
          have HQ := Lib.hid hQ
          have HQ1 : Hid (Q ≤ n - i) := Lib.hid (by rw [hQ, ← HN.out, ← List.length_drop]; exact alikeT_le1 _ _)
          clear hQ
          go_wp2
          go_loopw [12] (fun t wr => RnX wi Q t wr) (fun t _ => Q - (intOf t).toNat)
          case atStart => exact ⟨0, Nat.zero_le _, rfl, Below.refl _ _⟩
          case round =>
            obtain ⟨t, ht, rfl, hbt⟩ := hrel
            have HBT := Lib.hid hbt
            have HST : Hid _ := Lib.hid (alikeT_step (old.drop i) b t (by rw [← HQ.out]; exact ht))
            rw [← HQ.out] at HST
            have hq1 := HQ1.out
            have hwi1 : IntKind.i64.wrap ((i : Int) + (t : Int)) = (i : Int) + (t : Int) := by rw [IntKind.wrap_i64]; omega
            have hwi2 : IntKind.i64.wrap ((k : Int) + (t : Int)) = (k : Int) + (t : Int) := by rw [IntKind.wrap_i64]; omega
            clear hbt
            by_cases g1 : i + t < n
            · have g1i : (i : Int) + (t : Int) < (n : Int) := by omega
              have g1p : (0 : Int) ≤ (i : Int) + (t : Int) := by omega
              obtain ⟨x, hx⟩ : ∃ x, old[i + t]? = some x := ⟨_, List.getElem?_eq_getElem (by rw [HN.out]; exact g1)⟩
              by_cases g2 : k + t < m
              · have g2i : (k : Int) + (t : Int) < (m : Int) := by omega
                have g2p : (0 : Int) ≤ (k : Int) + (t : Int) := by omega
                obtain ⟨y, hy⟩ : ∃ y, now[k + t]? = some y := ⟨_, List.getElem?_eq_getElem (by rw [HM.out]; exact g2)⟩
                have HWB := Lib.hid (bthen (bthen HBW.out HBI.out) HBT.out)
                obtain ⟨b1, o1, rfl, hl1, q1⟩ := (HA.out.below HWB.out).one (i + t) x hx rfl (.int .u8 x) rfl
                obtain ⟨b2, o2, rfl, hl2, q2⟩ := (HB.out.below HWB.out).one (k + t) y hy rfl (.int .u8 y) rfl
                by_cases hxy : x = y
                · have hlt2 : t < Q := HST.out.1 x y (by rw [List.getElem?_drop]; exact hx) (by rw [HBG.out]; exact hy) hxy
                  subst hxy
                  clear hx hy
                  go_wp2
                  go_quiet (fail)
                  go_wp2
                  exact ⟨⟨t + 1, by omega, by first | rfl | go_num, below_drewN HBT.out _⟩, by simp [intOf]; omega⟩
                · have heq : Q = t := HST.out.2 (.inr (.inr (by rw [List.getElem?_drop, hx, HBG.out, hy]; simpa using hxy)))
                  have hxb : (x == y) = false := by simpa using hxy
                  clear hx hy
                  have HEQ := Lib.hid heq
                  clear heq
                  by_cases hmt : mm < t
                  · have hmi : (mm : Int) < (t : Int) := by omega
                    have HE : Hid ((i, t) = bestT old b (i + 1)) := Lib.hid (by rw [bestT, ← HFM.out, ← HQ.out, HEQ.out, if_pos hmt])
                    clear hmt
                    go_wp2
                    go_quiet (fail)
                    go_wp2
                    exact ⟨⟨i + 1, i, t, by omega, by first | rfl | go_num, rfl, rfl, HE.out, bthen HBI.out (below_drewN HBT.out _)⟩, by simp [intOf]; omega⟩
                  · have hmi : ¬ (mm : Int) < (t : Int) := by omega
                    have HE : Hid ((f, mm) = bestT old b (i + 1)) := Lib.hid (by rw [bestT, ← HFM.out, ← HQ.out, HEQ.out, if_neg hmt])
                    clear hmt
                    go_wp2
                    go_quiet (fail)
                    go_wp2
                    exact ⟨⟨i + 1, f, mm, by omega, by first | rfl | go_num, rfl, rfl, HE.out, bthen HBI.out (below_drewN HBT.out _)⟩, by simp [intOf]; omega⟩
              · have g2d : decide ((k : Int) + (t : Int) < (m : Int)) = false := by simp; omega
                have heq : Q = t := HST.out.2 (.inr (.inl (List.getElem?_eq_none (by rw [HBL.out]; omega))))
                clear hx
                have HEQ := Lib.hid heq
                clear heq
                by_cases hmt : mm < t
                · have hmi : (mm : Int) < (t : Int) := by omega
                  have HE : Hid ((i, t) = bestT old b (i + 1)) := Lib.hid (by rw [bestT, ← HFM.out, ← HQ.out, HEQ.out, if_pos hmt])
                  clear hmt
                  go_wp2
                  go_quiet (fail)
                  go_wp2
                  exact ⟨⟨i + 1, i, t, by omega, by first | rfl | go_num, rfl, rfl, HE.out, bthen HBI.out (below_drewN HBT.out _)⟩, by simp [intOf]; omega⟩
                · have hmi : ¬ (mm : Int) < (t : Int) := by omega
                  have HE : Hid ((f, mm) = bestT old b (i + 1)) := Lib.hid (by rw [bestT, ← HFM.out, ← HQ.out, HEQ.out, if_neg hmt])
                  clear hmt
                  go_wp2
                  go_quiet (fail)
                  go_wp2
                  exact ⟨⟨i + 1, f, mm, by omega, by first | rfl | go_num, rfl, rfl, HE.out, bthen HBI.out (below_drewN HBT.out _)⟩, by simp [intOf]; omega⟩
            · have g1d : decide ((i : Int) + (t : Int) < (n : Int)) = false := by simp; omega
              have heq : Q = t := HST.out.2 (.inl (List.getElem?_eq_none (by rw [List.length_drop, HN.out]; omega)))
              have HEQ := Lib.hid heq
              clear heq
              by_cases hmt : mm < t
              · have hmi : (mm : Int) < (t : Int) := by omega
                have HE : Hid ((i, t) = bestT old b (i + 1)) := Lib.hid (by rw [bestT, ← HFM.out, ← HQ.out, HEQ.out, if_pos hmt])
                clear hmt
                go_wp2
                go_quiet (fail)
                go_wp2
                exact ⟨⟨i + 1, i, t, by omega, by first | rfl | go_num, rfl, rfl, HE.out, bthen HBI.out (below_drewN HBT.out _)⟩, by simp [intOf]; omega⟩
              · have hmi : ¬ (mm : Int) < (t : Int) := by omega
                have HE : Hid ((f, mm) = bestT old b (i + 1)) := Lib.hid (by rw [bestT, ← HFM.out, ← HQ.out, HEQ.out, if_neg hmt])
                clear hmt
                go_wp2
                go_quiet (fail)
                go_wp2
                exact ⟨⟨i + 1, f, mm, by omega, by first | rfl | go_num, rfl, rfl, HE.out, bthen HBI.out (below_drewN HBT.out _)⟩, by simp [intOf]; omega⟩
        · obtain rfl : i = n := by omega
          have hii : ¬ (i : Int) < (i : Int) := by omega
          obtain ⟨wi, rfl⟩ : ∃ wi, wi = wr := ⟨_, rfl⟩
          have HWI := Lib.hid (bthen HBW.out HBI.out)
          have HPI := Lib.hid (HP.out.below HBI.out)
          have hbs := HWI.out.size
          by_cases h8 : 8 ≤ mm
          · have h8i : (8 : Int) ≤ (mm : Int) := by omega
            have hmo : mostT old b = (f, mm) := by
              unfold mostT
              rw [HN.out, ← HFM.out, if_pos h8]
            have HML := mostT_len old b
            rw [hmo, HBL.out] at HML
            simp only at HML
            obtain ⟨hnn1, -⟩ := HML
            have HG2 : Hid (goT old (now.drop (k + mm)) (l.map Pv.p ++ [⟨true, (f : Nat), (mm : Nat), []⟩]) = R) := Lib.hid (by
              have := goT_copy old b (l.map Pv.p) (by rw [hmo]; simp only; omega)
              rw [hmo, HBD.out, HGO.out] at this
              rw [this, List.drop_drop])
            have hwk : IntKind.i64.wrap ((k : Int) + (mm : Int)) = ((k + mm : Nat) : Int) := by rw [IntKind.wrap_i64]; omega
            have hf4 : f ≤ 4096 := by
              have := bestT_lt old b i
              rw [← HFM.out] at this
              simp only at this
              omega
            clear hmo
            go_wp2_with (at_builtin; refine wpList_appL (F := pcS) rfl _ (.tmp 70) (.tmp 74) 23 rfl _ 48 Try.underlying23 pcInfo rfl w.heap.size A1 q c1 l rfl (HPI.out.row.below (ba1 _ _)) (some ⟨wi.heap.size, 0, none⟩) 1 1 [⟨⟨true, (f : Nat), (mm : Nat), []⟩, none, 0, 0⟩] rfl (ls_new wi _ _ _ rfl _ rfl) rfl (q + 1) rfl (by omega) (by omega) (by simp; omega) ?_; intro A6 c6 w6 ho6 hb6 hs6; have HP6 := Lib.hid ((HPI.out.below (ba1 _ _)).app ⟨rfl, rfl, rfl, rfl⟩ ho6 hb6 hs6); have HB6 := Lib.hid hb6; clear ho6 hb6 hs6)
            refine ⟨⟨k + mm, q + 1, A6, c6, _, by omega, by first | rfl | go_num, rfl, by rw [List.map_append]; exact congrArg Value.bool ((fresh_app (l.map Pv.p) ⟨true, (f : Nat), (mm : Nat), []⟩).symm), HP6.out, by rw [List.map_append]; exact HG2.out, ?_, ?_, (bthen HWI.out (ba1 wi _)).trans HB6.out⟩, by simp [intOf]; omega⟩
            · have := HF1.out
              rw [List.map_append, List.length_append]
              simp only [List.length_map, List.length_cons, List.length_nil] at this ⊢
              omega
            · intro p hp
              rw [List.map_append] at hp
              rcases List.mem_append.1 hp with hp | hp
              · have := HF2.out p hp; omega
              · simp at hp; subst hp; simp
          · have h8i : ¬ (8 : Int) ≤ (mm : Int) := by omega
            have hmo : (mostT old b).2 = 0 := by
              unfold mostT
              rw [HN.out, ← HFM.out, if_neg h8]
            obtain ⟨z, hzk⟩ : ∃ z, now[k]? = some z := ⟨_, List.getElem?_eq_getElem (by rw [HM.out]; exact hlt)⟩
            have hdr : b = z :: now.drop (k + 1) := by
              rw [HBD.out]
              obtain ⟨h5, h6⟩ := List.getElem?_eq_some_iff.1 hzk
              rw [List.drop_eq_getElem_cons h5, h6]
            have HG2 : Hid (goT old (now.drop (k + 1)) (tellT (l.map Pv.p) z) = R) := Lib.hid (by
              rw [← HGO.out, ← HBD.out, hdr, goT_tell _ _ _ _ (by rw [← hdr]; exact hmo)])
            have HFW := Lib.hid (tellT_few (l.map Pv.p) z k HF1.out HF2.out)
            have HLX : Hid (∀ x ∈ l, x.n ≤ 4096) := Lib.hid fun x hx => by
              have := HP.out.len x hx
              have := HF2.out x.p (List.mem_map_of_mem hx)
              omega
            have HTF := Lib.hid (fresh_tell (l.map Pv.p) z)
            obtain ⟨bB, oB, rfl, hbB, hcB⟩ := (HB.out.below HWI.out).one k z hzk rfl (.int .u8 z) rfl
            have hbl := HWI.out.size
            have HZK := Lib.hid hzk
            have HEND : Hid (∀ (A' : Option Addr) (N' c' : Nat) (l' : List Pv) (w' : World), l'.map Pv.p = tellT (l.map Pv.p) z → PL w' w.heap.size A' N' c' l' → Below w.heap.size w w' → RdX w old now m R (.slice A' N' c') (.bool false) (.int .i64 ((k : Int) + 1)) w') := Lib.hid fun A' N' c' l' w' e1 e2 e3 =>
              ⟨k + 1, N', A', c', l', by omega, by first | rfl | go_num, rfl, by rw [e1, HTF.out], e2, by rw [e1]; exact HG2.out, by rw [e1]; exact HFW.out.1, by rw [e1]; exact HFW.out.2, e3⟩
            clear hmo hzk hdr
            rcases fr with _ | _
            · obtain ⟨L0, p, hl0, hpc⟩ := tell_same HFR.out.symm
              obtain ⟨l0, x, rfl, hl1, rfl⟩ : ∃ l0 x, l = l0 ++ [x] ∧ L0 = l0.map Pv.p ∧ p = x.p := by
                rcases List.eq_nil_or_concat l with e | ⟨l0, x, e⟩
                · rw [e] at hl0; simp at hl0
                · rw [List.concat_eq_append] at e
                  rw [e, List.map_append] at hl0
                  have h5 := List.append_inj' hl0 rfl
                  have h6 := h5.2
                  simp at h6
                  exact ⟨l0, x, e, h5.1.symm, h6.symm⟩
              obtain ⟨m0, hm0⟩ : ∃ m0, m0 = l0.length := ⟨_, rfl⟩
              have hqm : q = m0 + 1 := by
                have := HP.out.row.1
                rw [List.length_append] at this
                simp at this; omega
              have HM0 := Lib.hid hm0
              have hwq : IntKind.i64.wrap ((q : Int) - 1) = (m0 : Int) := by rw [IntKind.wrap_i64]; omega
              have hmq : (m0 : Int) < (q : Int) := by omega
              have hm00 : (0 : Int) ≤ (m0 : Int) := by omega
              have hxn4 : x.n ≤ 4096 := HLX.out x (by simp)
              have HTL : Hid (tellT ((l0 ++ [x]).map Pv.p) z = l0.map Pv.p ++ [{ x.p with data := x.p.data ++ [z] }]) := Lib.hid (by rw [List.map_append]; exact tellT_old _ _ _ hpc)
              obtain ⟨g2, rfl, j1, j2, j3, j4⟩ := HPI.out.at_last HM0.out.symm
              obtain ⟨b3, o3, e3, hb3, hc3⟩ := (HB.out.below HWI.out).one k z HZK.out rfl (.int .u8 z) rfl
              injection e3 with e3
              injection e3 with e4 e5
              subst e4; subst e5
              have HEX : Hid (OwnL byS 5 wi w.heap.size x.A x.n x.c x.p.data) := Lib.hid (HPI.out.each x (by simp))
              obtain ⟨⟨cp, fr', ln, da⟩, XA, xn, xc⟩ := x
              simp only at hpc j3 j4 hxn4
              clear hm0 hqm hl0 hl1 HFM
              go_upto_region 26 with fail
              go_region_law (refine step_appL (F := byS) rfl _ (.tmp 93) (.tmp 98) 22 rfl _ 1 Try.underlying22 byInfo rfl w.heap.size XA xn xc da (by first | rfl | simp [Act.eval, Act.put]) ((HEX.out.below (Below.refl _ _).drew).below (ba1 _ _)) (some ⟨wi.heap.size, 0, none⟩) 1 1 [z] (by first | rfl | simp [Act.eval, Act.put]) (ls_new wi.drew _ [z] _ rfl _ rfl) rfl (xn + 1) rfl (by omega) (by omega) (by simp; omega) ?_; intro A8 c8 w8 ho8 hb8 hs8; obtain ⟨p1, p2, p3⟩ := HPI.out.put HM0.out.symm (bthen (Below.refl wi.heap.size wi).drew (ba1 wi.drew _)) ho8 hb8 hs8; have P1 := Lib.hid p1; have p2' : w8.cell? ⟨g2, m0 * 4 + 3, none⟩ = some (.slice XA xn xc) := p2; have HB8 := Lib.hid ((bthen (HWI.out.drew) (ba1 wi.drew _)).trans hb8); clear ho8 hb8 hs8 p1 p2)
              all_goals
                go_wp2_with fail
              all_goals
                exact ⟨HEND.out _ _ _ _ _ (by rw [HTL.out]; simp) P1.out (HB8.out.setCell j1 _), by simp [intOf]; omega⟩
            · have HTL : Hid (tellT (l.map Pv.p) z = l.map Pv.p ++ [⟨false, 0, 0, [z]⟩]) := Lib.hid (tell_fresh HFR.out.symm z)
              obtain ⟨N, hN⟩ : ∃ N, N = q + 1 := ⟨_, rfl⟩
              have hwN : IntKind.i64.wrap ((N : Int) - 1) = (q : Int) := by rw [IntKind.wrap_i64]; omega
              have hqN : (q : Int) < (N : Int) := by omega
              have hq0 : (0 : Int) ≤ (q : Int) := by omega
              have HNN := Lib.hid hN
              have hN5 : N ≤ 5000 := by omega
              have HLN : Hid (l.length = q) := Lib.hid HP.out.row.1
              clear hN
              go_upto_region 26 with (at_builtin; refine wpList_appL (F := pcS) rfl _ (.tmp 80) (.tmp 82) 23 rfl _ 48 Try.underlying23 pcInfo rfl w.heap.size A1 q c1 l rfl (HPI.out.row.below (ba1 _ _)) (some ⟨wi.heap.size, 0, none⟩) 1 1 [⟨⟨false, 0, 0, []⟩, none, 0, 0⟩] rfl (ls_new wi _ _ _ rfl _ rfl) rfl N HNN.out.symm (by omega) (by omega) (by simp; omega) ?_; intro A6 c6 w6 ho6 hb6 hs6; have HP6 := Lib.hid ((HPI.out.below (ba1 _ _)).app ⟨rfl, rfl, rfl, rfl⟩ ho6 hb6 hs6); have HB6 := Lib.hid ((bthen HWI.out (ba1 wi _)).trans hb6); clear ho6 hb6 hs6)
              obtain ⟨g2, rfl, j1, j2, j3, j4⟩ := HP6.out.at_last HLN.out
              obtain ⟨b3, o3, e3, hb3, hc3⟩ := (HB.out.below HB6.out).one k z HZK.out rfl (.int .u8 z) rfl
              injection e3 with e3
              injection e3 with e4 e5
              subst e4; subst e5
              have hbs6 := HB6.out.size
              go_region_law (refine step_appL (F := byS) rfl _ (.tmp 93) (.tmp 98) 22 rfl _ 1 Try.underlying22 byInfo rfl w.heap.size none 0 0 [] (by first | rfl | simp [Act.eval, Act.put]) (OwnL.nil _ _) (some ⟨w6.heap.size, 0, none⟩) 1 1 [z] (by first | rfl | simp [Act.eval, Act.put]) (ls_new w6.drew _ [z] _ rfl _ rfl) rfl 1 rfl (by omega) (by omega) (by simp; omega) ?_; intro A8 c8 w8 ho8 hb8 hs8; obtain ⟨p1, p2, p3⟩ := HP6.out.put HLN.out (bthen (Below.refl w6.heap.size w6).drew (ba1 w6.drew _)) ho8 hb8 hs8; have P1 := Lib.hid p1; have p2' : w8.cell? ⟨g2, q * 4 + 3, none⟩ = some (.slice none 0 0) := p2; have HB8 := Lib.hid ((bthen (HB6.out.drew) (ba1 w6.drew _)).trans hb8); clear ho8 hb8 hs8 p1 p2)
              all_goals
                go_wp2_with fail
              all_goals
                exact ⟨HEND.out _ _ _ _ _ (by rw [HTL.out]; simp) P1.out (HB8.out.setCell j1 _), by simp [intOf]; omega⟩
    · obtain rfl : k = m := by omega
      have hki : ¬ (k : Int) < (k : Int) := by omega
      have HE : Hid (l.map Pv.p = R) := Lib.hid (by
        have := HGO.out
        rw [List.drop_of_length_le (by rw [HM.out]; exact Nat.le_refl _), goT_nil] at this
        exact this)
      go_wp2
      go_ret2
      exact ⟨A1, q, c1, l, rfl, HP.out, HE.out, HBW.out⟩

end Go.Proofs.Ytdilpebhecmjmaa
