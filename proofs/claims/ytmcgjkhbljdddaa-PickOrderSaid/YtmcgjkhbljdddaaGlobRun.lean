/-
  The program's matching: parts in rows; allRuns, matches.
-/
import Derived.Test.YtmcgjkhbljdddaaGlobPart
namespace Go.Proofs.Ytmcgjkhbljdddaa
open Go.RowKit
set_option linter.unusedVariables false
set_option linter.unusedSimpArgs false

/-- a part is read whole, wherever it lies -/
theorem wpG_loadAt {ops : Array Oper} {rest : List Oper} {o : Oper} {a : Act} {w : World} {Q : Exit → Act → World → Prop} (hgd : o.guard = none) (x : Operand) (ho : o.op = .load 52 x) (b i : Nat) (hx : a.eval x = .pointer (some ⟨b, i, none⟩)) (p : Gp)
    (hp : ∀ j v, (gpL p)[j]? = some v → w.cell? ⟨b, i + j, none⟩ = some v)
    (h : wpList Try.prog ops Q rest (a.put o.dst (.agg (gpC p))) w) : wpList Try.prog ops Q (o :: rest) a w := by
  have hl : (loadCells ⟨b, i, none⟩ (gpL p).length).run Try.prog w = .ok (gpL p).toArray w :=
    run_loadCells_list w ⟨b, i, none⟩ (gpL p) (fun j v hv => by rw [addr_add]; exact hp j v hv)
  rw [gpL_len] at hl
  have hrun : (loadVar 52 ⟨b, i, none⟩).run Try.prog w = .ok (.agg (gpC p)) w := by
    have hs := gp_sz
    cases hq : Try.prog.info? 52 with
    | none => simp [hq] at hs
    | some ii =>
      have hs : ii.size = 257 := by simpa [hq] using hs
      have hagg : (isAgg 52).run Try.prog w = .ok true w := by
        unfold isAgg
        rw [Sem.run_bind, run_underlying Try.underlying52 w]
        rfl
      simp [loadVar, Sem.run_bind, hagg, sizeOf, typeInfo, hq, hs, hl, gpC]
  refine wpList_plain hgd fun K hK => ?_
  unfold Oper.wp execOp
  simp only [ho, hx, Instr.loadAt, Instr.sureAddr, Sem.run_bind, Sem.run_pure, Result.andThen_ok, hrun]
  exact hK _ _ h
theorem Ls.gpAll {w : World} {b o : Nat} {l : List Gp} (h : Ls gpS w (some ⟨b, o, none⟩) l) (k : Nat) (p : Gp) (hk : l[k]? = some p) : ∀ j v, (gpL p)[j]? = some v → w.cell? ⟨b, o + k * 257 + j, none⟩ = some v := by
  obtain ⟨b', o', e, hb, hc⟩ := h.at k p hk
  injection e with e; injection e with e1 e2
  subst e1; subst e2
  exact fun j v hj => hc j v hj
theorem Ls.addr {w : World} {A : Option Addr} {l : List Gp} (h : Ls gpS w A l) (hl : 0 < l.length) : ∃ b o, A = some ⟨b, o, none⟩ := by
  obtain ⟨b, o, e, -, -⟩ := h.at 0 _ (List.getElem?_eq_getElem hl)
  exact ⟨b, o, e⟩

/-- the first one that is no run -/
def SinAt (l : List Gp) (k : Int) : Prop := 0 ≤ k ↔ l.all (fun p => p.run) = false
theorem sin_none {l : List Gp} (h : l.all (fun p => p.run) = true) : SinAt l (-1) := ⟨fun h => by omega, fun g => by rw [h] at g; cases g⟩
theorem sin_some {l : List Gp} {k : Nat} {p : Gp} (hp : l[k]? = some p) (hr : p.run = false) : SinAt l (k : Int) :=
  ⟨fun _ => List.all_eq_false.2 ⟨p, List.mem_of_getElem? hp, by simp [hr]⟩, fun _ => by omega⟩
theorem run_take {l : List Gp} {k : Nat} {p : Gp} (hp : l[k]? = some p) (hr : p.run = true) (h : (l.take k).all (fun p => p.run) = true) : (l.take (k + 1)).all (fun p => p.run) = true := by
  rw [List.take_add_one, hp, List.all_append, h]; simp [hr]

theorem partIdx_any (A : Option Addr) (n c : Nat) (l : List Gp) (w : World) (hb : Ls gpS w A l) (hn : l.length = n) (hm : n ≤ 1000) :
    Calls Try.prog 42 #[.slice A n c, .func (.func 37) #[] #[]] w fun e w' => (∃ k : Int, e = .returned (.int .i64 k) ∧ SinAt l k) ∧ Below w.heap.size w w' := by
  have HA := Lib.hid hb
  have HN := Lib.hid hn
  clear hb hn
  go_enter Try.func42, Try.ntmps42
  go_wp2
  go_loopw [8] (fun i wr => ∃ k : Nat, i = .int .i64 (k : Int) ∧ k ≤ n ∧ (l.take k).all (fun p => p.run) = true ∧ Below w.heap.size w wr) (fun i _ => n - (intOf i).toNat)
  case atStart => exact ⟨0, rfl, Nat.zero_le _, rfl, Below.refl _ _⟩
  case round =>
    obtain ⟨k, rfl, hk, hall, hbw⟩ := hrel
    have HALL := Lib.hid hall
    have HBW := Lib.hid hbw
    clear hall hbw
    by_cases hlt : k < n
    · have hlti : (k : Int) < (n : Int) := by omega
      obtain ⟨p, hp⟩ : ∃ p, l[k]? = some p := ⟨_, List.getElem?_eq_getElem (by rw [HN.out]; exact hlt)⟩
      obtain ⟨b, o, rfl⟩ := HA.out.addr (by rw [HN.out]; omega)
      have HC := Lib.hid ((HA.out.below HBW.out).gpAll k p hp)
      have HCA := Lib.hid (single_any p wr)
      have HP := Lib.hid hp
      have HT : Hid (p.run = true → (l.take (k + 1)).all (fun p => p.run) = true) := Lib.hid fun h => run_take hp h HALL.out
      have HS : Hid (p.run = false → SinAt l (k : Int)) := Lib.hid fun h => sin_some hp h
      clear hp
      obtain ⟨v, hv⟩ : ∃ v, p.run = v := ⟨_, rfl⟩
      rw [hv] at HCA HT HS
      clear hv
      cases v
      · go_wp2_with (first | (refine wpG_loadAt rfl (.tmp 14) rfl b (o + k * 257) rfl p HC.out ?_) | (go_at_call 37; refine HCA.out.mono ?_; rintro e w1 ⟨rfl, hb1⟩; have HB := Lib.hid hb1; clear hb1))
        go_ret
        exact ⟨⟨_, rfl, HS.out (by first | rfl | trivial)⟩, bthen HBW.out HB.out⟩
      · go_wp2_with (first | (refine wpG_loadAt rfl (.tmp 14) rfl b (o + k * 257) rfl p HC.out ?_) | (go_at_call 37; refine HCA.out.mono ?_; rintro e w1 ⟨rfl, hb1⟩; have HB := Lib.hid hb1; clear hb1))
        go_roundw
        case rel => exact ⟨k + 1, by simp, by omega, HT.out (by first | rfl | trivial), bthen HBW.out HB.out⟩
        case measure => simp [intOf]; omega
    · have hlti : ¬ (k : Int) < (n : Int) := by omega
      have HE : Hid (l.all (fun p => p.run) = true) := Lib.hid (by have := HALL.out; rw [List.take_of_length_le (by rw [HN.out]; omega)] at this; exact this)
      go_wp2
      go_ret
      exact ⟨⟨-1, rfl, sin_none HE.out⟩, HBW.out⟩

theorem partCont_any (A : Option Addr) (n c : Nat) (l : List Gp) (w : World) (hb : Ls gpS w A l) (hn : l.length = n) (hm : n ≤ 1000) :
    Calls Try.prog 38 #[.slice A n c, .func (.func 37) #[] #[]] w fun e w' => e = .returned (.bool (!l.all (fun p => p.run))) ∧ Below w.heap.size w w' := by
  have HC := Lib.hid (partIdx_any A n c l w hb hn hm)
  clear hb hn
  obtain ⟨v, hv⟩ : ∃ v, l.all (fun p => p.run) = v := ⟨_, rfl⟩
  unfold SinAt at HC
  rw [hv] at HC ⊢
  clear hv
  cases v
  · go_enter Try.func38, Try.ntmps38
    go_wp2_with (go_at_call 42; refine HC.out.mono ?_; rintro e w1 ⟨⟨k, rfl, hk⟩, hb1⟩; have hk0 : (0 : Int) ≤ k := hk.2 rfl; have HB := Lib.hid hb1; clear hb1 hk)
    go_ret
    exact ⟨by first | rfl | exact congrArg (fun b => Ending.returned (.bool b)) (decide_eq_true hk0), HB.out⟩
  · go_enter Try.func38, Try.ntmps38
    go_wp2_with (go_at_call 42; refine HC.out.mono ?_; rintro e w1 ⟨⟨k, rfl, hk⟩, hb1⟩; have hk0 : ¬ (0 : Int) ≤ k := (fun h => by have := hk.1 h; cases this); have HB := Lib.hid hb1; clear hb1 hk)
    go_ret
    exact ⟨by first | rfl | exact congrArg (fun b => Ending.returned (.bool b)) (decide_eq_false (by omega)), HB.out⟩

theorem allRuns_any (A : Option Addr) (n c : Nat) (l : List Gp) (w : World) (hb : Ls gpS w A l) (hn : l.length = n) (hm : n ≤ 1000) :
    Calls Try.prog 31 #[.slice A n c] w fun e w' => e = .returned (.bool (l.all (fun p => p.run))) ∧ Below w.heap.size w w' := by
  have HC := Lib.hid (partCont_any A n c l w hb hn hm)
  clear hb hn
  obtain ⟨v, hv⟩ : ∃ v, l.all (fun p => p.run) = v := ⟨_, rfl⟩
  rw [hv] at HC ⊢
  clear hv
  cases v <;>
  · go_enter Try.func31, Try.ntmps31
    go_wp2_with (go_at_call 38; refine HC.out.mono ?_; rintro e w1 ⟨rfl, hb1⟩; have HB := Lib.hid hb1; clear hb1)
    go_ret
    exact ⟨rfl, HB.out⟩

/-- the rest of a row -/
theorem Ls.gpDrop {w : World} {A : Option Addr} {l : List Gp} {n c : Nat} (h : Ls gpS w A l) (hl : l.length = n) (hc : n ≤ c) (k : Nat) (hk : k ≤ n) : Ls gpS w (if c = k then A else A.map (·.add (k * 257))) (l.drop k) := by
  by_cases he : k < n
  · obtain ⟨b, o, rfl⟩ := h.addr (by omega)
    rw [if_neg (by omega)]
    simp only [Option.map_some, addr_add]
    refine ls_of _ _ _ _ (fun _ => ?_) fun i x hi j v hj => ?_
    · obtain ⟨b', o', e, hb, -⟩ := h.at 0 _ (List.getElem?_eq_getElem (by omega))
      injection e with e; injection e with e1 e2; subst e1; exact hb
    · rw [List.getElem?_drop] at hi
      have := h.gpAll (k + i) x hi j v hj
      rw [show o + (k + i) * 257 + j = o + k * 257 + i * gpS.size + j from by simp [gpS]; omega] at this
      exact this
  · rw [List.drop_eq_nil_of_le (by omega)]
    exact Ls.nil _ _

def bhI : Option (Nat × Nat) → Int
  | none => -1
  | some (b, _) => b
def tdI : Option (Nat × Nat) → Nat
  | none => 0
  | some (_, t) => t
theorem At.td_le {ps : List Gp} {s : Byt} {here a : Nat} {last : Option (Nat × Nat)} (h : At ps s here a last) : tdI last ≤ a := by
  rcases last with _ | ⟨b, t⟩
  · exact Nat.zero_le _
  · obtain ⟨g1, g2, -⟩ := h.inn b t rfl
    show t ≤ a
    omega
def mz (L n here td : Nat) : Nat := (L + 1 - td) * (n + 2) + (n - here)
theorem mz_run {L n here td a : Nat} (h1 : here < n) (h2 : td ≤ a) : mz L n (here + 1) a < mz L n here td := by
  unfold mz
  have := Nat.mul_le_mul_right (n + 2) (show L + 1 - a ≤ L + 1 - td by omega)
  omega
theorem mz_back {L n here b t : Nat} (h1 : here ≤ n) (h2 : t < L) : mz L n b (t + 1) < mz L n here t := by
  unfold mz
  rw [show L + 1 - t = (L + 1 - (t + 1)) + 1 from by omega, Nat.succ_mul]
  omega

theorem u8_off (o h x : Nat) : o + h * 257 + x = o + h * 257 + x := rfl
set_option maxHeartbeats 4000000 in
theorem matches_any (base : Nat) (A : Option Addr) (n c : Nat) (l : List Gp) (s : Byt) (w : World) (hb : OwnL gpS 52 w base A n c l) (hm : n ≤ 1000) (hs : s.length ≤ 1000000) :
    Calls Try.prog 26 #[.slice A n c, .string (tx s)] w fun e w' => e = .returned (.bool (mt l s)) ∧ Below w.heap.size w w' := by
  obtain ⟨hnc, hcm⟩ := hb.caps
  have HA := Lib.hid hb.ls
  have HN := Lib.hid hb.1
  have hts := tx_size s
  have bg := bn_get s
  obtain ⟨L, hL⟩ : ∃ L, L = s.length := ⟨_, rfl⟩
  rw [← hL] at hts hs
  have HL := Lib.hid hL
  clear hb hL
  go_enter Try.func26, Try.ntmps26
  go_wp2
  go_loopw [5, 6, 7, 8] (fun i5 i6 i7 i8 wr => ∃ (here a : Nat) (last : Option (Nat × Nat)), At l s here a last ∧ i5 = .int .i64 (here : Int) ∧ i6 = .int .i64 (a : Int) ∧ i7 = .int .i64 (bhI last) ∧ i8 = .int .i64 (tdI last : Int) ∧ Below w.heap.size w wr) (fun i5 i6 i7 i8 _ => mz L n (intOf i5).toNat (intOf i8).toNat)
  case atStart => exact ⟨0, 0, none, at_start l s, rfl, rfl, rfl, rfl, Below.refl _ _⟩
  case round =>
    obtain ⟨here, a, last, hat, rfl, rfl, rfl, rfl, hbw⟩ := hrel
    have hh := hat.hh
    have ha := hat.ha
    have htd := hat.td_le
    rw [HN.out] at hh
    rw [← HL.out] at ha
    have HAT := Lib.hid hat
    have HBW := Lib.hid hbw
    have HLS := Lib.hid (HA.out.below hbw)
    clear hat hbw
    by_cases hlt : a < L
    · have hlti : (a : Int) < (L : Int) := by omega
      have i0 : (0 : Int) ≤ (a : Int) := by omega
      have j0 : (0 : Int) ≤ (here : Int) := by omega
      by_cases hhn : here < n
      · have hhi : (here : Int) < (n : Int) := by omega
        obtain ⟨p, hp⟩ : ∃ p, l[here]? = some p := ⟨_, List.getElem?_eq_getElem (by rw [HN.out]; exact hhn)⟩
        obtain ⟨b, o, rfl, hbl, hof, hrun⟩ := HLS.out.gp here p hp
        have HP := Lib.hid hp
        clear hp
        by_cases hr : p.run = true
        · rw [hr] at hrun
          have HN1 : Hid (At l s (here + 1) a (some (here + 1, a)) ∧ mz L n (here + 1) a < mz L n here (tdI last)) := Lib.hid ⟨HAT.out.run HP.out hr, mz_run hhn htd⟩
          clear hr hof
          have hw1 : IntKind.i64.wrap ((here : Int) + 1) = (here : Int) + 1 := by rw [IntKind.wrap_i64]; omega
          go_wp2
          go_roundw
          case rel => exact ⟨here + 1, a, some (here + 1, a), HN1.out.1, by simp, rfl, by simp [bhI], rfl, HBW.out⟩
          case measure => exact HN1.out.2
        · simp only [Bool.not_eq_true] at hr
          rw [hr] at hrun
          have hc : wr.cell? ⟨b, o + here * 257 + (bn s a).toNat, none⟩ = some (.bool (p.of (s.getD a 0))) := by
            have := hof (s.getD a 0)
            unfold bn
            rw [Int.toNat_natCast]; exact this
          have b0 := bn_nonneg s a
          have b1 : bn s a < 256 := by have := bn_le s a; omega
          clear hof
          obtain ⟨v, hv⟩ : ∃ v, p.of (s.getD a 0) = v := ⟨_, rfl⟩
          rw [hv] at hc
          cases v
          · have HNO : Hid (∀ q, l[here]? = some q → q.run = false ∧ q.of (s.getD a 0) = false) := Lib.hid (fun q hq => by rw [HP.out] at hq; injection hq with hq; subst hq; exact ⟨hr, hv⟩)
            clear hv hr
            have HWR : Hid (∀ k, Below w.heap.size w (wr.drewN k)) := Lib.hid fun k => below_drewN HBW.out k
            go_upto_region 9 with fail
            go_quiet (fail)
            generalize hwd : World.drewN wr _ = wd
            have HBD : Hid (Below w.heap.size w wd) := Lib.hid (by rw [← hwd]; exact HWR.out _)
            clear hwd
            rcases last with _ | ⟨lb, lt⟩
            · have HF : Hid (mt l s = false) := Lib.hid (HAT.out.fails (by rw [← HL.out]; exact hlt) HNO.out)
              simp only [bhI, tdI] at *
              go_wp2
              go_ret
              rw [HF.out]
              exact ⟨rfl, HBD.out⟩
            · have hb0 : ¬ bhI (some (lb, lt)) < 0 := by simp only [bhI]; omega
              have HB1 : Hid (At l s lb (lt + 1) (some (lb, lt + 1)) ∧ mz L n lb (lt + 1) < mz L n here lt) := Lib.hid ⟨HAT.out.back (by rw [← HL.out]; exact hlt) HNO.out, mz_back hh (Nat.lt_of_le_of_lt htd hlt)⟩
              simp only [bhI, tdI] at *
              have hw2 : IntKind.i64.wrap ((lt : Int) + 1) = (lt : Int) + 1 := by rw [IntKind.wrap_i64]; omega
              go_wp2
              go_roundw
              case rel => exact ⟨lb, lt + 1, some (lb, lt + 1), HB1.out.1, rfl, by simp, rfl, by simp [tdI], HBD.out⟩
              case measure => exact HB1.out.2
          · have HN1 : Hid (At l s (here + 1) (a + 1) last ∧ mz L n (here + 1) (tdI last) < mz L n here (tdI last)) := Lib.hid ⟨HAT.out.step HP.out hr (by rw [← HL.out]; exact hlt) hv, mz_run hhn (Nat.le_refl _)⟩
            clear hv hr
            have hw1 : IntKind.i64.wrap ((here : Int) + 1) = (here : Int) + 1 := by rw [IntKind.wrap_i64]; omega
            have hw2 : IntKind.i64.wrap ((a : Int) + 1) = (a : Int) + 1 := by rw [IntKind.wrap_i64]; omega
            go_upto_region 9 with fail
            go_quiet (fail)
            go_wp2_with fail
            go_roundw
            case rel => exact ⟨here + 1, a + 1, last, HN1.out.1, by simp, by simp, rfl, rfl, below_drewN HBW.out _⟩
            case measure => exact HN1.out.2
      · have hhi : ¬ (here : Int) < (n : Int) := by omega
        have HNO : Hid (∀ q, l[here]? = some q → q.run = false ∧ q.of (s.getD a 0) = false) := Lib.hid (fun q hq => by
          rw [List.getElem?_eq_none (by rw [HN.out]; omega)] at hq; cases hq)
        have HWR : Hid (∀ k, Below w.heap.size w (wr.drewN k)) := Lib.hid fun k => below_drewN HBW.out k
        go_upto_region 9 with fail
        go_quiet (fail)
        generalize hwd : World.drewN wr _ = wd
        have HBD : Hid (Below w.heap.size w wd) := Lib.hid (by rw [← hwd]; exact HWR.out _)
        clear hwd
        rcases last with _ | ⟨lb, lt⟩
        · have HF : Hid (mt l s = false) := Lib.hid (HAT.out.fails (by rw [← HL.out]; exact hlt) HNO.out)
          simp only [bhI, tdI] at *
          go_wp2
          go_ret
          rw [HF.out]
          exact ⟨rfl, HBD.out⟩
        · have hb0 : ¬ bhI (some (lb, lt)) < 0 := by simp only [bhI]; omega
          have HB1 : Hid (At l s lb (lt + 1) (some (lb, lt + 1)) ∧ mz L n lb (lt + 1) < mz L n here lt) := Lib.hid ⟨HAT.out.back (by rw [← HL.out]; exact hlt) HNO.out, mz_back hh (Nat.lt_of_le_of_lt htd hlt)⟩
          simp only [bhI, tdI] at *
          have hw2 : IntKind.i64.wrap ((lt : Int) + 1) = (lt : Int) + 1 := by rw [IntKind.wrap_i64]; omega
          go_wp2
          go_roundw
          case rel => exact ⟨lb, lt + 1, some (lb, lt + 1), HB1.out.1, rfl, by simp, rfl, by simp [tdI], HBD.out⟩
          case measure => exact HB1.out.2
    · have hlti : ¬ (a : Int) < (L : Int) := by omega
      have HE : Hid (mt l s = (l.drop here).all (fun p => p.run)) := Lib.hid (HAT.out.ends (by rw [← HL.out]; omega))
      have HDR := Lib.hid (HLS.out.gpDrop HN.out hnc here hh)
      have j0 : (0 : Int) ≤ (here : Int) := by omega
      have j1 : (here : Int) ≤ (n : Int) := by omega
      have hlen : (l.drop here).length = n - here := by rw [List.length_drop, HN.out]
      have HLEN := Lib.hid hlen
      clear hlen
      obtain ⟨A2, hA2⟩ : ∃ A2, (if c = here then A else A.map (·.add (here * 257))) = A2 := ⟨_, rfl⟩
      rw [hA2] at HDR
      have HC := Lib.hid (allRuns_any A2 (n - here) (c - here) (l.drop here) wr HDR.out HLEN.out (by omega))
      rw [← HE.out] at HC
      go_wp2_with (go_at_call 31; refine HC.out.mono ?_; rintro e w1 ⟨rfl, hb1⟩; have HB := Lib.hid hb1; clear hb1)
      go_ret
      exact ⟨rfl, bthen HBW.out HB.out⟩
end Go.Proofs.Ytmcgjkhbljdddaa
