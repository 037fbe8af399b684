/-
  The program's reading of a set: strings.Cut, CutPrefix, Contains at one byte; listed.
-/
import Derived.Test.YtmcgjkhbljdddaaGlobPart
import Derived.Test.YtmcgjkhbljdddaaGlobSet
import Derived.Test.YtmcgjkhbljdddaaShelf
namespace Go.Proofs.Ytmcgjkhbljdddaa
open Go.RowKit
set_option linter.unusedVariables false
set_option linter.unusedSimpArgs false

theorem txq_neq (q : Byt) (ww : World) : (binOp .neq 9 (.string (tx q)) (.string { data := #[] })).run Try.prog ww = .ok (.bool (!q.isEmpty)) ww := by
  simp [go_sem, tx_toList]
theorem txq_eq (q : Byt) (ww : World) : (binOp .eql 9 (.string (tx q)) (.string { data := #[] })).run Try.prog ww = .ok (.bool q.isEmpty) ww := by
  simp [go_sem, tx_toList]

/-- where a byte stands first -/
theorem idxB (c : UInt8) : ∀ (l : Byt), (Lib.indexByte l c = -1 ∧ c ∉ l) ∨ ∃ i : Nat, Lib.indexByte l c = (i : Int) ∧ i < l.length ∧ c ∈ l ∧ l.takeWhile (· != c) = l.take i ∧ l.drop i = c :: l.drop (i + 1)
  | [] => .inl ⟨rfl, by simp⟩
  | x :: r => by
    have e : Lib.indexByte (x :: r) c = if x == c then 0 else if Lib.indexByte r c == -1 then -1 else Lib.indexByte r c + 1 := rfl
    by_cases hx : x = c
    · subst hx
      exact .inr ⟨0, by rw [e, if_pos (by simp)]; rfl, by simp, by simp, by simp, by simp⟩
    · rcases idxB c r with ⟨h1, h2⟩ | ⟨i, h1, h2, h3, h4, h5⟩
      · left
        rw [e, h1]
        refine ⟨by simp [hx], ?_⟩
        simp only [List.mem_cons, not_or]
        exact ⟨fun q => hx q.symm, h2⟩
      · right
        refine ⟨i + 1, ?_, by simpa using h2, List.mem_cons_of_mem _ h3, ?_, by simpa using h5⟩
        · rw [e, h1]
          have : ((i : Int) == -1) = false := by simp
          simp [hx, this]
        · simp [hx, h4]

theorem cutIn_any (l : Byt) (w : World) (hl : l.length ≤ 1000) :
    Calls Try.prog 43 #[.string (tx l), .string ⟨#[93]⟩] w fun e w' => (∃ r, e = .returned (.tuple #[.string (tx (innT l)), .string r, .bool (decide (93 ∈ l))])) ∧ ∃ n, w' = w.drewN n := by
  have HIX := Lib.hid (Try.stringslite_Index_one (tx l) 93 w)
  rw [tx_list] at HIX
  have hsz := tx_size l
  rcases idxB 93 l with ⟨h1, h2⟩ | ⟨i, h1, h2, h3, h4, h5⟩
  · rw [h1] at HIX
    rw [inn_none h2, decide_eq_false h2]
    clear h1 h2
    go_enter Try.func43, Try.ntmps43
    go_wp2_with (go_at_call 46; refine HIX.out.mono ?_; rintro e w' ⟨rfl, rfl⟩)
    go_ret3
    exact ⟨⟨_, rfl⟩, 0, rfl⟩
  · rw [h1] at HIX
    have e1 : innT l = l.take i := h4
    rw [e1, decide_eq_true h3]
    have hx1 : (tx l).extract 0 i = tx (l.take i) := by rw [tx_cut]; simp
    have c1 : (0 : Int) ≤ ↑i := by omega
    have c2 : (↑i : Int) ≤ ↑l.length := by omega
    have c3 : (0 : Int) ≤ ↑i + 1 := by omega
    have c4 : (↑i + 1 : Int) ≤ ↑l.length := by omega
    have hw : IntKind.i64.wrap ((i : Int) + 1) = (i : Int) + 1 := by rw [IntKind.wrap_i64]; omega
    clear h1 h2 h3 h4 h5 e1
    go_enter Try.func43, Try.ntmps43
    go_wp2_with (go_at_call 46; refine HIX.out.mono ?_; rintro e w' ⟨rfl, rfl⟩)
    go_quiet (fail)
    go_wp2
    go_ret3
    exact ⟨⟨_, rfl⟩, _, rfl⟩
theorem cut_any (l : Byt) (w : World) (hl : l.length ≤ 1000) :
    Calls Try.prog 39 #[.string (tx l), .string ⟨#[93]⟩] w fun e w' => (∃ r, e = .returned (.tuple #[.string (tx (innT l)), .string r, .bool (decide (93 ∈ l))])) ∧ ∃ n, w' = w.drewN n := by
  have HC := Lib.hid (cutIn_any l w hl)
  go_enter Try.func39, Try.ntmps39
  go_wp2_with (go_at_call 43; refine HC.out.mono ?_; rintro e w' ⟨⟨r, rfl⟩, n, rfl⟩)
  go_ret3
  exact ⟨⟨_, rfl⟩, _, rfl⟩
theorem has_any (l : Byt) (c : UInt8) (w : World) :
    Calls Try.prog 45 #[.string (tx l), .string ⟨#[c]⟩] w fun e w' => e = .returned (.bool (decide (c ∈ l))) ∧ w' = w := by
  have HIX := Lib.hid (Try.strings_Index_one (tx l) c w)
  rw [tx_list] at HIX
  rcases idxB c l with ⟨h1, h2⟩ | ⟨i, h1, h2, h3, h4, h5⟩
  · rw [h1] at HIX
    rw [decide_eq_false h2]
    clear h1 h2
    go_enter Try.func45, Try.ntmps45
    go_wp2_with (go_at_call 48; refine HIX.out.mono ?_; rintro e w' ⟨rfl, rfl⟩)
    go_ret
    exact ⟨rfl, rfl⟩
  · rw [h1] at HIX
    rw [decide_eq_true h3]
    have c1 : (0 : Int) ≤ ↑i := by omega
    clear h1 h2 h3 h4 h5
    go_enter Try.func45, Try.ntmps45
    go_wp2_with (go_at_call 48; refine HIX.out.mono ?_; rintro e w' ⟨rfl, rfl⟩)
    go_ret
    exact ⟨by first | rfl | exact congrArg (fun b => Ending.returned (.bool b)) (decide_eq_true c1), rfl⟩
theorem caret_any (l : Byt) (w : World) :
    Calls Try.prog 40 #[.string (tx l), .string ⟨#[94]⟩] w fun e w' => e = .returned (.tuple #[.string (tx (if decide (l.head? = some 94) then l.tail else l)), .bool (decide (l.head? = some 94))]) ∧ w' = w := by
  have h := Try.strings_CutPrefix (tx l) ⟨#[94]⟩ w
  rw [tx_list] at h
  have e1 : Lib.hasPrefix l (ByteArray.mk #[94]).data.toList = decide (l.head? = some 94) := by
    rcases l with _ | ⟨b, r⟩
    · rfl
    · rw [Bool.eq_iff_iff]; simp only [Lib.hasPrefix, List.isPrefixOf, Bool.and_true, beq_iff_eq, List.head?_cons, Option.some.injEq, decide_eq_true_eq]; exact eq_comm
  have e2 : (⟨(Lib.trimPrefix l (ByteArray.mk #[94]).data.toList).toArray⟩ : ByteArray) = tx (if decide (l.head? = some 94) then l.tail else l) := by
    show tx (Lib.trimPrefix l (ByteArray.mk #[94]).data.toList) = _
    unfold Lib.trimPrefix
    rw [e1]
    rcases l with _ | ⟨b, r⟩
    · rfl
    · split <;> simp_all
  rw [e1, e2] at h
  exact h

set_option maxRecDepth 100000 in
theorem gp_built0 : Try.prog.built 52 [] = some (gpC gp0) := by kernel_rfl
set_option maxRecDepth 100000 in
theorem gp_built1 : Try.prog.built 52 [(1, .bool true)] = some (gpC ⟨true, fun _ => false⟩) := by kernel_rfl
theorem gp_build0 (w : World) : (Instr.build 52 #[]).run Try.prog w = .ok (.agg (gpC gp0)) w := run_build w _ #[] _ gp_built0
theorem gp_build1 (w : World) : (Instr.build 52 #[(1, .bool true)]).run Try.prog w = .ok (.agg (gpC ⟨true, fun _ => false⟩)) w := run_build w _ #[(1, .bool true)] _ gp_built1

/-- what is ended by a part in a cell and a second result -/
theorem gp_result2 {w : World} {fn : Func} {i : Tmp} {j : Tmp} (h : fn.results = #[.cell i 52, .tmp j]) (tmps : Array Value) (B : Nat) (hp : tmps.getD i undef = .pointer (some ⟨B, 0, none⟩)) (u : Value) (hu : tmps.getD j undef = u) (p : Gp) (hG : Gx w B p) :
    (results fn tmps).run Try.prog w = .ok (.tuple #[.agg (gpC p), u]) w := by
  have hl := run_loadVar_row w B 52 52 (gpC p) (0, 0) _ hG Try.underlying52 rfl (gp_szC p)
  have hp' : tmps[i]?.getD undef = .pointer (some ⟨B, 0, none⟩) := by simpa using hp
  have hu' : tmps[j]?.getD undef = u := by simpa using hu
  simp [results, h, hp', hu', asAddr, hl]

/-- between two bytes, up to a third one -/
def gpTo (rs : List (UInt8 × UInt8)) (a : Nat) (b : Nat) : Gp := ⟨false, fun c => inR rs c || (decide (a ≤ c.toNat) && decide (c.toNat < b))⟩
theorem gpTo_start (rs : List (UInt8 × UInt8)) (a : Nat) : gpTo rs a a = ⟨false, inR rs⟩ := gp_ext rfl fun c => by
  simp only [gpTo]
  by_cases h : a ≤ c.toNat
  · have : ¬ c.toNat < a := by omega
    simp [h, this]
  · simp [h]
theorem gpTo_step (rs : List (UInt8 × UInt8)) (a : Nat) (b : UInt8) (hab : a ≤ b.toNat) : gpPut (gpTo rs a b.toNat) b true = gpTo rs a (b.toNat + 1) := gp_ext rfl fun c => by
  simp only [gpPut, gpTo]
  by_cases hc : c = b
  · subst hc; simp [hab]
  · have : c.toNat ≠ b.toNat := fun e => hc (UInt8.toNat_inj.1 e)
    rw [if_neg hc]
    have e : decide (c.toNat < b.toNat + 1) = decide (c.toNat < b.toNat) := decide_eq_decide.2 ⟨fun h => by omega, fun h => by omega⟩
    rw [e]
theorem gpTo_end (rs : List (UInt8 × UInt8)) (a b : UInt8) : gpTo rs a.toNat (b.toNat + 1) = ⟨false, inR (rs ++ [(a, b)])⟩ := gp_ext rfl fun c => by
  simp only [gpTo, inR, List.any_append, List.any_cons, List.any_nil, Bool.or_false]
  have e1 : decide (a.toNat ≤ c.toNat) = decide (a ≤ c) := decide_eq_decide.2 UInt8.le_iff_toNat_le.symm
  have e2 : decide (c.toNat < b.toNat + 1) = decide (c ≤ b) := decide_eq_decide.2 ⟨fun h => UInt8.le_iff_toNat_le.2 (by omega), fun h => by have := UInt8.le_iff_toNat_le.1 h; omega⟩
  rw [e1, e2]

theorem ls_fail {l rest : Byt} {done : List (UInt8 × UInt8)} {n : Nat} (hR : lstT l = match rgT l with | none => none | some rs => some ⟨false, inR rs⟩) (h : rgT l = (rgT rest).map (done ++ ·)) (h0 : rest ≠ []) (hn : nxN rest = n) (hlt : bn rest (n - 1) < bn rest 0) : lstT l = none := by
  rw [hR, h, rgT_step h0, hn, if_pos (UInt8.lt_iff_toNat_lt.2 (by unfold bn at hlt; omega))]; rfl
theorem ls_go {l rest : Byt} {done : List (UInt8 × UInt8)} {n : Nat} (h : rgT l = (rgT rest).map (done ++ ·)) (h0 : rest ≠ []) (hn : nxN rest = n) (hlt : ¬ bn rest (n - 1) < bn rest 0) : rgT l = (rgT (rest.drop n)).map ((done ++ [(rest.getD 0 0, rest.getD (n - 1) 0)]) ++ ·) := by
  rw [h, rgT_step h0, hn, if_neg (fun e => hlt (by have := UInt8.lt_iff_toNat_lt.1 e; unfold bn; omega))]
  rcases rgT (rest.drop n) with _ | q
  · rfl
  · simp
theorem ls_end {l rest : Byt} {done : List (UInt8 × UInt8)} (hR : lstT l = match rgT l with | none => none | some rs => some ⟨false, inR rs⟩) (h : rgT l = (rgT rest).map (done ++ ·)) (h0 : rest = []) : lstT l = some ⟨false, inR done⟩ := by
  rw [hR, h, h0]; simp [rgT]
def strSz : Value → Nat
  | .string s => s.size
  | _ => 0
/-- what listed answers -/
def RetLs (w : World) (l : Byt) (e : Ending) (w' : World) : Prop := e = .returned (.tuple #[.agg (gpC ((lstT l).getD gp0)), .bool (lstT l).isSome]) ∧ Below w.heap.size w w'
set_option maxHeartbeats 4000000 in
theorem listed_any (l : Byt) (w : World) (hl : l.length ≤ 1000) : Calls Try.prog 41 #[.string (tx l)] w (RetLs w l) := by
  have hz := gp_zero
  have hT := tx_toList l
  have HCN := Lib.hid (has_any l 92)
  obtain ⟨Q, hQ⟩ : ∃ Q, Q = w.heap.size := ⟨_, rfl⟩
  obtain ⟨w1, hw1⟩ : ∃ w1, w1 = w.alloc (.cells (gpC gp0) 52) := ⟨_, rfl⟩
  have HB1 : Hid (Below w.heap.size w w1) := Lib.hid (by rw [hw1]; exact ba1 _ _)
  have HX1 : Hid (Gx w1 Q gp0) := Lib.hid (by rw [hw1, hQ]; exact heap_alloc_new _ _)
  have HQ := Lib.hid hQ
  have HX2 := Lib.hid (HX1.out.put gp0)
  have hb0 := gp_build0
  by_cases he : l = []
  · have HR : Hid (lstT l = none) := Lib.hid (by unfold lstT; rw [if_pos (.inl he)])
    have hE : l.isEmpty = true := by simp [he]
    clear he
    go_enter Try.func41, Try.ntmps41
    go_upto_region 1 with fail
    rw [← hw1, ← hQ]
    clear hw1 hQ
    go_wp2_with (first | (refine wpG_store rfl (.tmp 2) (.tmp 15) rfl Q rfl gp0 gp0 rfl HX1.out ?_) | (refine end_ret (gp_result2 rfl _ Q rfl (.bool false) rfl gp0 HX2.out) ?_))
    unfold RetLs
    rw [HR.out]
    exact ⟨rfl, below_setRow HB1.out (by rw [← HQ.out]; exact Nat.le_refl _) _⟩
  · have hE : l.isEmpty = false := by simpa using he
    have HNE := Lib.hid he
    clear he
    by_cases h92 : 92 ∈ l
    · have HR : Hid (lstT l = none) := Lib.hid (by unfold lstT; rw [if_pos (.inr h92)])
      rw [decide_eq_true h92] at HCN
      clear h92
      go_enter Try.func41, Try.ntmps41
      go_upto_region 1 with fail
      rw [← hw1, ← hQ]
      clear hw1 hQ
      go_wp2_with (first | (refine wpG_store rfl (.tmp 2) (.tmp 15) rfl Q rfl gp0 gp0 rfl HX1.out ?_) | (refine end_ret (gp_result2 rfl _ Q rfl (.bool false) rfl gp0 HX2.out) ?_) | (go_at_call 45; refine (HCN.out _).mono ?_; rintro e w' ⟨rfl, rfl⟩))
      unfold RetLs
      rw [HR.out]
      exact ⟨rfl, below_setRow HB1.out (by rw [← HQ.out]; exact Nat.le_refl _) _⟩
    · have HR : Hid (lstT l = match rgT l with | none => none | some rs => some ⟨false, inR rs⟩) := Lib.hid (by unfold lstT; rw [if_neg (by simp [HNE.out, h92])]; rcases rgT l with _ | rs <;> rfl)
      rw [decide_eq_false h92] at HCN
      clear h92
      go_enter Try.func41, Try.ntmps41
      go_upto_region 1 with fail
      rw [← hw1, ← hQ]
      clear hw1 hQ
      go_upto_region 4 with (go_at_call 45; refine (HCN.out _).mono ?_; rintro e w' ⟨rfl, rfl⟩)
      obtain ⟨Q2, hQ2⟩ : ∃ Q2, Q2 = w'.heap.size := ⟨_, rfl⟩
      obtain ⟨w2, hw2⟩ : ∃ w2, w2 = w'.alloc (.cells (gpC gp0) 52) := ⟨_, rfl⟩
      have HB2 : Hid (Below w.heap.size w w2) := Lib.hid (by rw [hw2]; exact HB1.out.alloc HB1.out.size _)
      have HY1 : Hid (Gx w2 Q gp0) := Lib.hid (by rw [hw2]; exact HX1.out.below (ba1 _ _))
      have HY2 : Hid (Gx w2 Q2 gp0) := Lib.hid (by rw [hw2, hQ2]; exact heap_alloc_new _ _)
      have HQ2 : Hid (Q < Q2) := Lib.hid (by rw [hQ2]; exact HX1.out.lt)
      rw [← hw2, ← hQ2]
      clear hw2 hQ2 HX2 HX1 HB1
      go_wp2
      go_loopw [0] (fun i0 wr => ∃ (rest : Byt) (done : List (UInt8 × UInt8)), i0 = .string (tx rest) ∧ rgT l = (rgT rest).map (done ++ ·) ∧ Gx wr Q gp0 ∧ Gx wr Q2 ⟨false, inR done⟩ ∧ Below w.heap.size w wr ∧ rest.length ≤ 1000) (fun i0 _ => strSz i0)
      case atStart => exact ⟨l, [], rfl, by rcases rgT l with _ | q <;> simp, HY1.out, HY2.out, HB2.out, hl⟩
      case round =>
        obtain ⟨rest, done, rfl, hrg, hg1, hg2, hb, hrl⟩ := hrel
        have HRG := Lib.hid hrg
        have HG1 := Lib.hid hg1
        have HG2 := Lib.hid hg2
        have HB := Lib.hid hb
        clear hrg hg1 hg2 hb
        have hTr := tx_toList rest
        by_cases hre : rest = []
        · have hEr : rest.isEmpty = true := by simp [hre]
          have HF : Hid (lstT l = some ⟨false, inR done⟩) := Lib.hid (ls_end HR.out HRG.out hre)
          have HX5 := Lib.hid (HG1.out.put ⟨false, inR done⟩)
          clear hre
          go_wp2_with (first | (refine wpG_load rfl (.tmp 4) rfl Q2 rfl ⟨false, inR done⟩ HG2.out ?_) | (refine wpG_store rfl (.tmp 2) (.tmp 50) rfl Q rfl gp0 ⟨false, inR done⟩ rfl HG1.out ?_) | (refine end_ret (gp_result2 rfl _ Q rfl (.bool true) rfl ⟨false, inR done⟩ HX5.out) ?_))
          unfold RetLs
          rw [HF.out]
          exact ⟨rfl, below_setRow HB.out (by rw [← HQ.out]; exact Nat.le_refl _) _⟩
        · have hEr : rest.isEmpty = false := by simpa using hre
          have HRE := Lib.hid hre
          have hts := tx_size rest
          have bg := bn_get rest
          obtain ⟨L, hL⟩ : ∃ L, L = rest.length := ⟨_, rfl⟩
          rw [← hL] at hts hrl
          have HL := Lib.hid hL
          have hL0 : 0 < L := by rw [hL]; exact List.length_pos_iff.2 hre
          clear hre hL
          obtain ⟨x0, hx0⟩ : ∃ x0 : Nat, bn rest 0 = (x0 : Int) := ⟨_, rfl⟩
          obtain ⟨x2, hx2⟩ : ∃ x2 : Nat, bn rest 2 = (x2 : Int) := ⟨_, rfl⟩
          have HX0 := Lib.hid hx0
          have HX2' := Lib.hid hx2
          have b1 : x0 ≤ 255 := by have := bn_le rest 0; omega
          have d1 : x2 ≤ 255 := by have := bn_le rest 2; omega
          have wb : IntKind.i64.wrap (x0 : Int) = (x0 : Int) := by rw [IntKind.wrap_i64]; omega
          have wd : IntKind.i64.wrap (x2 : Int) = (x2 : Int) := by rw [IntKind.wrap_i64]; omega
          have l0 : (0 : Int) < (L : Int) := by omega
          by_cases h3 : 2 < L
          · have l3 : (2 : Int) < (L : Int) := by omega
            have l1 : (1 : Int) < (L : Int) := by omega
            by_cases h45 : bn rest 1 = 45
            · have HNX : Hid (nxN rest = 3) := Lib.hid (by unfold nxN; rw [if_pos ⟨by rw [← HL.out]; exact h3, (bn_eq rest 1 45).1 h45⟩])
              have HEX : Hid ((tx rest).extract 3 L = tx (rest.drop 3)) := Lib.hid (by rw [tx_cut, List.take_of_length_le (by rw [List.length_drop, ← HL.out]; exact Nat.le_refl _)])
              have iN : (3 : Int) ≤ (L : Int) := by omega
              by_cases hlt : (x2 : Int) < (x0 : Int)
              · have HF : Hid (lstT l = none) := Lib.hid (ls_fail HR.out HRG.out HRE.out HNX.out (by show bn rest 2 < bn rest 0; rw [HX0.out, HX2'.out]; exact hlt))
                go_upto_region 8 with fail
                go_quiet (fail)
                generalize hwx : World.drewN wr _ = wx
                have HB5 : Hid (Below w.heap.size w wx) := Lib.hid (by rw [← hwx]; exact below_drewN HB.out _)
                have HG5 : Hid (Gx wx Q gp0) := Lib.hid (by rw [← hwx]; exact HG1.out.below (below_drewN (Below.refl _ _) _))
                have HX5 := Lib.hid (HG5.out.put gp0)
                clear hwx
                go_wp2_with (first | (refine wpG_store rfl (.tmp 2) (.tmp 37) rfl Q rfl gp0 gp0 rfl HG5.out ?_) | (refine end_ret (gp_result2 rfl _ Q rfl (.bool false) rfl gp0 HX5.out) ?_))
                unfold RetLs
                rw [HF.out]
                exact ⟨rfl, below_setRow HB5.out (by rw [← HQ.out]; exact Nat.le_refl _) _⟩
              · have HGO := Lib.hid (ls_go HRG.out HRE.out HNX.out (by show ¬ bn rest 2 < bn rest 0; rw [HX0.out, HX2'.out]; exact hlt))
                go_upto_region 8 with fail
                go_quiet (fail)
                generalize hwx : World.drewN wr _ = wx
                have HB5 : Hid (Below w.heap.size w wx) := Lib.hid (by rw [← hwx]; exact below_drewN HB.out _)
                have HG5 : Hid (Gx wx Q gp0) := Lib.hid (by rw [← hwx]; exact HG1.out.below (below_drewN (Below.refl _ _) _))
                have HG6 : Hid (Gx wx Q2 ⟨false, inR done⟩) := Lib.hid (by rw [← hwx]; exact HG2.out.below (below_drewN (Below.refl _ _) _))
                clear hwx
                go_wp2
                go_loopw [8] (fun i w5 => ∃ b : Nat, i = .int .i64 (b : Int) ∧ x0 ≤ b ∧ b ≤ x2 + 1 ∧ Gx w5 Q gp0 ∧ Gx w5 Q2 (gpTo done x0 b) ∧ Below w.heap.size w w5) (fun i _ => 300 - (intOf i).toNat)
                case atStart => exact ⟨x0, rfl, Nat.le_refl _, by omega, HG5.out, by rw [gpTo_start]; exact HG6.out, HB5.out⟩
                case round =>
                  obtain ⟨b, rfl, hb1, hb2, hq1, hq2, hq3⟩ := hrel
                  have HQ1 := Lib.hid hq1
                  have HQ2' := Lib.hid hq2
                  have HQ3 := Lib.hid hq3
                  clear hq1 hq2 hq3
                  by_cases hle : (b : Int) ≤ (x2 : Int)
                  · have hb0 : (0 : Int) ≤ (b : Int) := by omega
                    have hb256 : (b : Int) < 256 := by omega
                    have hw1 : IntKind.i64.wrap ((b : Int) + 1) = (b : Int) + 1 := by rw [IntKind.wrap_i64]; omega
                    obtain ⟨u, hu⟩ : ∃ u : UInt8, u.toNat = b := ⟨UInt8.ofNat b, by simp; omega⟩
                    have c1 := HQ2'.out.at u
                    have f1 := HQ2'.out.soft b
                    have hset := HQ2'.out.set u true
                    rw [← hu] at hset
                    rw [gpTo_step done x0 u (by omega)] at hset
                    rw [hu] at c1 hset
                    have HS := Lib.hid hset
                    clear hu hset
                    have hne : ¬ Q = Q2 := by have := HQ2.out; omega
                    have HNE2 := Lib.hid hne
                    clear hne
                    go_wp2
                    go_roundw
                    case rel => exact ⟨b + 1, by simp, by omega, by omega, HQ1.out.other HNE2.out _, HS.out, HQ3.out.setCell (by have := HQ2.out; have := HQ.out; simp only; omega) _⟩
                    case measure => simp [intOf]; omega
                  · have HF2 : Hid (gpTo done x0 b = ⟨false, inR (done ++ [(rest.getD 0 0, rest.getD 2 0)])⟩) := Lib.hid (by
                      rw [← gpTo_end]
                      have e1 : (rest.getD 0 0).toNat = x0 := by have := HX0.out; unfold bn at this; omega
                      have e2 : (rest.getD 2 0).toNat = x2 := by have := HX2'.out; unfold bn at this; omega
                      rw [e1, e2, show b = x2 + 1 from by omega])
                    rw [HF2.out] at HQ2'
                    have hex := HEX.out
                    go_wp2
                    go_roundw
                    case rel => exact ⟨rest.drop 3, _, rfl, HGO.out, HQ1.out, HQ2'.out, HQ3.out, by rw [List.length_drop, ← HL.out]; omega⟩
                    case measure => simp only [strSz]; rw [tx_size, List.length_drop, ← HL.out]; omega
            · have HNX : Hid (nxN rest = 1) := Lib.hid (by unfold nxN; rw [if_neg (fun e => h45 ((bn_eq rest 1 45).2 e.2))])
              have HEX : Hid ((tx rest).extract 1 L = tx (rest.drop 1)) := Lib.hid (by rw [tx_cut, List.take_of_length_le (by rw [List.length_drop, ← HL.out]; exact Nat.le_refl _)])
              have iN : (1 : Int) ≤ (L : Int) := by omega
              have hlt : ¬ (x0 : Int) < (x0 : Int) := by omega
              have HGO := Lib.hid (ls_go HRG.out HRE.out HNX.out (by show ¬ bn rest 0 < bn rest 0; rw [HX0.out]; exact hlt))
              go_upto_region 8 with fail
              go_quiet (fail)
              generalize hwx : World.drewN wr _ = wx
              have HB5 : Hid (Below w.heap.size w wx) := Lib.hid (by rw [← hwx]; exact below_drewN HB.out _)
              have HG5 : Hid (Gx wx Q gp0) := Lib.hid (by rw [← hwx]; exact HG1.out.below (below_drewN (Below.refl _ _) _))
              have HG6 : Hid (Gx wx Q2 ⟨false, inR done⟩) := Lib.hid (by rw [← hwx]; exact HG2.out.below (below_drewN (Below.refl _ _) _))
              clear hwx
              go_wp2
              go_loopw [8] (fun i w5 => ∃ b : Nat, i = .int .i64 (b : Int) ∧ x0 ≤ b ∧ b ≤ x0 + 1 ∧ Gx w5 Q gp0 ∧ Gx w5 Q2 (gpTo done x0 b) ∧ Below w.heap.size w w5) (fun i _ => 300 - (intOf i).toNat)
              case atStart => exact ⟨x0, rfl, Nat.le_refl _, by omega, HG5.out, by rw [gpTo_start]; exact HG6.out, HB5.out⟩
              case round =>
                obtain ⟨b, rfl, hb1, hb2, hq1, hq2, hq3⟩ := hrel
                have HQ1 := Lib.hid hq1
                have HQ2' := Lib.hid hq2
                have HQ3 := Lib.hid hq3
                clear hq1 hq2 hq3
                by_cases hle : (b : Int) ≤ (x0 : Int)
                · have hb0 : (0 : Int) ≤ (b : Int) := by omega
                  have hb256 : (b : Int) < 256 := by omega
                  have hw1 : IntKind.i64.wrap ((b : Int) + 1) = (b : Int) + 1 := by rw [IntKind.wrap_i64]; omega
                  obtain ⟨u, hu⟩ : ∃ u : UInt8, u.toNat = b := ⟨UInt8.ofNat b, by simp; omega⟩
                  have c1 := HQ2'.out.at u
                  have f1 := HQ2'.out.soft b
                  have hset := HQ2'.out.set u true
                  rw [← hu] at hset
                  rw [gpTo_step done x0 u (by omega)] at hset
                  rw [hu] at c1 hset
                  have HS := Lib.hid hset
                  clear hu hset
                  have hne : ¬ Q = Q2 := by have := HQ2.out; omega
                  have HNE2 := Lib.hid hne
                  clear hne
                  go_wp2
                  go_roundw
                  case rel => exact ⟨b + 1, by simp, by omega, by omega, HQ1.out.other HNE2.out _, HS.out, HQ3.out.setCell (by have := HQ2.out; have := HQ.out; simp only; omega) _⟩
                  case measure => simp [intOf]; omega
                · have HF2 : Hid (gpTo done x0 b = ⟨false, inR (done ++ [(rest.getD 0 0, rest.getD 0 0)])⟩) := Lib.hid (by
                    rw [← gpTo_end]
                    have e1 : (rest.getD 0 0).toNat = x0 := by have := HX0.out; unfold bn at this; omega
                    have e2 : (rest.getD 0 0).toNat = x0 := by have := HX0.out; unfold bn at this; omega
                    rw [e1, show b = x0 + 1 from by omega])
                  rw [HF2.out] at HQ2'
                  rw [List.drop_one] at HEX HGO
                  have hex := HEX.out
                  go_wp2
                  go_roundw
                  case rel => exact ⟨rest.tail, _, rfl, HGO.out, HQ1.out, HQ2'.out, HQ3.out, by rw [List.length_tail, ← HL.out]; omega⟩
                  case measure => simp only [strSz]; rw [tx_size, List.length_tail, ← HL.out]; omega
          · have l3 : ¬ (2 : Int) < (L : Int) := by omega
            have HNX : Hid (nxN rest = 1) := Lib.hid (by unfold nxN; rw [if_neg (fun e => h3 (by rw [HL.out]; exact e.1))])
            have HEX : Hid ((tx rest).extract 1 L = tx (rest.drop 1)) := Lib.hid (by rw [tx_cut, List.take_of_length_le (by rw [List.length_drop, ← HL.out]; exact Nat.le_refl _)])
            have iN : (1 : Int) ≤ (L : Int) := by omega
            have hlt : ¬ (x0 : Int) < (x0 : Int) := by omega
            have HGO := Lib.hid (ls_go HRG.out HRE.out HNX.out (by show ¬ bn rest 0 < bn rest 0; rw [HX0.out]; exact hlt))
            go_upto_region 8 with fail
            go_quiet (fail)
            generalize hwx : World.drewN wr _ = wx
            have HB5 : Hid (Below w.heap.size w wx) := Lib.hid (by rw [← hwx]; exact below_drewN HB.out _)
            have HG5 : Hid (Gx wx Q gp0) := Lib.hid (by rw [← hwx]; exact HG1.out.below (below_drewN (Below.refl _ _) _))
            have HG6 : Hid (Gx wx Q2 ⟨false, inR done⟩) := Lib.hid (by rw [← hwx]; exact HG2.out.below (below_drewN (Below.refl _ _) _))
            clear hwx
            go_wp2
            go_loopw [8] (fun i w5 => ∃ b : Nat, i = .int .i64 (b : Int) ∧ x0 ≤ b ∧ b ≤ x0 + 1 ∧ Gx w5 Q gp0 ∧ Gx w5 Q2 (gpTo done x0 b) ∧ Below w.heap.size w w5) (fun i _ => 300 - (intOf i).toNat)
            case atStart => exact ⟨x0, rfl, Nat.le_refl _, by omega, HG5.out, by rw [gpTo_start]; exact HG6.out, HB5.out⟩
            case round =>
              obtain ⟨b, rfl, hb1, hb2, hq1, hq2, hq3⟩ := hrel
              have HQ1 := Lib.hid hq1
              have HQ2' := Lib.hid hq2
              have HQ3 := Lib.hid hq3
              clear hq1 hq2 hq3
              by_cases hle : (b : Int) ≤ (x0 : Int)
              · have hb0 : (0 : Int) ≤ (b : Int) := by omega
                have hb256 : (b : Int) < 256 := by omega
                have hw1 : IntKind.i64.wrap ((b : Int) + 1) = (b : Int) + 1 := by rw [IntKind.wrap_i64]; omega
                obtain ⟨u, hu⟩ : ∃ u : UInt8, u.toNat = b := ⟨UInt8.ofNat b, by simp; omega⟩
                have c1 := HQ2'.out.at u
                have f1 := HQ2'.out.soft b
                have hset := HQ2'.out.set u true
                rw [← hu] at hset
                rw [gpTo_step done x0 u (by omega)] at hset
                rw [hu] at c1 hset
                have HS := Lib.hid hset
                clear hu hset
                have hne : ¬ Q = Q2 := by have := HQ2.out; omega
                have HNE2 := Lib.hid hne
                clear hne
                go_wp2
                go_roundw
                case rel => exact ⟨b + 1, by simp, by omega, by omega, HQ1.out.other HNE2.out _, HS.out, HQ3.out.setCell (by have := HQ2.out; have := HQ.out; simp only; omega) _⟩
                case measure => simp [intOf]; omega
              · have HF2 : Hid (gpTo done x0 b = ⟨false, inR (done ++ [(rest.getD 0 0, rest.getD 0 0)])⟩) := Lib.hid (by
                  rw [← gpTo_end]
                  have e1 : (rest.getD 0 0).toNat = x0 := by have := HX0.out; unfold bn at this; omega
                  have e2 : (rest.getD 0 0).toNat = x0 := by have := HX0.out; unfold bn at this; omega
                  rw [e1, show b = x0 + 1 from by omega])
                rw [HF2.out] at HQ2'
                rw [List.drop_one] at HEX HGO
                have hex := HEX.out
                go_wp2
                go_roundw
                case rel => exact ⟨rest.tail, _, rfl, HGO.out, HQ1.out, HQ2'.out, HQ3.out, by rw [List.length_tail, ← HL.out]; omega⟩
                case measure => simp only [strSz]; rw [tx_size, List.length_tail, ← HL.out]; omega
end Go.Proofs.Ytmcgjkhbljdddaa
