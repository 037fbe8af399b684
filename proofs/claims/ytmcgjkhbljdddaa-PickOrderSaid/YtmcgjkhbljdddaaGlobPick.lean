/-
  The program's Match and Pick.
-/
import Derived.Test.YtmcgjkhbljdddaaGlobRead
import Derived.Test.YtmcgjkhbljdddaaGlobRun
namespace Go.Proofs.Ytmcgjkhbljdddaa
open Go.RowKit
set_option linter.unusedVariables false
set_option linter.unusedSimpArgs false

theorem read_none {s : Byt} (h : patT s = none) (w : World) : Calls Try.prog 23 #[.string (tx s)] w fun e w' => Below w.heap.size w w' ∧ e = .returned (.tuple #[.slice none 0 0, .bool false]) := by
  have := read_any s w
  rw [h] at this
  exact this
theorem read_some {s : Byt} {its : List Gi} (h : patT s = some its) (w : World) : Calls Try.prog 23 #[.string (tx s)] w fun e w' => Below w.heap.size w w' ∧ ∃ A c, e = .returned (.tuple #[.slice A its.length c, .bool true]) ∧ OwnL gpS 52 w' w.heap.size A its.length c (its.map gpOf) := by
  have := read_any s w
  rw [h] at this
  exact this
theorem may_any (s : Byt) (w : World) :
    Calls Try.prog 11 #[.string (tx s)] w fun e w' => e = .returned (.bool (patT s).isSome) ∧ Below w.heap.size w w' := by
  rcases hp : patT s with _ | its
  · have HC := Lib.hid (read_none hp w)
    clear hp
    go_enter Try.func11, Try.ntmps11
    go_wp2_with (go_at_call 23; refine HC.out.mono ?_; rintro e w1 ⟨hb1, rfl⟩; have HB := Lib.hid hb1; clear hb1)
    go_ret
    exact ⟨rfl, HB.out⟩
  · have HC := Lib.hid (read_some hp w)
    clear hp
    go_enter Try.func11, Try.ntmps11
    go_wp2_with (go_at_call 23; refine HC.out.mono ?_; rintro e w1 ⟨hb1, A1, c1, rfl, ho1⟩; have HB := Lib.hid hb1; clear hb1 ho1)
    go_ret
    exact ⟨rfl, HB.out⟩
theorem long_any (s : Byt) (w : World) :
    Calls Try.prog 25 #[.string (tx s)] w fun e w' => e = .returned (.bool (decide (200 < s.length))) ∧ w' = w := by
  have hts := tx_size s
  by_cases h : 200 < s.length
  · have hi : (200 : Int) < (s.length : Int) := by omega
    rw [decide_eq_true h]
    go_enter Try.func25, Try.ntmps25
    go_wp2
    go_ret
    exact ⟨by simp [hi], rfl⟩
  · have hi : ¬ (200 : Int) < (s.length : Int) := by omega
    rw [decide_eq_false h]
    go_enter Try.func25, Try.ntmps25
    go_wp2
    go_ret
    exact ⟨by first | (simp; done) | (simp; omega), rfl⟩

/-- how many parts a pattern has at most -/
theorem itF_len : ∀ (n : Nat) (s : Byt) (its : List Gi), itF n s = some its → its.length ≤ n
  | 0, s, its, h => by injection h with h; subst h; simp
  | n + 1, [], its, h => by injection h with h; subst h; simp
  | n + 1, c :: t, its, h => by
    simp only [itF] at h
    rcases hf : fsT (c :: t) with _ | ⟨it, r⟩
    · rw [hf] at h; cases h
    · rw [hf] at h
      simp only [] at h
      rcases hr : itF n r with _ | q
      · rw [hr] at h; cases h
      · rw [hr] at h
        injection h with h; subst h
        have := itF_len n r q hr
        simpa using this
theorem patT_len {s : Byt} {its : List Gi} (h : patT s = some its) : its.length ≤ 40 := by
  unfold patT at h
  by_cases h40 : 40 < s.length
  · rw [if_pos h40] at h; cases h
  · rw [if_neg h40] at h
    have := itF_len _ _ _ h
    omega

/-- what Match answers -/
def matT (p s : Byt) : Bool × Int :=
  match patT p with
  | none => (false, 4)
  | some its => if 200 < s.length then (false, 1) else (mt (its.map gpOf) s, 0)
theorem match_any (p s : Byt) (w : World) :
    Calls Try.prog 13 #[.string (tx p), .string (tx s)] w fun e w' => e = .returned (.tuple #[.bool (matT p s).1, .int .i64 (matT p s).2]) ∧ Below w.heap.size w w' := by
  have HL := Lib.hid (long_any s)
  unfold matT
  rcases hp : patT p with _ | its
  · have HC := Lib.hid (read_none hp w)
    clear hp
    go_enter Try.func13, Try.ntmps13
    go_wp2_with (go_at_call 23; refine HC.out.mono ?_; rintro e w1 ⟨hb1, rfl⟩; have HB := Lib.hid hb1; clear hb1)
    go_ret2
    exact ⟨rfl, HB.out⟩
  · have HC := Lib.hid (read_some hp w)
    have hl40 := patT_len hp
    obtain ⟨n, hn⟩ : ∃ n, its.length = n := ⟨_, rfl⟩
    rw [hn] at HC hl40
    clear hp
    by_cases h : 200 < s.length
    · simp only [h, if_true]
      rw [decide_eq_true h] at HL
      clear h
      go_enter Try.func13, Try.ntmps13
      go_wp2_with (first | (go_at_call 23; refine HC.out.mono ?_; rintro e w1 ⟨hb1, A1, c1, rfl, ho1⟩; have HB := Lib.hid hb1; clear hb1 ho1) | (go_at_call 25; refine (HL.out _).mono ?_; rintro e _ ⟨rfl, rfl⟩))
      go_ret2
      exact ⟨rfl, HB.out⟩
    · simp only [h, if_false]
      rw [decide_eq_false h] at HL
      have HS : Hid (s.length ≤ 1000000) := Lib.hid (by omega)
      clear h
      go_enter Try.func13, Try.ntmps13
      go_wp2_with (first | (go_at_call 23; refine HC.out.mono ?_; rintro e w1 ⟨hb1, A1, c1, rfl, ho1⟩; have HB := Lib.hid hb1; have HO := Lib.hid ho1; clear hb1 ho1) | (go_at_call 25; refine (HL.out _).mono ?_; rintro e _ ⟨rfl, rfl⟩) | (go_at_call 26; refine (matches_any _ A1 n c1 (its.map gpOf) s _ HO.out (by omega) HS.out).mono ?_; rintro e w5 ⟨rfl, hb5⟩; have HB5 := Lib.hid hb5; clear hb5))
      go_ret2
      exact ⟨rfl, bthen HB.out HB5.out⟩

/-- one of the names is too long -/
def LongAt (l : List Byt) (k : Int) : Prop := 0 ≤ k ↔ l.any (fun s => decide (200 < s.length)) = true
theorem long_none {l : List Byt} (h : l.any (fun s => decide (200 < s.length)) = false) : LongAt l (-1) := ⟨fun h => by omega, fun g => by rw [h] at g; cases g⟩
theorem long_some {l : List Byt} {k : Nat} (hk : k < l.length) (hr : decide (200 < (l.getD k []).length) = true) : LongAt l (k : Int) :=
  ⟨fun _ => List.any_eq_true.2 ⟨_, getD_mem hk, hr⟩, fun _ => by omega⟩
theorem short_take {l : List Byt} {k : Nat} (hk : k < l.length) (hr : decide (200 < (l.getD k []).length) = false) (h : (l.take k).any (fun s => decide (200 < s.length)) = false) : (l.take (k + 1)).any (fun s => decide (200 < s.length)) = false := by
  rw [List.take_add_one, List.getElem?_eq_getElem hk, List.any_append, h]
  rw [List.getD_eq_getElem?_getD, List.getElem?_eq_getElem hk] at hr
  simpa using hr
theorem longIdx_any (A : Option Addr) (n c : Nat) (l : List Byt) (w : World) (hb : Ls stS w A l) (hn : l.length = n) (hm : n ≤ 64) :
    Calls Try.prog 33 #[.slice A n c, .func (.func 25) #[] #[]] w fun e w' => (∃ k : Int, e = .returned (.int .i64 k) ∧ LongAt l k) ∧ Below w.heap.size w w' := by
  have HA := Lib.hid hb
  have HN := Lib.hid hn
  clear hb hn
  go_enter Try.func33, Try.ntmps33
  go_wp2
  go_loopw [8] (fun i wr => ∃ k : Nat, i = .int .i64 (k : Int) ∧ k ≤ n ∧ (l.take k).any (fun s => decide (200 < s.length)) = false ∧ Below w.heap.size w wr) (fun i _ => n - (intOf i).toNat)
  case atStart => exact ⟨0, rfl, Nat.zero_le _, rfl, Below.refl _ _⟩
  case round =>
    obtain ⟨k, rfl, hk, hall, hbw⟩ := hrel
    have HALL := Lib.hid hall
    have HBW := Lib.hid hbw
    clear hall hbw
    by_cases hlt : k < n
    · have hlti : (k : Int) < (n : Int) := by omega
      obtain ⟨b, o, rfl, hbl, hc⟩ := (HA.out.below HBW.out).text k (by rw [HN.out]; exact hlt)
      have HT : Hid (decide (200 < (l.getD k []).length) = false → (l.take (k + 1)).any (fun s => decide (200 < s.length)) = false) := Lib.hid fun h => short_take (by rw [HN.out]; exact hlt) h HALL.out
      have HS : Hid (decide (200 < (l.getD k []).length) = true → LongAt l (k : Int)) := Lib.hid fun h => long_some (by rw [HN.out]; exact hlt) h
      obtain ⟨x, hx⟩ : ∃ x, l.getD k [] = x := ⟨_, rfl⟩
      rw [hx] at hc HT HS
      have HC := Lib.hid (long_any x wr)
      obtain ⟨v, hv⟩ : ∃ v, decide (200 < x.length) = v := ⟨_, rfl⟩
      rw [hv] at HC HT HS
      clear hx hv
      cases v
      · go_wp2_with (go_at_call 25; refine HC.out.mono ?_; rintro e _ ⟨rfl, rfl⟩)
        go_roundw
        case rel => exact ⟨k + 1, by simp, by omega, HT.out (by first | rfl | trivial), HBW.out⟩
        case measure => simp [intOf]; omega
      · go_wp2_with (go_at_call 25; refine HC.out.mono ?_; rintro e _ ⟨rfl, rfl⟩)
        go_ret
        exact ⟨⟨_, rfl, HS.out (by first | rfl | trivial)⟩, HBW.out⟩
    · have hlti : ¬ (k : Int) < (n : Int) := by omega
      have HE : Hid (l.any (fun s => decide (200 < s.length)) = false) := Lib.hid (by have := HALL.out; rw [List.take_of_length_le (by rw [HN.out]; omega)] at this; exact this)
      go_wp2
      go_ret
      exact ⟨⟨-1, rfl, long_none HE.out⟩, HBW.out⟩
theorem longCont_any (A : Option Addr) (n c : Nat) (l : List Byt) (w : World) (hb : Ls stS w A l) (hn : l.length = n) (hm : n ≤ 64) :
    Calls Try.prog 28 #[.slice A n c, .func (.func 25) #[] #[]] w fun e w' => e = .returned (.bool (l.any (fun s => decide (200 < s.length)))) ∧ Below w.heap.size w w' := by
  have HC := Lib.hid (longIdx_any A n c l w hb hn hm)
  clear hb hn
  obtain ⟨v, hv⟩ : ∃ v, l.any (fun s => decide (200 < s.length)) = v := ⟨_, rfl⟩
  unfold LongAt at HC
  rw [hv] at HC ⊢
  clear hv
  cases v
  · go_enter Try.func28, Try.ntmps28
    go_wp2_with (go_at_call 33; refine HC.out.mono ?_; rintro e w1 ⟨⟨k, rfl, hk⟩, hb1⟩; have hk0 : ¬ (0 : Int) ≤ k := (fun h => by have := hk.1 h; cases this); have HB := Lib.hid hb1; clear hb1 hk)
    go_ret
    exact ⟨by first | rfl | exact congrArg (fun b => Ending.returned (.bool b)) (decide_eq_false (by omega)), HB.out⟩
  · go_enter Try.func28, Try.ntmps28
    go_wp2_with (go_at_call 33; refine HC.out.mono ?_; rintro e w1 ⟨⟨k, rfl, hk⟩, hb1⟩; have hk0 : (0 : Int) ≤ k := hk.2 rfl; have HB := Lib.hid hb1; clear hb1 hk)
    go_ret
    exact ⟨by first | rfl | exact congrArg (fun b => Ending.returned (.bool b)) (decide_eq_true hk0), HB.out⟩

/-- what Pick answers -/
def pickT (p : Byt) (l : List Byt) : Except Int (List Byt) :=
  match patT p with
  | none => .error 4
  | some its => if 64 < l.length ∨ l.any (fun s => decide (200 < s.length)) = true then .error 1 else .ok (l.filter fun s => mt (its.map gpOf) s)
def RetPk (w : World) (r : Except Int (List Byt)) (e : Ending) (w' : World) : Prop :=
  Below w.heap.size w w' ∧ match r with
  | .error c => e = .returned (.tuple #[.slice none 0 0, .int .i64 c])
  | .ok l => ∃ A c, e = .returned (.tuple #[.slice A l.length c, .int .i64 0]) ∧ OwnL stS 9 w' w.heap.size A l.length c l
theorem filt_take {f : Byt → Bool} {l : List Byt} {k : Nat} (hk : k < l.length) : (l.take (k + 1)).filter f = (l.take k).filter f ++ (if f (l.getD k []) then [l.getD k []] else []) := by
  rw [List.take_add_one, List.getElem?_eq_getElem hk, List.filter_append, List.getD_eq_getElem?_getD, List.getElem?_eq_getElem hk]
  simp only [Option.toList_some, Option.getD_some, List.filter_cons, List.filter_nil]
theorem filt_le {f : Byt → Bool} {l : List Byt} {k n : Nat} (hn : l.length = n) : ((l.take k).filter f).length ≤ k := by
  have h1 := (List.filter_sublist (p := f) (l := l.take k)).length_le
  rw [List.length_take] at h1; omega
theorem pick_err {p : Byt} {l : List Byt} {c : Int} (h : pickT p l = .error c) : (patT p = none ∧ c = 4) ∨ (∃ its, patT p = some its ∧ (64 < l.length ∨ l.any (fun s => decide (200 < s.length)) = true) ∧ c = 1) := by
  unfold pickT at h
  rcases hp : patT p with _ | its
  · rw [hp] at h; injection h with h; exact .inl ⟨rfl, h.symm⟩
  · rw [hp] at h
    simp only [] at h
    by_cases h1 : 64 < l.length ∨ l.any (fun s => decide (200 < s.length)) = true
    · rw [if_pos h1] at h; injection h with h; exact .inr ⟨its, rfl, h1, h.symm⟩
    · rw [if_neg h1] at h; cases h

set_option maxHeartbeats 4000000 in
theorem pick_any (p : Byt) (A : Option Addr) (n c : Nat) (l : List Byt) (w : World) (hb : Ls stS w A l) (hn : l.length = n) :
    Calls Try.prog 15 #[.string (tx p), .slice A n c] w (RetPk w (pickT p l)) := by
  have HA := Lib.hid hb
  have HN := Lib.hid hn
  rcases hp : patT p with _ | its
  · have HC := Lib.hid (read_none hp w)
    rw [show pickT p l = .error 4 from by unfold pickT; rw [hp]]
    clear hp hb hn
    go_enter Try.func15, Try.ntmps15
    go_wp2_with (go_at_call 23; refine HC.out.mono ?_; rintro e w1 ⟨hb1, rfl⟩; have HB := Lib.hid hb1; clear hb1)
    go_ret2
    exact ⟨HB.out, rfl⟩
  · have HC := Lib.hid (read_some hp w)
    have hl40 := patT_len hp
    by_cases h64 : 64 < n
    · have hi : (64 : Int) < (n : Int) := by omega
      rw [show pickT p l = .error 1 from by unfold pickT; rw [hp]; simp only []; rw [if_pos (.inl (by rw [hn]; exact h64))]]
      clear hp hb hn
      go_enter Try.func15, Try.ntmps15
      go_wp2_with (go_at_call 23; refine HC.out.mono ?_; rintro e w1 ⟨hb1, A1, c1, rfl, ho1⟩; have HB := Lib.hid hb1; clear hb1 ho1)
      go_ret2
      exact ⟨HB.out, rfl⟩
    · have hi : ¬ (64 : Int) < (n : Int) := by omega
      have HCF : Hid (∀ ww, Below w.heap.size w ww → Calls Try.prog 28 #[.slice A n c, .func (.func 25) #[] #[]] ww fun e w' => e = .returned (.bool (l.any (fun s => decide (200 < s.length)))) ∧ Below ww.heap.size ww w') := Lib.hid fun ww h => longCont_any A n c l ww (HA.out.below h) HN.out (by omega)
      obtain ⟨v, hv⟩ : ∃ v, l.any (fun s => decide (200 < s.length)) = v := ⟨_, rfl⟩
      rw [hv] at HCF
      cases v
      · rw [show pickT p l = .ok (l.filter fun s => mt (its.map gpOf) s) from by unfold pickT; rw [hp]; simp only []; rw [if_neg (by rw [hn, hv]; simp; omega)]]
        have HSH : Hid (∀ s ∈ l, s.length ≤ 200) := Lib.hid fun s hs => by
          have := List.any_eq_false.1 hv s hs
          simpa using this
        obtain ⟨m, hm⟩ : ∃ m, its.length = m := ⟨_, rfl⟩
        rw [hm] at HC hl40
        clear hp hb hn hv hm
        go_enter Try.func15, Try.ntmps15
        go_wp2_with (first | (go_at_call 23; refine HC.out.mono ?_; rintro e w1 ⟨hb1, A1, c1, rfl, ho1⟩; have HB := Lib.hid hb1; have HO := Lib.hid ho1; clear hb1 ho1) | (go_at_call 28; refine (HCF.out _ HB.out).mono ?_; rintro e w2 ⟨rfl, hb2⟩; have HB2 := Lib.hid hb2; clear hb2))
        have HBB : Hid (Below w.heap.size w w2) := Lib.hid (bthen HB.out HB2.out)
        have HO2 := Lib.hid (HO.out.below HB2.out)
        clear HB HB2 HO
        go_loopw [8, 29] (fun i8 i29 wr => ∃ (k : Nat) (B : Option Addr) (d : Nat), i29 = .int .i64 (k : Int) ∧ k ≤ n ∧ i8 = .slice B ((l.take k).filter fun s => mt (its.map gpOf) s).length d ∧ OwnL stS 9 wr w2.heap.size B ((l.take k).filter fun s => mt (its.map gpOf) s).length d ((l.take k).filter fun s => mt (its.map gpOf) s) ∧ Below w2.heap.size w2 wr) (fun _ i _ => n - (intOf i).toNat)
        case atStart => exact ⟨0, none, 0, rfl, Nat.zero_le _, rfl, OwnL.nil _ _, Below.refl _ _⟩
        case round =>
          obtain ⟨k, B, d, rfl, hk, rfl, how, hbw⟩ := hrel
          have HOW := Lib.hid how
          have HBW := Lib.hid hbw
          clear how hbw
          by_cases hlt : k < n
          · have hlti : (k : Int) < (n : Int) := by omega
            obtain ⟨b, o, rfl, hbl, hc⟩ := ((HA.out.below HBB.out).below HBW.out).text k (by rw [HN.out]; exact hlt)
            have HFT : Hid ((l.take (k + 1)).filter (fun s => mt (its.map gpOf) s) = (l.take k).filter (fun s => mt (its.map gpOf) s) ++ (if mt (its.map gpOf) (l.getD k []) then [l.getD k []] else [])) := Lib.hid (filt_take (by rw [HN.out]; exact hlt))
            have HFL : Hid (((l.take k).filter fun s => mt (its.map gpOf) s).length ≤ k) := Lib.hid (filt_le HN.out)
            have HXL : Hid ((l.getD k []).length ≤ 1000000) := Lib.hid (by have := HSH.out _ (getD_mem (by rw [HN.out]; exact hlt)); omega)
            obtain ⟨x, hx⟩ : ∃ x, l.getD k [] = x := ⟨_, rfl⟩
            rw [hx] at hc HFT HXL
            obtain ⟨F, hF⟩ : ∃ F, (l.take k).filter (fun s => mt (its.map gpOf) s) = F := ⟨_, rfl⟩
            rw [hF] at HFT HFL HOW ⊢
            obtain ⟨fl, hfl⟩ : ∃ fl, F.length = fl := ⟨_, rfl⟩
            rw [hfl] at HFL HOW ⊢
            have HFLN := Lib.hid hfl
            have hflk := HFL.out
            have HCM := Lib.hid (matches_any _ A1 m c1 (its.map gpOf) x wr (HO2.out.below HBW.out) (by omega) HXL.out)
            obtain ⟨v, hv⟩ : ∃ v, mt (its.map gpOf) x = v := ⟨_, rfl⟩
            rw [hv] at HCM HFT
            clear hx hF hfl hv
            cases v
            · go_wp2_with (go_at_call 26; refine HCM.out.mono ?_; rintro e w5 ⟨rfl, hb5⟩; have HB5 := Lib.hid hb5; clear hb5)
              go_roundw
              case rel => exact ⟨k + 1, B, d, by simp, by omega, by rw [HFT.out]; simp [HFLN.out], by rw [HFT.out]; simp only [Bool.false_eq_true, if_false, List.append_nil]; rw [HFLN.out]; exact HOW.out.below HB5.out, bthen HBW.out HB5.out⟩
              case measure => simp [intOf]; omega
            · go_wp2_with (first
                | (go_at_call 26; refine HCM.out.mono ?_; rintro e w5 ⟨rfl, hb5⟩; have HB5 := Lib.hid hb5; clear hb5)
                | (at_builtin; refine wpList_appL (F := stS) rfl _ (.tmp 36) (.tmp 38) 27 rfl _ 16 Try.underlying27 stInfo rfl w2.heap.size B fl d F rfl ((HOW.out.below HB5.out).below (ba1 _ _)) (some ⟨w5.heap.size, 0, none⟩) 1 1 [x] rfl (ls_new w5 _ _ _ rfl _ rfl) rfl (fl + 1) rfl (by omega) (by omega) (by have := HBW.out.size; have := HB5.out.size; simp; omega) ?_; intro A8 c8 w9 ho8 hb8 _; have HO8 := Lib.hid ho8; have HB9 : Hid (Below w2.heap.size w2 w9) := Lib.hid (((bthen HBW.out HB5.out).alloc (bthen HBW.out HB5.out).size _).trans hb8); clear ho8 hb8))
              go_roundw
              case rel => exact ⟨k + 1, A8, c8, by simp, by omega, by rw [HFT.out]; simp [HFLN.out], by rw [HFT.out]; simp only [if_true]; rw [List.length_append, HFLN.out]; exact HO8.out, HB9.out⟩
              case measure => simp [intOf]; omega
          · have hlti : ¬ (k : Int) < (n : Int) := by omega
            have e : l.take k = l := List.take_of_length_le (by rw [HN.out]; omega)
            rw [e] at HOW ⊢
            obtain ⟨F, hF⟩ : ∃ F, l.filter (fun s => mt (its.map gpOf) s) = F := ⟨_, rfl⟩
            rw [hF] at HOW ⊢
            have HF := Lib.hid hF
            clear e hF
            go_wp2
            go_ret2
            exact ⟨bthen HBB.out HBW.out, B, d, by rw [HF.out]; rfl, by rw [HF.out]; exact HOW.out.base HBB.out.size⟩
      · rw [show pickT p l = .error 1 from by unfold pickT; rw [hp]; simp only []; rw [if_pos (.inr hv)]]
        clear hp hb hn hv
        go_enter Try.func15, Try.ntmps15
        go_wp2_with (first | (go_at_call 23; refine HC.out.mono ?_; rintro e w1 ⟨hb1, A1, c1, rfl, ho1⟩; have HB := Lib.hid hb1; clear hb1 ho1) | (go_at_call 28; refine (HCF.out _ HB.out).mono ?_; rintro e w2 ⟨rfl, hb2⟩; have HB2 := Lib.hid hb2; clear hb2))
        go_ret2
        exact ⟨bthen HB.out HB2.out, rfl⟩
end Go.Proofs.Ytmcgjkhbljdddaa
