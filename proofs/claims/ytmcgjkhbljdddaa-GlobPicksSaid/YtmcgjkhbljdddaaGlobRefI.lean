/-
  The document's globItems.
-/
import Derived.Test.YtmcgjkhbljdddaaGlobRefM
namespace Go.Proofs.Ytmcgjkhbljdddaa
open Go.RowKit
set_option linter.unusedVariables false
set_option linter.unusedSimpArgs false

theorem body_cons {a : UInt8} {t : Byt} (h1 : a ≠ 93) (h2 : a ≠ 92) : bodyT (a :: t) = a :: bodyT t := by simp [bodyT, h1, h2]
theorem drop_c (s : Byt) (i : Nat) (h : i < s.length) : s.drop i = s.getD i 0 :: s.drop (i + 1) := by
  rw [List.drop_eq_getElem_cons h, List.getD_eq_getElem?_getD, List.getElem?_eq_getElem h]; rfl
theorem fits_body (s : Byt) (i : Nat) : fitsB s i = true ↔ (i < s.length ∧ s.getD i 0 ≠ 93 ∧ s.getD i 0 ≠ 92) := by simp [fitsB]
theorem body_fit {s : Byt} {i : Nat} (h : fitsB s i = true) : bodyT (s.drop i) = s.getD i 0 :: bodyT (s.drop (i + 1)) := by
  obtain ⟨h1, h2, h3⟩ := (fits_body s i).1 h
  rw [drop_c s i h1, body_cons h2 h3]
theorem body_off {s : Byt} {i : Nat} (h : fitsB s i = false) : bodyT (s.drop i) = [] := by
  by_cases hl : i < s.length
  · rw [drop_c s i hl]
    by_cases h1 : s.getD i 0 = 93
    · rw [h1]; simp [bodyT]
    · by_cases h2 : s.getD i 0 = 92
      · rw [h2]; simp [bodyT]
      · have : fitsB s i = true := (fits_body s i).2 ⟨hl, h1, h2⟩
        rw [h] at this; cases this
  · rw [List.drop_eq_nil_of_le (by omega)]; rfl
/-- a range of two -/
theorem body_three {s : Byt} {i : Nat} (h : fitsB s i = true) (h1 : i + 1 < s.length) (h2 : s.getD (i + 1) 0 = 45) (h3 : fitsB s (i + 2) = true) :
    nxN (bodyT (s.drop i)) = 3 ∧ bodyT (s.drop i) = s.getD i 0 :: 45 :: s.getD (i + 2) 0 :: bodyT (s.drop (i + 3)) := by
  have e2 := body_fit h3
  have hf : fitsB s (i + 1) = true := (fits_body s (i + 1)).2 ⟨h1, by rw [h2]; decide, by rw [h2]; decide⟩
  have e1 := body_fit hf
  rw [h2] at e1
  rw [show i + 2 = i + 1 + 1 from rfl] at e2
  have e : bodyT (s.drop i) = s.getD i 0 :: 45 :: s.getD (i + 2) 0 :: bodyT (s.drop (i + 3)) := by rw [body_fit h, e1, e2]
  refine ⟨?_, e⟩
  rw [e]; simp [nxN]
theorem body_one {s : Byt} {i : Nat} (h : fitsB s i = true) (hn : ¬ (i + 1 < s.length ∧ s.getD (i + 1) 0 = 45 ∧ fitsB s (i + 2) = true)) : nxN (bodyT (s.drop i)) = 1 := by
  unfold nxN
  rw [if_neg]
  rintro ⟨g1, g2⟩
  rw [body_fit h] at g1 g2
  simp only [List.length_cons] at g1
  have hf1 : fitsB s (i + 1) = true := by
    by_cases e : fitsB s (i + 1) = true
    · exact e
    · rw [body_off (by simpa using e)] at g1; simp at g1
  rw [body_fit hf1] at g1 g2
  simp only [List.length_cons] at g1
  have hf2 : fitsB s (i + 2) = true := by
    by_cases e : fitsB s (i + 2) = true
    · exact e
    · rw [show i + 1 + 1 = i + 2 from rfl, body_off (by simpa using e)] at g1; simp at g1
  exact hn ⟨((fits_body s (i + 1)).1 hf1).1, by simpa using g2, hf2⟩

/-- how far the document's loop over a set has come -/
structure SetAt (s : Byt) (i0 j : Nat) (done : List (UInt8 × UInt8)) : Prop where
  le : i0 ≤ j
  rg : rgT (bodyT (s.drop i0)) = (rgT (bodyT (s.drop j))).map (done ++ ·)
  len : (bodyT (s.drop i0)).length = (j - i0) + (bodyT (s.drop j)).length
theorem set_at (s : Byt) (i0 : Nat) : SetAt s i0 i0 [] := ⟨Nat.le_refl _, by rcases rgT (bodyT (s.drop i0)) with _ | q <;> simp, by omega⟩
theorem SetAt.three {s : Byt} {i0 j : Nat} {done : List (UInt8 × UInt8)} (h : SetAt s i0 j done) (hf : fitsB s j = true) (h1 : j + 1 < s.length) (h2 : s.getD (j + 1) 0 = 45) (h3 : fitsB s (j + 2) = true) :
    (s.getD (j + 2) 0 < s.getD j 0 → rgT (bodyT (s.drop i0)) = none) ∧ (¬ s.getD (j + 2) 0 < s.getD j 0 → SetAt s i0 (j + 3) (done ++ [(s.getD j 0, s.getD (j + 2) 0)])) := by
  obtain ⟨e1, e2⟩ := body_three hf h1 h2 h3
  have hr := rgT_step (l := bodyT (s.drop j)) (by rw [e2]; simp)
  rw [e1] at hr
  have g0 : (bodyT (s.drop j)).getD 0 0 = s.getD j 0 := by rw [e2]; rfl
  have g2 : (bodyT (s.drop j)).getD (3 - 1) 0 = s.getD (j + 2) 0 := by rw [e2]; rfl
  have g3 : (bodyT (s.drop j)).drop 3 = bodyT (s.drop (j + 3)) := by rw [e2]; rfl
  rw [g0, g2, g3] at hr
  refine ⟨fun hlt => by rw [h.rg, hr, if_pos hlt]; rfl, fun hlt => ⟨by have := h.le; omega, ?_, ?_⟩⟩
  · rw [h.rg, hr, if_neg hlt]
    rcases rgT (bodyT (s.drop (j + 3))) with _ | q <;> simp
  · have := h.len
    have hle := h.le
    rw [e2] at this
    simp only [List.length_cons] at this
    omega
theorem SetAt.one {s : Byt} {i0 j : Nat} {done : List (UInt8 × UInt8)} (h : SetAt s i0 j done) (hf : fitsB s j = true) (hn : ¬ (j + 1 < s.length ∧ s.getD (j + 1) 0 = 45 ∧ fitsB s (j + 2) = true)) :
    SetAt s i0 (j + 1) (done ++ [(s.getD j 0, s.getD j 0)]) := by
  have e1 := body_one hf hn
  have e2 := body_fit hf
  have hr := rgT_step (l := bodyT (s.drop j)) (by rw [e2]; simp)
  rw [e1] at hr
  have g0 : (bodyT (s.drop j)).getD 0 0 = s.getD j 0 := by rw [e2]; rfl
  have g3 : (bodyT (s.drop j)).drop 1 = bodyT (s.drop (j + 1)) := by rw [e2]; rfl
  rw [Nat.sub_self, g0, g3, if_neg (by simp)] at hr
  refine ⟨by have := h.le; omega, ?_, ?_⟩
  · rw [h.rg, hr]
    rcases rgT (bodyT (s.drop (j + 1))) with _ | q <;> simp
  · have := h.len
    have hle := h.le
    rw [e2] at this
    simp only [List.length_cons] at this
    omega
/-- where the loop ends -/
theorem SetAt.fin {s : Byt} {i i0 j : Nat} {done : List (UInt8 × UInt8)} (h : SetAt s i0 j done) (hf : fitsB s j = false) (neg : Bool) (hu : setU (s.drop i) = s.drop i0) (hneg : decide ((s.drop i).head? = some 94) = neg) :
    setT (s.drop i) = if done = [] ∨ (s.drop j).head? ≠ some 93 then none else some (⟨91, 0, done, neg⟩, (s.drop j).tail) := by
  have hb := body_off hf
  have hr := h.rg
  have hl := h.len
  have hle := h.le
  rw [hb] at hr hl
  simp only [List.length_nil, Nat.add_zero] at hl
  have hr' : rgT (bodyT (s.drop i0)) = some done := by rw [hr]; simp [rgT]
  have he : setE (s.drop i0) = s.drop j := by
    unfold setE
    rw [hl, List.drop_drop, show i0 + (j - i0) = j from by omega]
  unfold setT
  rw [hu, hr', hneg, he]
theorem setT_rg {s : Byt} {i i0 : Nat} (h : rgT (bodyT (s.drop i0)) = none) (hu : setU (s.drop i) = s.drop i0) : setT (s.drop i) = none := by
  unfold setT; rw [hu, h]
theorem setU_at (s : Byt) (i : Nat) : (i < s.length ∧ s.getD i 0 = 94 → setU (s.drop i) = s.drop (i + 1) ∧ decide ((s.drop i).head? = some 94) = true) ∧ (¬ (i < s.length ∧ s.getD i 0 = 94) → setU (s.drop i) = s.drop i ∧ decide ((s.drop i).head? = some 94) = false) := by
  by_cases hl : i < s.length
  · rw [drop_c s i hl]
    refine ⟨fun ⟨_, h⟩ => by rw [h]; exact ⟨rfl, rfl⟩, fun h => ?_⟩
    have hn : s.getD i 0 ≠ 94 := fun e => h ⟨hl, e⟩
    have hn' : ¬ (some (s.getD i 0) = some 94) := fun e => hn (Option.some.inj e)
    exact ⟨by unfold setU; rw [List.head?_cons, if_neg hn'], by rw [List.head?_cons]; exact decide_eq_false hn'⟩
  · rw [List.drop_eq_nil_of_le (by omega)]
    exact ⟨fun h => absurd h.1 hl, fun _ => ⟨by rw [show setU [] = [] from rfl], rfl⟩⟩

/-- the next part, in the document's words -/
theorem it_next {s : Byt} {i i' : Nat} {ds : List Gi} {it : Gi} (h : itT s = (itT (s.drop i)).map (ds ++ ·)) (hf : fsT (s.drop i) = some (it, s.drop i')) : itT s = (itT (s.drop i')).map ((ds ++ [it]) ++ ·) := by
  rw [h, itT_some hf]
  rcases itT (s.drop i') with _ | q <;> simp
theorem it_stop {s : Byt} {i : Nat} {ds : List Gi} (h : itT s = (itT (s.drop i)).map (ds ++ ·)) (hi : i < s.length) (hf : fsT (s.drop i) = none) : itT s = none := by
  rw [h, itT_none hf (by rw [drop_c s i hi]; simp)]; rfl

/-- what globItems answers -/
def RetIt (w : World) (o : Option (List Gi)) (e : Ending) (w' : World) : Prop :=
  Below w.heap.size w w' ∧ match o with
  | none => e = .returned (.tuple #[.slice none 0 0, .bool false])
  | some its => ∃ A c l, e = .returned (.tuple #[.slice A its.length c, .bool true]) ∧ OwnL giS 57 w' w.heap.size A its.length c l ∧ l.map Iv.it = its ∧ II w' (fun k => (Value.slice A its.length c).ownBlock = some k) l

set_option maxHeartbeats 100000000 in
set_option maxRecDepth 100000 in
theorem items_any (s : Byt) (w : World) : Calls Try.prog 24 #[.string (tx s)] w (RetIt w (patT s)) := by
  have hts := tx_size s
  obtain ⟨Q, hQ⟩ : ∃ Q, Q = w.heap.size := ⟨_, rfl⟩
  obtain ⟨w1, hw1⟩ : ∃ w1, w1 = w.alloc (.cells #[.string (tx s)] 9) := ⟨_, rfl⟩
  have HB1 : Hid (Below w.heap.size w w1) := Lib.hid (by rw [hw1]; exact ba1 _ _)
  have HX1 : Hid (Bx 9 w1 Q #[.string (tx s)]) := Lib.hid (by rw [hw1, hQ]; exact bx_new _ _ _)
  have HQ := Lib.hid hQ
  by_cases h40 : 40 < s.length
  · have h1 : (40 : Int) < (s.length : Int) := by omega
    have c0 := HX1.out.cell 0 _ rfl
    rw [show patT s = none from by unfold patT; rw [if_pos h40]]
    go_enter Try.func24, Try.ntmps24
    go_upto_region 1 with fail
    rw [← hw1, ← hQ]
    clear hw1 hQ
    go_wp2
    go_ret2
    exact ⟨HB1.out, rfl⟩
  · rw [show patT s = itT s from by unfold patT; rw [if_neg h40]]
    have bg := bn_get s
    have HSL : Hid (s.length ≤ 40) := Lib.hid (by omega)
    obtain ⟨L, hL⟩ : ∃ L, s.length = L := ⟨_, rfl⟩
    have h1 : ¬ (40 : Int) < (L : Int) := by omega
    rw [hL] at hts
    have HL := Lib.hid hL
    have hL40 : L ≤ 40 := by omega
    have c0 := HX1.out.cell 0 _ rfl
    clear hL h40
    go_enter Try.func24, Try.ntmps24
    go_upto_region 1 with fail
    rw [← hw1, ← hQ]
    clear hw1 hQ
    go_wp2
    clear c0 h1
    go_loopw [4, 5] (fun v4 v5 wr => ∃ (i : Nat) (ds : List Gi) (A : Option Addr) (c m : Nat) (l : List Iv), v5 = .int .i64 (i : Int) ∧ v4 = .slice A m c ∧ OwnL giS 57 wr (Q + 1) A m c l ∧ l.map Iv.it = ds ∧ II wr (fun k => (Value.slice A m c).ownBlock = some k) l ∧
      itT s = (itT (s.drop i)).map (ds ++ ·) ∧ i ≤ L ∧ m ≤ i ∧ Bx 9 wr Q #[.string (tx s)] ∧ Below w.heap.size w wr) (fun _ v5 _ => L - (intOf v5).toNat)
    case atStart => exact ⟨0, [], none, 0, 0, [], rfl, rfl, OwnL.nil _ _, rfl, II.nil _ _, by rw [List.drop_zero]; rcases itT s with _ | q <;> simp, Nat.zero_le _, Nat.le_refl _, HX1.out, HB1.out⟩
    case round =>
      obtain ⟨i, ds, A, c, m, l, rfl, rfl, how, hds, hii, hit, hiL, hmi, hbx, hbw⟩ := hrel
      have c0 := hbx.cell 0 (.string (tx s)) rfl
      have HOW := Lib.hid how
      have HDS := Lib.hid hds
      have HII := Lib.hid hii
      have HIT := Lib.hid hit
      have HBX := Lib.hid hbx
      have HBW := Lib.hid hbw
      clear how hds hii hit hbx hbw
      by_cases hlt : i < L
      · have hli : (i : Int) < (L : Int) := by omega
        have i0 : (0 : Int) ≤ (i : Int) := by omega
        have hdc : s.drop i = s.getD i 0 :: s.drop (i + 1) := drop_c s i (by rw [HL.out]; exact hlt)
        have HDC := Lib.hid hdc
        have w1i : IntKind.i64.wrap ((i : Int) + 1) = (i : Int) + 1 := by rw [IntKind.wrap_i64]; omega
        have w2i : IntKind.i64.wrap ((i : Int) + 2) = (i : Int) + 2 := by rw [IntKind.wrap_i64]; omega
        have hz1 : Q + 1 ≤ wr.heap.size := HBX.out.lt
        clear hdc
        -- a part that is pushed as it stands
        have push : ∀ (wa : World) (iv : Iv) (i' : Nat), Below wr.heap.size wr wa → iv.it.rgs = [] → iv.n = 0 → iv.A = none → fsT (s.drop i) = some (iv.it, s.drop i') → i' ≤ L → i < i' → ∀ A' c' w', OwnL giS 57 w' (Q + 1) A' (m + 1) c' (l ++ [iv]) → Below (Q + 1) wa w' → Beside (.slice A m c) (.slice A' (m + 1) c') wa w' →
            (∃ (ds : List Gi) (l : List Iv), OwnL giS 57 w' (Q + 1) A' (m + 1) c' l ∧ l.map Iv.it = ds ∧ II w' (fun k => (Value.slice A' (m + 1) c').ownBlock = some k) l ∧ itT s = (itT (s.drop i')).map (ds ++ ·) ∧ i' ≤ L ∧ m + 1 ≤ i' ∧ Bx 9 w' Q #[.string (tx s)] ∧ Below w.heap.size w w') := by
          intro wa iv i' hb hrg hn hA hf hi' hii' A' c' w' ho hb' hs'
          refine ⟨ds ++ [iv.it], l ++ [iv], ho, by rw [List.map_append, HDS.out]; rfl, ?_, it_next HIT.out hf, hi', by omega, (HBX.out.below hb).below' hb' (by omega), ?_⟩
          · refine II.grown (II.app (HII.out.new hb) (II.one (by rw [hrg, hn]; rfl) (by rw [hrg]; exact Ls.nil _ _) (by rw [hA]; exact Clear.none _))) hb' hs'
          · exact (HBW.out.trans (hb.mono HBW.out.size)).trans (hb'.mono (by rw [← HQ.out]; omega))
        have PUSH := Lib.hid push
        clear push
        obtain ⟨x, hx⟩ : ∃ x, s.getD i 0 = x := ⟨_, rfl⟩
        have hbx : bn s i = (x.toNat : Int) := by unfold bn; rw [hx]
        have HX := Lib.hid hx
        rw [hx] at HDC
        clear hx
        by_cases hk : x = 42
        · have hb9 : bn s i = 42 := by rw [hbx, hk]; rfl
          have HFS : Hid (fsT (s.drop i) = some (⟨42, 0, [], false⟩, s.drop (i + 1))) := Lib.hid (by rw [HDC.out, hk]; exact fsT_any _ (.inl rfl))
          clear hbx hk
          go_wp2_with (at_builtin; refine wpList_appL (F := giS) rfl _ (.tmp 31) (.tmp 36) 44 rfl _ 40 Try.underlying44 giInfo rfl (Q + 1) A m c l rfl (HOW.out.below (ba1 _ _)) (some ⟨wr.heap.size, 0, none⟩) 1 1 [⟨⟨42, 0, [], false⟩, none, 0, 0⟩] rfl (ls_new wr _ _ _ rfl _ rfl) rfl (m + 1) rfl (by omega) (by omega) (by simp; omega) ?_; intro A8 c8 w8 ho8 hb8 hs8; have HO8 := Lib.hid (PUSH.out _ ⟨⟨42, 0, [], false⟩, none, 0, 0⟩ (i + 1) (ba1 _ _) rfl rfl rfl (HFS.out) (by omega) (by omega) A8 c8 w8 ho8 hb8 hs8); clear ho8 hb8 hs8)
          go_roundw
          case rel =>
            obtain ⟨ds', l', q1, q2, q3, q4, q5, q6, q7, q8⟩ := HO8.out
            exact ⟨i + 1, ds', A8, c8, m + 1, l', by simp, rfl, q1, q2, q3, q4, q5, q6, q7, q8⟩
          case measure => first | (simp [intOf]; done) | (simp [intOf]; omega)
        · have n42 : ¬ (x.toNat : Int) = 42 := fun e => hk (UInt8.toNat_inj.1 (by show x.toNat = 42; omega))
          have m42 := hk
          clear hk
          by_cases hk : x = 63
          · have hb9 : bn s i = 63 := by rw [hbx, hk]; rfl
            have HFS : Hid (fsT (s.drop i) = some (⟨63, 0, [], false⟩, s.drop (i + 1))) := Lib.hid (by rw [HDC.out, hk]; exact fsT_any _ (.inr rfl))
            clear hbx hk
            go_wp2_with (at_builtin; refine wpList_appL (F := giS) rfl _ (.tmp 31) (.tmp 36) 44 rfl _ 40 Try.underlying44 giInfo rfl (Q + 1) A m c l rfl (HOW.out.below (ba1 _ _)) (some ⟨wr.heap.size, 0, none⟩) 1 1 [⟨⟨63, 0, [], false⟩, none, 0, 0⟩] rfl (ls_new wr _ _ _ rfl _ rfl) rfl (m + 1) rfl (by omega) (by omega) (by simp; omega) ?_; intro A8 c8 w8 ho8 hb8 hs8; have HO8 := Lib.hid (PUSH.out _ ⟨⟨63, 0, [], false⟩, none, 0, 0⟩ (i + 1) (ba1 _ _) rfl rfl rfl (HFS.out) (by omega) (by omega) A8 c8 w8 ho8 hb8 hs8); clear ho8 hb8 hs8)
            go_roundw
            case rel =>
              obtain ⟨ds', l', q1, q2, q3, q4, q5, q6, q7, q8⟩ := HO8.out
              exact ⟨i + 1, ds', A8, c8, m + 1, l', by simp, rfl, q1, q2, q3, q4, q5, q6, q7, q8⟩
            case measure => first | (simp [intOf]; done) | (simp [intOf]; omega)
          · have n63 : ¬ (x.toNat : Int) = 63 := fun e => hk (UInt8.toNat_inj.1 (by show x.toNat = 63; omega))
            have m63 := hk
            clear hk
            by_cases hk : x = 92
            · have hb9 : bn s i = 92 := by rw [hbx, hk]; rfl
              by_cases hl2 : i + 1 < L
              · have hl2i : (i : Int) + 1 < (L : Int) := by omega
                obtain ⟨y, hy⟩ : ∃ y, s.getD (i + 1) 0 = y := ⟨_, rfl⟩
                have HFS : Hid (fsT (s.drop i) = some (⟨61, y, [], false⟩, s.drop (i + 2))) := Lib.hid (by rw [HDC.out, hk, drop_c s (i + 1) (by rw [HL.out]; exact hl2), hy, fsT_esc])
                have hby : bn s (i + 1) = (y.toNat : Int) := by unfold bn; rw [hy]
                have i1 : (0 : Int) ≤ (i : Int) + 1 := by omega
                have it1 : ((i : Int) + 1).toNat = i + 1 := by omega
                clear hbx hk n42 n63 m42 m63 hy
                go_wp2_with (at_builtin; refine wpList_appL (F := giS) rfl _ (.tmp 47) (.tmp 53) 44 rfl _ 40 Try.underlying44 giInfo rfl (Q + 1) A m c l rfl (HOW.out.below (ba1 _ _)) (some ⟨wr.heap.size, 0, none⟩) 1 1 [⟨⟨61, y, [], false⟩, none, 0, 0⟩] rfl (ls_new wr _ _ _ rfl _ rfl) rfl (m + 1) rfl (by omega) (by omega) (by simp; omega) ?_; intro A8 c8 w8 ho8 hb8 hs8; have HO8 := Lib.hid (PUSH.out _ ⟨⟨61, y, [], false⟩, none, 0, 0⟩ (i + 2) (ba1 _ _) rfl rfl rfl (HFS.out) (by omega) (by omega) A8 c8 w8 ho8 hb8 hs8); clear ho8 hb8 hs8)
                go_roundw
                case rel =>
                  obtain ⟨ds', l', q1, q2, q3, q4, q5, q6, q7, q8⟩ := HO8.out
                  exact ⟨i + 2, ds', A8, c8, m + 1, l', by simp, rfl, q1, q2, q3, q4, q5, q6, q7, q8⟩
                case measure => first | (simp [intOf]; done) | (simp [intOf]; omega)
              · have hl2i : ¬ (i : Int) + 1 < (L : Int) := by omega
                have HF : Hid (itT s = none) := Lib.hid (it_stop HIT.out (by rw [HL.out]; exact hlt) (by rw [HDC.out, hk, List.drop_eq_nil_of_le (by rw [HL.out]; omega)]; rfl))
                clear hbx hk n42 n63 m42 m63
                go_wp2_with fail
                go_ret2
                rw [HF.out]
                exact ⟨HBW.out, rfl⟩
            · have n92 : ¬ (x.toNat : Int) = 92 := fun e => hk (UInt8.toNat_inj.1 (by show x.toNat = 92; omega))
              have m92 := hk
              clear hk
              by_cases hk : x = 91
              · have hb9 : bn s i = 91 := by rw [hbx, hk]; rfl
                have HFS : Hid (fsT (s.drop i) = setT (s.drop (i + 1))) := Lib.hid (by rw [HDC.out, hk, fsT_set])
                clear hbx hk n42 n63 n92 m42 m63 m92
                obtain ⟨wo, rfl⟩ : ∃ wo, wo = wr := ⟨_, rfl⟩
                obtain ⟨X, hX⟩ : ∃ X, X = wo.heap.size := ⟨_, rfl⟩
                have hdone := setU_at s (i + 1)
                have i10 : (0 : Int) ≤ (i : Int) + 1 := by omega
                have it1 : ((i : Int) + 1).toNat = i + 1 := by omega
                have w11i : IntKind.i64.wrap ((i : Int) + 1 + 1) = (i : Int) + 2 := by rw [IntKind.wrap_i64]; omega
                go_upto_region 20 with fail
                obtain ⟨w9, hw9⟩ : ∃ w9, w9 = wo.alloc (.cells #[.int .u8 91, .int .u8 0, .slice none 0 0, .bool false] 57) := ⟨_, rfl⟩
                have hx9 : Bx 57 w9 X #[.int .u8 91, .int .u8 0, .slice none 0 0, .bool false] ∧ Below X wo w9 := by
                  rw [hw9, hX]
                  exact ⟨bx_new _ _ _, ba1 _ _⟩
                rw [← hw9, ← hX]
                have hX2 := Lib.hid hX
                clear hw9 c0 hX
                have c09 := (HBX.out.below (by rw [← hX2.out]; exact hx9.2)).cell 0 (.string (tx s)) rfl
                have x93 := hx9.1.cell 3 (.bool false) rfl
                have f93 := hx9.1.soft 3
                have HX9 := Lib.hid hx9
                clear hx9
                rcases (show (i + 1 < L ∧ s.getD (i + 1) 0 = 94) ∨ (¬ i + 1 < L) ∨ (i + 1 < L ∧ s.getD (i + 1) 0 ≠ 94) by
                  by_cases h1 : i + 1 < L
                  · by_cases h2 : s.getD (i + 1) 0 = 94
                    · exact .inl ⟨h1, h2⟩
                    · exact .inr (.inr ⟨h1, h2⟩)
                  · exact .inr (.inl h1)) with hg | hg | hg
                · have h1i : (i : Int) + 1 < (L : Int) := by omega
                  have b94 : bn s (i + 1) = 94 := (bn_eq s (i + 1) 94).2 hg.2
                  have HSU := Lib.hid (hdone.1 ⟨by rw [HL.out]; exact hg.1, hg.2⟩)
                  clear hg
                  go_upto_region 24 with fail
                  obtain ⟨w2, hw2⟩ : ∃ w2, w2 = w9.setCell ⟨X, 3, none⟩ (.bool true) := ⟨_, rfl⟩
                  have hx2 : Bx 57 w2 X #[.int .u8 91, .int .u8 0, .slice none 0 0, .bool true] ∧ Below X wo w2 := by
                    rw [hw2]
                    exact ⟨HX9.out.1.set 3 (.bool true), HX9.out.2.setCell (Nat.le_refl _) _⟩
                  rw [← hw2]
                  clear hw2
                  have HX2 : Hid (Bx 57 w2 X #[.int .u8 91, .int .u8 0, .slice none 0 0, .bool true] ∧ Below X wo w2) := Lib.hid hx2
                  clear hx2 hdone c09 x93 f93 HX9
                  have hmf : ∀ (fn : Fn) (first cap : Array Value) (w : World), (Instr.makeFunc fn first cap).run Try.prog w = .ok (.func fn first cap) w := fun _ _ _ _ => rfl
                  go_wp2
                  go_loopw [5] (fun v5 wx => ∃ (j : Nat) (done : List (UInt8 × UInt8)) (B : Option Addr) (d q : Nat), v5 = .int .i64 (j : Int) ∧ Bx 57 wx X #[.int .u8 91, .int .u8 0, .slice B q d, .bool true] ∧ OwnL rrS 59 wx (X + 1) B q d done ∧ SetAt s (i + 2) j done ∧ j ≤ L ∧ q ≤ j ∧ Below X wo wx) (fun v5 _ => L - (intOf v5).toNat)
                  case atStart => exact ⟨(i + 2), [], none, 0, 0, by simp, HX2.out.1, OwnL.nil _ _, set_at s _, by omega, Nat.zero_le _, HX2.out.2⟩
                  case round =>
                    obtain ⟨j, done, B, d, q, rfl, hx, hro, hsa, hjL, hqj, hbj⟩ := hrel
                    have cQ := (HBX.out.below (by rw [← hX2.out]; exact hbj)).cell 0 (.string (tx s)) rfl
                    have hXl := hx.lt
                    have x2 := hx.cell 2 (.slice B q d) rfl
                    have f2 := hx.soft 2
                    have HX := Lib.hid hx
                    have HRO := Lib.hid hro
                    have HSA := Lib.hid hsa
                    have HBJ := Lib.hid hbj
                    clear hx hro hsa hbj
                    have HFT := Lib.hid (fits_any s j Q)
                    have HFT2 : Hid (∀ ww, ww.cell? ⟨Q, 0, none⟩ = some (.string (tx s)) → Calls Try.prog 30 #[.int .i64 ((j : Int) + 2), .pointer (some ⟨Q, 0, none⟩)] ww fun e w' => e = .returned (.bool (fitsB s (j + 2))) ∧ ww = w') := Lib.hid fun ww hc => by
                      have := fits_any s (j + 2) Q ww hc
                      have e : ((j + 2 : Nat) : Int) = (j : Int) + 2 := by omega
                      rwa [e] at this
                    have j0 : (0 : Int) ≤ (j : Int) := by omega
                    have w1j : IntKind.i64.wrap ((j : Int) + 1) = (j : Int) + 1 := by rw [IntKind.wrap_i64]; omega
                    have w2j : IntKind.i64.wrap ((j : Int) + 2) = (j : Int) + 2 := by rw [IntKind.wrap_i64]; omega
                    rcases hf : fitsB s j with _ | _
                    · rw [hf] at HFT
                      have HFIN : Hid (setT (s.drop (i + 1)) = if done = [] ∨ (s.drop j).head? ≠ some 93 then none else some (⟨91, 0, done, true⟩, (s.drop j).tail)) := Lib.hid (HSA.out.fin hf true HSU.out.1 HSU.out.2)
                      have HQL : Hid (done.length = q) := Lib.hid HRO.out.1
                      clear hf
                      have stop : (done = [] ∨ (s.drop j).head? ≠ some 93) → itT s = none := fun h => it_stop HIT.out (by rw [HL.out]; exact hlt) (by rw [HFS.out, HFIN.out, if_pos h])
                      have STOP := Lib.hid stop
                      clear stop
                      by_cases hq0 : q = 0
                      · have hqi : (q : Int) = 0 := by omega
                        have HN0 : Hid (itT s = none) := Lib.hid (STOP.out (.inl (List.eq_nil_of_length_eq_zero (by rw [HQL.out]; exact hq0))))
                        clear hq0
                        go_wp2_with (go_at_call 30; refine (HFT.out _ cQ).mono ?_; rintro e _ ⟨rfl, rfl⟩)
                        go_ret2
                        rw [HN0.out]
                        exact ⟨(HBW.out.trans (HBJ.out.mono (by rw [hX2.out]; exact HBW.out.size))), rfl⟩
                      · have hqi : ¬ (q : Int) = 0 := by omega
                        have hqb : ((q : Int) == 0) = false := by simpa using hqi
                        by_cases hjl : j < L
                        · have hji : ¬ (L : Int) ≤ (j : Int) := by omega
                          have hjlt : (j : Int) < (L : Int) := by omega
                          have hdj : s.drop j = s.getD j 0 :: s.drop (j + 1) := drop_c s j (by rw [HL.out]; exact hjl)
                          by_cases h93 : s.getD j 0 = 93
                          · have b93 : bn s j = 93 := (bn_eq s j 93).2 h93
                            have HFS2 : Hid (fsT (s.drop i) = some (⟨91, 0, done, true⟩, s.drop (j + 1))) := Lib.hid (by
                              rw [HFS.out, HFIN.out, if_neg (by
                                rintro (e | e)
                                · rw [e] at HQL; exact hq0 HQL.out.symm
                                · rw [hdj, h93] at e; exact e rfl), hdj]; rfl)
                            clear hdj h93 hq0
                            obtain ⟨wj, rfl⟩ : ∃ wj, wj = wr := ⟨_, rfl⟩
                            have xa0 := HX.out.cell 0 (.int .u8 91) rfl
                            have xa1 := HX.out.cell 1 (.int .u8 0) rfl
                            have xa3 := HX.out.cell 3 (.bool true) rfl
                            have HBJo : Hid (Below wo.heap.size wo wj) := Lib.hid (by have := HBJ.out; rwa [hX2.out] at this)
                            have hzz : Q + 1 ≤ wj.heap.size := Nat.le_trans hz1 HBJo.out.size
                            have hii : i < j + 1 := by have := HSA.out.le; omega
                            go_wp2_with (first
                              | (go_at_call 30; refine (HFT.out _ cQ).mono ?_; rintro e _ ⟨rfl, rfl⟩)
                              | (at_builtin; refine wpList_appL (F := giS) rfl _ (.tmp 142) (.tmp 144) 44 rfl _ 40 Try.underlying44 giInfo rfl (Q + 1) A m c l rfl ((HOW.out.below HBJo.out).below (ba1 _ _)) (some ⟨wj.heap.size, 0, none⟩) 1 1 [⟨⟨91, 0, done, true⟩, B, q, d⟩] rfl (ls_new wj _ _ _ rfl _ rfl) rfl (m + 1) rfl (by omega) (by omega) (by simp; omega) ?_; intro A8 c8 w8 ho8 hb8 hs8; have HO8 := Lib.hid ho8; have HB8 := Lib.hid hb8; have HS8 := Lib.hid hs8; clear ho8 hb8 hs8))
                            have hII : II wj (fun k => (Value.slice A m c).ownBlock = some k) [⟨⟨91, 0, done, true⟩, B, q, d⟩] := II.one HRO.out.1 HRO.out.ls (fun a ha g => by
                              have ha : B = some a := ha
                              have hk := HRO.out.lt a.block (by rw [ha]; rfl)
                              rcases g with g | g
                              · have := (HOW.out.lt _ g).2
                                have e := hX2.out
                                omega
                              · omega)
                            go_roundw
                            case rel =>
                              exact ⟨j + 1, ds ++ [⟨91, 0, done, true⟩], A8, c8, m + 1, l ++ [⟨⟨91, 0, done, true⟩, B, q, d⟩], by simp, rfl, HO8.out, by rw [List.map_append, HDS.out]; rfl,
                                II.grown (((HII.out.new HBJo.out).app hII).new (ba1 _ _)) HB8.out HS8.out, it_next HIT.out HFS2.out, by omega, by omega,
                                ((HBX.out.below HBJo.out).below (ba1 _ _)).below' HB8.out (by omega),
                                ((HBW.out.trans (HBJo.out.mono HBW.out.size)).alloc (Nat.le_trans HBW.out.size HBJo.out.size) _).trans (HB8.out.mono (by rw [← HQ.out]; omega))⟩
                            case measure => first | (simp [intOf]; done) | (simp [intOf]; omega)
                          · have n93 : ¬ bn s j = 93 := fun e => h93 ((bn_eq s j 93).1 e)
                            have n93a : (bn s j == 93) = false := by simpa using n93
                            have n93b : (bn s j != 93) = true := by simpa using n93
                            have HN0 : Hid (itT s = none) := Lib.hid (STOP.out (.inr (by rw [hdj]; exact fun e => h93 (Option.some.inj e))))
                            clear hdj h93 hq0
                            go_wp2_with (go_at_call 30; refine (HFT.out _ cQ).mono ?_; rintro e _ ⟨rfl, rfl⟩)
                            go_ret2
                            rw [HN0.out]
                            exact ⟨(HBW.out.trans (HBJ.out.mono (by rw [hX2.out]; exact HBW.out.size))), rfl⟩
                        · have hji : (L : Int) ≤ (j : Int) := by omega
                          have HN0 : Hid (itT s = none) := Lib.hid (STOP.out (.inr (by rw [List.drop_eq_nil_of_le (by rw [HL.out]; omega)]; simp)))
                          clear hq0
                          go_wp2_with (go_at_call 30; refine (HFT.out _ cQ).mono ?_; rintro e _ ⟨rfl, rfl⟩)
                          go_ret2
                          rw [HN0.out]
                          exact ⟨(HBW.out.trans (HBJ.out.mono (by rw [hX2.out]; exact HBW.out.size))), rfl⟩
                    · rw [hf] at HFT
                      obtain ⟨hjlt, -, -⟩ := (fits_body s j).1 hf
                      rw [HL.out] at hjlt
                      have hji : (j : Int) < (L : Int) := by omega
                      have HFJ := Lib.hid hf
                      clear hf
                      obtain ⟨wj, rfl⟩ : ∃ wj, wj = wr := ⟨_, rfl⟩
                      have hQj : Q < wj.heap.size := by have := hX2.out; omega
                      go_upto_region 26 with (go_at_call 30; refine (HFT.out _ cQ).mono ?_; rintro e _ ⟨rfl, rfl⟩)
                      go_cut [8] (fun p wx => ∃ R, p = .pointer (some ⟨R, 0, none⟩) ∧ X < R ∧ wj.heap.size ≤ R ∧ Bx 59 wx R #[.int .u8 (bn s j), .int .u8 (bn s j)] ∧ Below wj.heap.size wj wx)
                      case first =>
                        go_region
                        go_wp2_with fail
                        go_meet
                        exact ⟨_, rfl, hXl, Nat.le_refl _, (bx_new _ _ _).below (Below.refl _ _).drew, (ba1 _ _).drew⟩
                      case rest =>
                        obtain ⟨R, rfl, hXR, hjR, hR, hbc⟩ := hcut
                        have HOFF : Hid (Off R (.slice B q d)) := Lib.hid (fun k hk => by have := (HRO.out.lt k hk).2; omega)
                        have cQ2 := (hbc.cell (p := ⟨Q, 0, none⟩) hQj).trans cQ
                        have HXc : Hid (Bx 57 wc X #[.int .u8 91, .int .u8 0, .slice B q d, .bool true]) := Lib.hid (HX.out.below hbc)
                        have HROc := Lib.hid (HRO.out.below hbc)
                        have HBc : Hid (Below X wo wc) := Lib.hid (HBJ.out.trans (hbc.mono (Nat.le_of_lt hXl)))
                        have hXc : X < wc.heap.size := HXc.out.lt
                        have hQc : Q < wc.heap.size := Nat.lt_of_lt_of_le hQj hbc.size
                        have r0 := hR.cell 0 (.int .u8 (bn s j)) rfl
                        have r1 := hR.cell 1 (.int .u8 (bn s j)) rfl
                        have fr := hR.soft 1
                        have HR := Lib.hid hR
                        have hRc := hR.lt
                        clear hR hbc x2 f2 cQ HX HRO HBJ hXl hQj
                        have jt1 : ((j : Int) + 1).toNat = j + 1 := by omega
                        have jt2 : ((j : Int) + 2).toNat = j + 2 := by omega
                        have j1 : (0 : Int) ≤ (j : Int) + 1 := by omega
                        have j2 : (0 : Int) ≤ (j : Int) + 2 := by omega
                        have w21j : IntKind.i64.wrap ((j : Int) + 2 + 1) = (j : Int) + 3 := by rw [IntKind.wrap_i64]; omega
                        have w3j : IntKind.i64.wrap ((j : Int) + 3) = (j : Int) + 3 := by rw [IntKind.wrap_i64]; omega
                        have hne : ¬ X = R := by omega
                        by_cases h1 : j + 1 < L
                        · have h1i : (j : Int) + 1 < (L : Int) := by omega
                          by_cases h45 : bn s (j + 1) = 45
                          · have e45 := (bn_eq s (j + 1) 45).1 h45
                            rcases hf2 : fitsB s (j + 2) with _ | _
                            · rw [hf2] at HFT2
                              have HST := Lib.hid (HSA.out.one HFJ.out (fun e => by rw [hf2] at e; cases e.2.2))
                              clear hf2 e45
                              have hnl : ¬ bn s j < bn s j := by omega
                              go_upto_region 33 with (go_at_call 30; refine (HFT2.out _ cQ2).mono ?_; rintro e _ ⟨rfl, rfl⟩)
                              have HX4 := HXc
                              have HRO4 := HROc
                              have HB4 := HBc
                              have HR4 := HR
                              clear r0 r1 fr
                              have xa2 := HX4.out.cell 2 (.slice B q d) rfl
                              have fa2 := HX4.out.soft 2
                              have ra0 := HR4.out.cell 0 (.int .u8 (bn s j)) rfl
                              have ra1 := HR4.out.cell 1 (.int .u8 (bn s j)) rfl
                              have hX4 : X < wc.heap.size := HX4.out.lt
                              have hR4 : R < wc.heap.size := HR4.out.lt
                              go_wp2_with (at_builtin; refine wpList_appL (F := rrS) rfl _ (.tmp 119) (.tmp 121) 55 rfl _ 2 Try.underlying55 rrInfo rfl (X + 1) B q d done rfl (HRO4.out.below (ba1 _ _)) (some ⟨wc.heap.size, 0, none⟩) 1 1 [(s.getD j 0, s.getD j 0)] rfl (ls_new wc _ _ _ rfl _ rfl) rfl (q + 1) rfl (by omega) (by omega) (by simp; omega) ?_; intro B8 d8 w8 ho8 hb8 hs8; have HO8 := Lib.hid ho8; have HB8 : Hid (Below X wo w8) := Lib.hid ((HB4.out.alloc (Nat.le_of_lt hX4) _).trans (hb8.mono (Nat.le_succ X))); have hx8 : Bx 57 w8 X #[.int .u8 91, .int .u8 0, .slice B q d, .bool true] := (HX4.out.below (ba1 _ _)).below' hb8 (Nat.lt_succ_self X); have x82 := hx8.cell 2 (.slice B q d) rfl; have f82 := hx8.soft 2; have HX8 := Lib.hid hx8; clear ho8 hb8 hs8 hx8)
                              go_roundw
                              case rel => exact ⟨j + 1, done ++ [(s.getD j 0, s.getD j 0)], B8, d8, q + 1, by simp, HX8.out.set 2 (.slice B8 (q + 1) d8), HO8.out.set (Off.under (fun k hk => (HO8.out.lt k hk).1) (Nat.lt_succ_self X)) _ _, HST.out, by omega, by omega, HB8.out.setCell (Nat.le_refl _) _⟩
                              case measure => first | (simp [intOf]; done) | (simp [intOf]; omega)
                            · rw [hf2] at HFT2
                              obtain ⟨s1, s2⟩ := HSA.out.three HFJ.out (by rw [HL.out]; exact h1) e45 hf2
                              have h2l : j + 2 < L := by have := ((fits_body s (j + 2)).1 hf2).1; rwa [HL.out] at this
                              have h2i : (j : Int) + 2 < (L : Int) := by omega
                              have S1 := Lib.hid s1
                              have S2 := Lib.hid s2
                              clear hf2 e45 s1 s2
                              by_cases hlt2 : bn s (j + 2) < bn s j
                              · have HN0 : Hid (itT s = none) := Lib.hid (it_stop HIT.out (by rw [HL.out]; exact hlt) (by rw [HFS.out]; exact setT_rg (S1.out ((u8_lt _ _).2 hlt2)) HSU.out.1))
                                go_wp2_with (go_at_call 30; refine (HFT2.out _ cQ2).mono ?_; rintro e _ ⟨rfl, rfl⟩)
                                go_ret2
                                rw [HN0.out]
                                exact ⟨(HBW.out.trans ((HBc.out.setCell (Nat.le_of_lt hXR) _).mono (by rw [hX2.out]; exact HBW.out.size))), rfl⟩
                              · have HST := Lib.hid (S2.out fun e => hlt2 ((u8_lt _ _).1 e))
                                go_upto_region 33 with (go_at_call 30; refine (HFT2.out _ cQ2).mono ?_; rintro e _ ⟨rfl, rfl⟩)
                                obtain ⟨w4, hw4⟩ : ∃ w4, w4 = wc.setCell ⟨R, 1, none⟩ (.int .u8 (bn s (j + 2))) := ⟨_, rfl⟩
                                have HX4 : Hid (Bx 57 w4 X #[.int .u8 91, .int .u8 0, .slice B q d, .bool true]) := Lib.hid (by rw [hw4]; exact HXc.out.other hne _)
                                have HRO4 : Hid (OwnL rrS 59 w4 (X + 1) B q d done) := Lib.hid (by rw [hw4]; exact HROc.out.set HOFF.out 1 _)
                                have HB4 : Hid (Below X wo w4) := Lib.hid (by rw [hw4]; exact HBc.out.setCell (Nat.le_of_lt hXR) _)
                                have HR4 : Hid (Bx 59 w4 R #[.int .u8 (bn s j), .int .u8 (bn s (j + 2))]) := Lib.hid (by rw [hw4]; exact HR.out.set 1 _)
                                rw [← hw4]
                                clear hw4 r0 r1 fr
                                have xa2 := HX4.out.cell 2 (.slice B q d) rfl
                                have fa2 := HX4.out.soft 2
                                have ra0 := HR4.out.cell 0 (.int .u8 (bn s j)) rfl
                                have ra1 := HR4.out.cell 1 (.int .u8 (bn s (j + 2))) rfl
                                have hX4 : X < w4.heap.size := HX4.out.lt
                                have hR4 : R < w4.heap.size := HR4.out.lt
                                go_wp2_with (at_builtin; refine wpList_appL (F := rrS) rfl _ (.tmp 119) (.tmp 121) 55 rfl _ 2 Try.underlying55 rrInfo rfl (X + 1) B q d done rfl (HRO4.out.below (ba1 _ _)) (some ⟨w4.heap.size, 0, none⟩) 1 1 [(s.getD j 0, s.getD (j + 2) 0)] rfl (ls_new w4 _ _ _ rfl _ rfl) rfl (q + 1) rfl (by omega) (by omega) (by simp; omega) ?_; intro B8 d8 w8 ho8 hb8 hs8; have HO8 := Lib.hid ho8; have HB8 : Hid (Below X wo w8) := Lib.hid ((HB4.out.alloc (Nat.le_of_lt hX4) _).trans (hb8.mono (Nat.le_succ X))); have hx8 : Bx 57 w8 X #[.int .u8 91, .int .u8 0, .slice B q d, .bool true] := (HX4.out.below (ba1 _ _)).below' hb8 (Nat.lt_succ_self X); have x82 := hx8.cell 2 (.slice B q d) rfl; have f82 := hx8.soft 2; have HX8 := Lib.hid hx8; clear ho8 hb8 hs8 hx8)
                                go_roundw
                                case rel => exact ⟨j + 3, done ++ [(s.getD j 0, s.getD (j + 2) 0)], B8, d8, q + 1, by simp, HX8.out.set 2 (.slice B8 (q + 1) d8), HO8.out.set (Off.under (fun k hk => (HO8.out.lt k hk).1) (Nat.lt_succ_self X)) _ _, HST.out, by omega, by omega, HB8.out.setCell (Nat.le_refl _) _⟩
                                case measure => first | (simp [intOf]; done) | (simp [intOf]; omega)
                          · have HST := Lib.hid (HSA.out.one HFJ.out (fun e => h45 ((bn_eq s (j + 1) 45).2 e.2.1)))
                            have hnl : ¬ bn s j < bn s j := by omega
                            go_upto_region 33 with fail
                            have HX4 := HXc
                            have HRO4 := HROc
                            have HB4 := HBc
                            have HR4 := HR
                            clear r0 r1 fr
                            have xa2 := HX4.out.cell 2 (.slice B q d) rfl
                            have fa2 := HX4.out.soft 2
                            have ra0 := HR4.out.cell 0 (.int .u8 (bn s j)) rfl
                            have ra1 := HR4.out.cell 1 (.int .u8 (bn s j)) rfl
                            have hX4 : X < wc.heap.size := HX4.out.lt
                            have hR4 : R < wc.heap.size := HR4.out.lt
                            go_wp2_with (at_builtin; refine wpList_appL (F := rrS) rfl _ (.tmp 119) (.tmp 121) 55 rfl _ 2 Try.underlying55 rrInfo rfl (X + 1) B q d done rfl (HRO4.out.below (ba1 _ _)) (some ⟨wc.heap.size, 0, none⟩) 1 1 [(s.getD j 0, s.getD j 0)] rfl (ls_new wc _ _ _ rfl _ rfl) rfl (q + 1) rfl (by omega) (by omega) (by simp; omega) ?_; intro B8 d8 w8 ho8 hb8 hs8; have HO8 := Lib.hid ho8; have HB8 : Hid (Below X wo w8) := Lib.hid ((HB4.out.alloc (Nat.le_of_lt hX4) _).trans (hb8.mono (Nat.le_succ X))); have hx8 : Bx 57 w8 X #[.int .u8 91, .int .u8 0, .slice B q d, .bool true] := (HX4.out.below (ba1 _ _)).below' hb8 (Nat.lt_succ_self X); have x82 := hx8.cell 2 (.slice B q d) rfl; have f82 := hx8.soft 2; have HX8 := Lib.hid hx8; clear ho8 hb8 hs8 hx8)
                            go_roundw
                            case rel => exact ⟨j + 1, done ++ [(s.getD j 0, s.getD j 0)], B8, d8, q + 1, by simp, HX8.out.set 2 (.slice B8 (q + 1) d8), HO8.out.set (Off.under (fun k hk => (HO8.out.lt k hk).1) (Nat.lt_succ_self X)) _ _, HST.out, by omega, by omega, HB8.out.setCell (Nat.le_refl _) _⟩
                            case measure => first | (simp [intOf]; done) | (simp [intOf]; omega)
                        · have h1i : ¬ (j : Int) + 1 < (L : Int) := by omega
                          have HST := Lib.hid (HSA.out.one HFJ.out (fun e => h1 (by rw [← HL.out]; exact e.1)))
                          have hnl : ¬ bn s j < bn s j := by omega
                          go_upto_region 33 with fail
                          have HX4 := HXc
                          have HRO4 := HROc
                          have HB4 := HBc
                          have HR4 := HR
                          clear r0 r1 fr
                          have xa2 := HX4.out.cell 2 (.slice B q d) rfl
                          have fa2 := HX4.out.soft 2
                          have ra0 := HR4.out.cell 0 (.int .u8 (bn s j)) rfl
                          have ra1 := HR4.out.cell 1 (.int .u8 (bn s j)) rfl
                          have hX4 : X < wc.heap.size := HX4.out.lt
                          have hR4 : R < wc.heap.size := HR4.out.lt
                          go_wp2_with (at_builtin; refine wpList_appL (F := rrS) rfl _ (.tmp 119) (.tmp 121) 55 rfl _ 2 Try.underlying55 rrInfo rfl (X + 1) B q d done rfl (HRO4.out.below (ba1 _ _)) (some ⟨wc.heap.size, 0, none⟩) 1 1 [(s.getD j 0, s.getD j 0)] rfl (ls_new wc _ _ _ rfl _ rfl) rfl (q + 1) rfl (by omega) (by omega) (by simp; omega) ?_; intro B8 d8 w8 ho8 hb8 hs8; have HO8 := Lib.hid ho8; have HB8 : Hid (Below X wo w8) := Lib.hid ((HB4.out.alloc (Nat.le_of_lt hX4) _).trans (hb8.mono (Nat.le_succ X))); have hx8 : Bx 57 w8 X #[.int .u8 91, .int .u8 0, .slice B q d, .bool true] := (HX4.out.below (ba1 _ _)).below' hb8 (Nat.lt_succ_self X); have x82 := hx8.cell 2 (.slice B q d) rfl; have f82 := hx8.soft 2; have HX8 := Lib.hid hx8; clear ho8 hb8 hs8 hx8)
                          go_roundw
                          case rel => exact ⟨j + 1, done ++ [(s.getD j 0, s.getD j 0)], B8, d8, q + 1, by simp, HX8.out.set 2 (.slice B8 (q + 1) d8), HO8.out.set (Off.under (fun k hk => (HO8.out.lt k hk).1) (Nat.lt_succ_self X)) _ _, HST.out, by omega, by omega, HB8.out.setCell (Nat.le_refl _) _⟩
                          case measure => first | (simp [intOf]; done) | (simp [intOf]; omega)
                · have h1i : ¬ (i : Int) + 1 < (L : Int) := by omega
                  have HSU := Lib.hid (hdone.2 (fun e => hg (by have := e.1; rw [HL.out] at this; exact this)))
                  clear hg
                  go_upto_region 24 with fail
                  obtain ⟨w2, hw2⟩ : ∃ w2, w2 = w9 := ⟨_, rfl⟩
                  have hx2 : Bx 57 w2 X #[.int .u8 91, .int .u8 0, .slice none 0 0, .bool false] ∧ Below X wo w2 := by
                    rw [hw2]
                    exact HX9.out
                  rw [← hw2]
                  rw [← hw2] at c09
                  have HX2 : Hid (Bx 57 w2 X #[.int .u8 91, .int .u8 0, .slice none 0 0, .bool false] ∧ Below X wo w2) := Lib.hid hx2
                  have hmf : ∀ (fn : Fn) (first cap : Array Value) (w : World), (Instr.makeFunc fn first cap).run Try.prog w = .ok (.func fn first cap) w := fun _ _ _ _ => rfl
                  have hfo : fitsB s (i + 1) = false := by
                    rw [Bool.eq_false_iff]
                    intro e
                    have := ((fits_body s (i + 1)).1 e).1
                    rw [HL.out] at this
                    exact h1i (by omega)
                  have HFT := Lib.hid (fits_any s (i + 1) Q w2 c09)
                  rw [hfo] at HFT
                  clear hw2
                  have e1c : ((i + 1 : Nat) : Int) = (i : Int) + 1 := by omega
                  rw [e1c] at HFT
                  have HN0 : Hid (itT s = none) := Lib.hid (it_stop HIT.out (by rw [HL.out]; exact hlt) (by rw [HFS.out, (set_at s (i + 1)).fin hfo false HSU.out.1 HSU.out.2, if_pos (.inl rfl)]))
                  have x2 := HX2.out.1.cell 2 (.slice none 0 0) rfl
                  clear hx2 hdone HX9 hfo e1c
                  go_wp2
                  go_loopw [5] (fun v5 wx => v5 = .int .i64 ((i : Int) + 1) ∧ w2 = wx) (fun v5 _ => 0)
                  case atStart => exact ⟨rfl, rfl⟩
                  case round =>
                    obtain ⟨rfl, rfl⟩ := hrel
                    go_wp2_with (go_at_call 30; refine HFT.out.mono ?_; rintro e _ ⟨rfl, rfl⟩)
                    go_ret2
                    rw [HN0.out]
                    exact ⟨(HBW.out.trans (HX2.out.2.mono (by rw [hX2.out]; exact HBW.out.size))), rfl⟩
                · have h1i : (i : Int) + 1 < (L : Int) := by omega
                  have b94 : ¬ bn s (i + 1) = 94 := fun e => hg.2 ((bn_eq s (i + 1) 94).1 e)
                  have b94a : (bn s (i + 1) == 94) = false := by simpa using b94
                  have HSU := Lib.hid (hdone.2 (fun e => hg.2 e.2))
                  clear hg
                  go_upto_region 24 with fail
                  obtain ⟨w2, hw2⟩ : ∃ w2, w2 = w9 := ⟨_, rfl⟩
                  have hx2 : Bx 57 w2 X #[.int .u8 91, .int .u8 0, .slice none 0 0, .bool false] ∧ Below X wo w2 := by
                    rw [hw2]
                    exact HX9.out
                  rw [← hw2]
                  clear hw2
                  have HX2 : Hid (Bx 57 w2 X #[.int .u8 91, .int .u8 0, .slice none 0 0, .bool false] ∧ Below X wo w2) := Lib.hid hx2
                  clear hx2 hdone c09 x93 f93 HX9
                  have hmf : ∀ (fn : Fn) (first cap : Array Value) (w : World), (Instr.makeFunc fn first cap).run Try.prog w = .ok (.func fn first cap) w := fun _ _ _ _ => rfl
                  go_wp2
                  go_loopw [5] (fun v5 wx => ∃ (j : Nat) (done : List (UInt8 × UInt8)) (B : Option Addr) (d q : Nat), v5 = .int .i64 (j : Int) ∧ Bx 57 wx X #[.int .u8 91, .int .u8 0, .slice B q d, .bool false] ∧ OwnL rrS 59 wx (X + 1) B q d done ∧ SetAt s (i + 1) j done ∧ j ≤ L ∧ q ≤ j ∧ Below X wo wx) (fun v5 _ => L - (intOf v5).toNat)
                  case atStart => exact ⟨(i + 1), [], none, 0, 0, by simp, HX2.out.1, OwnL.nil _ _, set_at s _, by omega, Nat.zero_le _, HX2.out.2⟩
                  case round =>
                    obtain ⟨j, done, B, d, q, rfl, hx, hro, hsa, hjL, hqj, hbj⟩ := hrel
                    have cQ := (HBX.out.below (by rw [← hX2.out]; exact hbj)).cell 0 (.string (tx s)) rfl
                    have hXl := hx.lt
                    have x2 := hx.cell 2 (.slice B q d) rfl
                    have f2 := hx.soft 2
                    have HX := Lib.hid hx
                    have HRO := Lib.hid hro
                    have HSA := Lib.hid hsa
                    have HBJ := Lib.hid hbj
                    clear hx hro hsa hbj
                    have HFT := Lib.hid (fits_any s j Q)
                    have HFT2 : Hid (∀ ww, ww.cell? ⟨Q, 0, none⟩ = some (.string (tx s)) → Calls Try.prog 30 #[.int .i64 ((j : Int) + 2), .pointer (some ⟨Q, 0, none⟩)] ww fun e w' => e = .returned (.bool (fitsB s (j + 2))) ∧ ww = w') := Lib.hid fun ww hc => by
                      have := fits_any s (j + 2) Q ww hc
                      have e : ((j + 2 : Nat) : Int) = (j : Int) + 2 := by omega
                      rwa [e] at this
                    have j0 : (0 : Int) ≤ (j : Int) := by omega
                    have w1j : IntKind.i64.wrap ((j : Int) + 1) = (j : Int) + 1 := by rw [IntKind.wrap_i64]; omega
                    have w2j : IntKind.i64.wrap ((j : Int) + 2) = (j : Int) + 2 := by rw [IntKind.wrap_i64]; omega
                    rcases hf : fitsB s j with _ | _
                    · rw [hf] at HFT
                      have HFIN : Hid (setT (s.drop (i + 1)) = if done = [] ∨ (s.drop j).head? ≠ some 93 then none else some (⟨91, 0, done, false⟩, (s.drop j).tail)) := Lib.hid (HSA.out.fin hf false HSU.out.1 HSU.out.2)
                      have HQL : Hid (done.length = q) := Lib.hid HRO.out.1
                      clear hf
                      have stop : (done = [] ∨ (s.drop j).head? ≠ some 93) → itT s = none := fun h => it_stop HIT.out (by rw [HL.out]; exact hlt) (by rw [HFS.out, HFIN.out, if_pos h])
                      have STOP := Lib.hid stop
                      clear stop
                      by_cases hq0 : q = 0
                      · have hqi : (q : Int) = 0 := by omega
                        have HN0 : Hid (itT s = none) := Lib.hid (STOP.out (.inl (List.eq_nil_of_length_eq_zero (by rw [HQL.out]; exact hq0))))
                        clear hq0
                        go_wp2_with (go_at_call 30; refine (HFT.out _ cQ).mono ?_; rintro e _ ⟨rfl, rfl⟩)
                        go_ret2
                        rw [HN0.out]
                        exact ⟨(HBW.out.trans (HBJ.out.mono (by rw [hX2.out]; exact HBW.out.size))), rfl⟩
                      · have hqi : ¬ (q : Int) = 0 := by omega
                        have hqb : ((q : Int) == 0) = false := by simpa using hqi
                        by_cases hjl : j < L
                        · have hji : ¬ (L : Int) ≤ (j : Int) := by omega
                          have hjlt : (j : Int) < (L : Int) := by omega
                          have hdj : s.drop j = s.getD j 0 :: s.drop (j + 1) := drop_c s j (by rw [HL.out]; exact hjl)
                          by_cases h93 : s.getD j 0 = 93
                          · have b93 : bn s j = 93 := (bn_eq s j 93).2 h93
                            have HFS2 : Hid (fsT (s.drop i) = some (⟨91, 0, done, false⟩, s.drop (j + 1))) := Lib.hid (by
                              rw [HFS.out, HFIN.out, if_neg (by
                                rintro (e | e)
                                · rw [e] at HQL; exact hq0 HQL.out.symm
                                · rw [hdj, h93] at e; exact e rfl), hdj]; rfl)
                            clear hdj h93 hq0
                            obtain ⟨wj, rfl⟩ : ∃ wj, wj = wr := ⟨_, rfl⟩
                            have xa0 := HX.out.cell 0 (.int .u8 91) rfl
                            have xa1 := HX.out.cell 1 (.int .u8 0) rfl
                            have xa3 := HX.out.cell 3 (.bool false) rfl
                            have HBJo : Hid (Below wo.heap.size wo wj) := Lib.hid (by have := HBJ.out; rwa [hX2.out] at this)
                            have hzz : Q + 1 ≤ wj.heap.size := Nat.le_trans hz1 HBJo.out.size
                            have hii : i < j + 1 := by have := HSA.out.le; omega
                            go_wp2_with (first
                              | (go_at_call 30; refine (HFT.out _ cQ).mono ?_; rintro e _ ⟨rfl, rfl⟩)
                              | (at_builtin; refine wpList_appL (F := giS) rfl _ (.tmp 142) (.tmp 144) 44 rfl _ 40 Try.underlying44 giInfo rfl (Q + 1) A m c l rfl ((HOW.out.below HBJo.out).below (ba1 _ _)) (some ⟨wj.heap.size, 0, none⟩) 1 1 [⟨⟨91, 0, done, false⟩, B, q, d⟩] rfl (ls_new wj _ _ _ rfl _ rfl) rfl (m + 1) rfl (by omega) (by omega) (by simp; omega) ?_; intro A8 c8 w8 ho8 hb8 hs8; have HO8 := Lib.hid ho8; have HB8 := Lib.hid hb8; have HS8 := Lib.hid hs8; clear ho8 hb8 hs8))
                            have hII : II wj (fun k => (Value.slice A m c).ownBlock = some k) [⟨⟨91, 0, done, false⟩, B, q, d⟩] := II.one HRO.out.1 HRO.out.ls (fun a ha g => by
                              have ha : B = some a := ha
                              have hk := HRO.out.lt a.block (by rw [ha]; rfl)
                              rcases g with g | g
                              · have := (HOW.out.lt _ g).2
                                have e := hX2.out
                                omega
                              · omega)
                            go_roundw
                            case rel =>
                              exact ⟨j + 1, ds ++ [⟨91, 0, done, false⟩], A8, c8, m + 1, l ++ [⟨⟨91, 0, done, false⟩, B, q, d⟩], by simp, rfl, HO8.out, by rw [List.map_append, HDS.out]; rfl,
                                II.grown (((HII.out.new HBJo.out).app hII).new (ba1 _ _)) HB8.out HS8.out, it_next HIT.out HFS2.out, by omega, by omega,
                                ((HBX.out.below HBJo.out).below (ba1 _ _)).below' HB8.out (by omega),
                                ((HBW.out.trans (HBJo.out.mono HBW.out.size)).alloc (Nat.le_trans HBW.out.size HBJo.out.size) _).trans (HB8.out.mono (by rw [← HQ.out]; omega))⟩
                            case measure => first | (simp [intOf]; done) | (simp [intOf]; omega)
                          · have n93 : ¬ bn s j = 93 := fun e => h93 ((bn_eq s j 93).1 e)
                            have n93a : (bn s j == 93) = false := by simpa using n93
                            have n93b : (bn s j != 93) = true := by simpa using n93
                            have HN0 : Hid (itT s = none) := Lib.hid (STOP.out (.inr (by rw [hdj]; exact fun e => h93 (Option.some.inj e))))
                            clear hdj h93 hq0
                            go_wp2_with (go_at_call 30; refine (HFT.out _ cQ).mono ?_; rintro e _ ⟨rfl, rfl⟩)
                            go_ret2
                            rw [HN0.out]
                            exact ⟨(HBW.out.trans (HBJ.out.mono (by rw [hX2.out]; exact HBW.out.size))), rfl⟩
                        · have hji : (L : Int) ≤ (j : Int) := by omega
                          have HN0 : Hid (itT s = none) := Lib.hid (STOP.out (.inr (by rw [List.drop_eq_nil_of_le (by rw [HL.out]; omega)]; simp)))
                          clear hq0
                          go_wp2_with (go_at_call 30; refine (HFT.out _ cQ).mono ?_; rintro e _ ⟨rfl, rfl⟩)
                          go_ret2
                          rw [HN0.out]
                          exact ⟨(HBW.out.trans (HBJ.out.mono (by rw [hX2.out]; exact HBW.out.size))), rfl⟩
                    · rw [hf] at HFT
                      obtain ⟨hjlt, -, -⟩ := (fits_body s j).1 hf
                      rw [HL.out] at hjlt
                      have hji : (j : Int) < (L : Int) := by omega
                      have HFJ := Lib.hid hf
                      clear hf
                      obtain ⟨wj, rfl⟩ : ∃ wj, wj = wr := ⟨_, rfl⟩
                      have hQj : Q < wj.heap.size := by have := hX2.out; omega
                      go_upto_region 26 with (go_at_call 30; refine (HFT.out _ cQ).mono ?_; rintro e _ ⟨rfl, rfl⟩)
                      go_cut [8] (fun p wx => ∃ R, p = .pointer (some ⟨R, 0, none⟩) ∧ X < R ∧ wj.heap.size ≤ R ∧ Bx 59 wx R #[.int .u8 (bn s j), .int .u8 (bn s j)] ∧ Below wj.heap.size wj wx)
                      case first =>
                        go_region
                        go_wp2_with fail
                        go_meet
                        exact ⟨_, rfl, hXl, Nat.le_refl _, (bx_new _ _ _).below (Below.refl _ _).drew, (ba1 _ _).drew⟩
                      case rest =>
                        obtain ⟨R, rfl, hXR, hjR, hR, hbc⟩ := hcut
                        have HOFF : Hid (Off R (.slice B q d)) := Lib.hid (fun k hk => by have := (HRO.out.lt k hk).2; omega)
                        have cQ2 := (hbc.cell (p := ⟨Q, 0, none⟩) hQj).trans cQ
                        have HXc : Hid (Bx 57 wc X #[.int .u8 91, .int .u8 0, .slice B q d, .bool false]) := Lib.hid (HX.out.below hbc)
                        have HROc := Lib.hid (HRO.out.below hbc)
                        have HBc : Hid (Below X wo wc) := Lib.hid (HBJ.out.trans (hbc.mono (Nat.le_of_lt hXl)))
                        have hXc : X < wc.heap.size := HXc.out.lt
                        have hQc : Q < wc.heap.size := Nat.lt_of_lt_of_le hQj hbc.size
                        have r0 := hR.cell 0 (.int .u8 (bn s j)) rfl
                        have r1 := hR.cell 1 (.int .u8 (bn s j)) rfl
                        have fr := hR.soft 1
                        have HR := Lib.hid hR
                        have hRc := hR.lt
                        clear hR hbc x2 f2 cQ HX HRO HBJ hXl hQj
                        have jt1 : ((j : Int) + 1).toNat = j + 1 := by omega
                        have jt2 : ((j : Int) + 2).toNat = j + 2 := by omega
                        have j1 : (0 : Int) ≤ (j : Int) + 1 := by omega
                        have j2 : (0 : Int) ≤ (j : Int) + 2 := by omega
                        have w21j : IntKind.i64.wrap ((j : Int) + 2 + 1) = (j : Int) + 3 := by rw [IntKind.wrap_i64]; omega
                        have w3j : IntKind.i64.wrap ((j : Int) + 3) = (j : Int) + 3 := by rw [IntKind.wrap_i64]; omega
                        have hne : ¬ X = R := by omega
                        by_cases h1 : j + 1 < L
                        · have h1i : (j : Int) + 1 < (L : Int) := by omega
                          by_cases h45 : bn s (j + 1) = 45
                          · have e45 := (bn_eq s (j + 1) 45).1 h45
                            rcases hf2 : fitsB s (j + 2) with _ | _
                            · rw [hf2] at HFT2
                              have HST := Lib.hid (HSA.out.one HFJ.out (fun e => by rw [hf2] at e; cases e.2.2))
                              clear hf2 e45
                              have hnl : ¬ bn s j < bn s j := by omega
                              go_upto_region 33 with (go_at_call 30; refine (HFT2.out _ cQ2).mono ?_; rintro e _ ⟨rfl, rfl⟩)
                              have HX4 := HXc
                              have HRO4 := HROc
                              have HB4 := HBc
                              have HR4 := HR
                              clear r0 r1 fr
                              have xa2 := HX4.out.cell 2 (.slice B q d) rfl
                              have fa2 := HX4.out.soft 2
                              have ra0 := HR4.out.cell 0 (.int .u8 (bn s j)) rfl
                              have ra1 := HR4.out.cell 1 (.int .u8 (bn s j)) rfl
                              have hX4 : X < wc.heap.size := HX4.out.lt
                              have hR4 : R < wc.heap.size := HR4.out.lt
                              go_wp2_with (at_builtin; refine wpList_appL (F := rrS) rfl _ (.tmp 119) (.tmp 121) 55 rfl _ 2 Try.underlying55 rrInfo rfl (X + 1) B q d done rfl (HRO4.out.below (ba1 _ _)) (some ⟨wc.heap.size, 0, none⟩) 1 1 [(s.getD j 0, s.getD j 0)] rfl (ls_new wc _ _ _ rfl _ rfl) rfl (q + 1) rfl (by omega) (by omega) (by simp; omega) ?_; intro B8 d8 w8 ho8 hb8 hs8; have HO8 := Lib.hid ho8; have HB8 : Hid (Below X wo w8) := Lib.hid ((HB4.out.alloc (Nat.le_of_lt hX4) _).trans (hb8.mono (Nat.le_succ X))); have hx8 : Bx 57 w8 X #[.int .u8 91, .int .u8 0, .slice B q d, .bool false] := (HX4.out.below (ba1 _ _)).below' hb8 (Nat.lt_succ_self X); have x82 := hx8.cell 2 (.slice B q d) rfl; have f82 := hx8.soft 2; have HX8 := Lib.hid hx8; clear ho8 hb8 hs8 hx8)
                              go_roundw
                              case rel => exact ⟨j + 1, done ++ [(s.getD j 0, s.getD j 0)], B8, d8, q + 1, by simp, HX8.out.set 2 (.slice B8 (q + 1) d8), HO8.out.set (Off.under (fun k hk => (HO8.out.lt k hk).1) (Nat.lt_succ_self X)) _ _, HST.out, by omega, by omega, HB8.out.setCell (Nat.le_refl _) _⟩
                              case measure => first | (simp [intOf]; done) | (simp [intOf]; omega)
                            · rw [hf2] at HFT2
                              obtain ⟨s1, s2⟩ := HSA.out.three HFJ.out (by rw [HL.out]; exact h1) e45 hf2
                              have h2l : j + 2 < L := by have := ((fits_body s (j + 2)).1 hf2).1; rwa [HL.out] at this
                              have h2i : (j : Int) + 2 < (L : Int) := by omega
                              have S1 := Lib.hid s1
                              have S2 := Lib.hid s2
                              clear hf2 e45 s1 s2
                              by_cases hlt2 : bn s (j + 2) < bn s j
                              · have HN0 : Hid (itT s = none) := Lib.hid (it_stop HIT.out (by rw [HL.out]; exact hlt) (by rw [HFS.out]; exact setT_rg (S1.out ((u8_lt _ _).2 hlt2)) HSU.out.1))
                                go_wp2_with (go_at_call 30; refine (HFT2.out _ cQ2).mono ?_; rintro e _ ⟨rfl, rfl⟩)
                                go_ret2
                                rw [HN0.out]
                                exact ⟨(HBW.out.trans ((HBc.out.setCell (Nat.le_of_lt hXR) _).mono (by rw [hX2.out]; exact HBW.out.size))), rfl⟩
                              · have HST := Lib.hid (S2.out fun e => hlt2 ((u8_lt _ _).1 e))
                                go_upto_region 33 with (go_at_call 30; refine (HFT2.out _ cQ2).mono ?_; rintro e _ ⟨rfl, rfl⟩)
                                obtain ⟨w4, hw4⟩ : ∃ w4, w4 = wc.setCell ⟨R, 1, none⟩ (.int .u8 (bn s (j + 2))) := ⟨_, rfl⟩
                                have HX4 : Hid (Bx 57 w4 X #[.int .u8 91, .int .u8 0, .slice B q d, .bool false]) := Lib.hid (by rw [hw4]; exact HXc.out.other hne _)
                                have HRO4 : Hid (OwnL rrS 59 w4 (X + 1) B q d done) := Lib.hid (by rw [hw4]; exact HROc.out.set HOFF.out 1 _)
                                have HB4 : Hid (Below X wo w4) := Lib.hid (by rw [hw4]; exact HBc.out.setCell (Nat.le_of_lt hXR) _)
                                have HR4 : Hid (Bx 59 w4 R #[.int .u8 (bn s j), .int .u8 (bn s (j + 2))]) := Lib.hid (by rw [hw4]; exact HR.out.set 1 _)
                                rw [← hw4]
                                clear hw4 r0 r1 fr
                                have xa2 := HX4.out.cell 2 (.slice B q d) rfl
                                have fa2 := HX4.out.soft 2
                                have ra0 := HR4.out.cell 0 (.int .u8 (bn s j)) rfl
                                have ra1 := HR4.out.cell 1 (.int .u8 (bn s (j + 2))) rfl
                                have hX4 : X < w4.heap.size := HX4.out.lt
                                have hR4 : R < w4.heap.size := HR4.out.lt
                                go_wp2_with (at_builtin; refine wpList_appL (F := rrS) rfl _ (.tmp 119) (.tmp 121) 55 rfl _ 2 Try.underlying55 rrInfo rfl (X + 1) B q d done rfl (HRO4.out.below (ba1 _ _)) (some ⟨w4.heap.size, 0, none⟩) 1 1 [(s.getD j 0, s.getD (j + 2) 0)] rfl (ls_new w4 _ _ _ rfl _ rfl) rfl (q + 1) rfl (by omega) (by omega) (by simp; omega) ?_; intro B8 d8 w8 ho8 hb8 hs8; have HO8 := Lib.hid ho8; have HB8 : Hid (Below X wo w8) := Lib.hid ((HB4.out.alloc (Nat.le_of_lt hX4) _).trans (hb8.mono (Nat.le_succ X))); have hx8 : Bx 57 w8 X #[.int .u8 91, .int .u8 0, .slice B q d, .bool false] := (HX4.out.below (ba1 _ _)).below' hb8 (Nat.lt_succ_self X); have x82 := hx8.cell 2 (.slice B q d) rfl; have f82 := hx8.soft 2; have HX8 := Lib.hid hx8; clear ho8 hb8 hs8 hx8)
                                go_roundw
                                case rel => exact ⟨j + 3, done ++ [(s.getD j 0, s.getD (j + 2) 0)], B8, d8, q + 1, by simp, HX8.out.set 2 (.slice B8 (q + 1) d8), HO8.out.set (Off.under (fun k hk => (HO8.out.lt k hk).1) (Nat.lt_succ_self X)) _ _, HST.out, by omega, by omega, HB8.out.setCell (Nat.le_refl _) _⟩
                                case measure => first | (simp [intOf]; done) | (simp [intOf]; omega)
                          · have HST := Lib.hid (HSA.out.one HFJ.out (fun e => h45 ((bn_eq s (j + 1) 45).2 e.2.1)))
                            have hnl : ¬ bn s j < bn s j := by omega
                            go_upto_region 33 with fail
                            have HX4 := HXc
                            have HRO4 := HROc
                            have HB4 := HBc
                            have HR4 := HR
                            clear r0 r1 fr
                            have xa2 := HX4.out.cell 2 (.slice B q d) rfl
                            have fa2 := HX4.out.soft 2
                            have ra0 := HR4.out.cell 0 (.int .u8 (bn s j)) rfl
                            have ra1 := HR4.out.cell 1 (.int .u8 (bn s j)) rfl
                            have hX4 : X < wc.heap.size := HX4.out.lt
                            have hR4 : R < wc.heap.size := HR4.out.lt
                            go_wp2_with (at_builtin; refine wpList_appL (F := rrS) rfl _ (.tmp 119) (.tmp 121) 55 rfl _ 2 Try.underlying55 rrInfo rfl (X + 1) B q d done rfl (HRO4.out.below (ba1 _ _)) (some ⟨wc.heap.size, 0, none⟩) 1 1 [(s.getD j 0, s.getD j 0)] rfl (ls_new wc _ _ _ rfl _ rfl) rfl (q + 1) rfl (by omega) (by omega) (by simp; omega) ?_; intro B8 d8 w8 ho8 hb8 hs8; have HO8 := Lib.hid ho8; have HB8 : Hid (Below X wo w8) := Lib.hid ((HB4.out.alloc (Nat.le_of_lt hX4) _).trans (hb8.mono (Nat.le_succ X))); have hx8 : Bx 57 w8 X #[.int .u8 91, .int .u8 0, .slice B q d, .bool false] := (HX4.out.below (ba1 _ _)).below' hb8 (Nat.lt_succ_self X); have x82 := hx8.cell 2 (.slice B q d) rfl; have f82 := hx8.soft 2; have HX8 := Lib.hid hx8; clear ho8 hb8 hs8 hx8)
                            go_roundw
                            case rel => exact ⟨j + 1, done ++ [(s.getD j 0, s.getD j 0)], B8, d8, q + 1, by simp, HX8.out.set 2 (.slice B8 (q + 1) d8), HO8.out.set (Off.under (fun k hk => (HO8.out.lt k hk).1) (Nat.lt_succ_self X)) _ _, HST.out, by omega, by omega, HB8.out.setCell (Nat.le_refl _) _⟩
                            case measure => first | (simp [intOf]; done) | (simp [intOf]; omega)
                        · have h1i : ¬ (j : Int) + 1 < (L : Int) := by omega
                          have HST := Lib.hid (HSA.out.one HFJ.out (fun e => h1 (by rw [← HL.out]; exact e.1)))
                          have hnl : ¬ bn s j < bn s j := by omega
                          go_upto_region 33 with fail
                          have HX4 := HXc
                          have HRO4 := HROc
                          have HB4 := HBc
                          have HR4 := HR
                          clear r0 r1 fr
                          have xa2 := HX4.out.cell 2 (.slice B q d) rfl
                          have fa2 := HX4.out.soft 2
                          have ra0 := HR4.out.cell 0 (.int .u8 (bn s j)) rfl
                          have ra1 := HR4.out.cell 1 (.int .u8 (bn s j)) rfl
                          have hX4 : X < wc.heap.size := HX4.out.lt
                          have hR4 : R < wc.heap.size := HR4.out.lt
                          go_wp2_with (at_builtin; refine wpList_appL (F := rrS) rfl _ (.tmp 119) (.tmp 121) 55 rfl _ 2 Try.underlying55 rrInfo rfl (X + 1) B q d done rfl (HRO4.out.below (ba1 _ _)) (some ⟨wc.heap.size, 0, none⟩) 1 1 [(s.getD j 0, s.getD j 0)] rfl (ls_new wc _ _ _ rfl _ rfl) rfl (q + 1) rfl (by omega) (by omega) (by simp; omega) ?_; intro B8 d8 w8 ho8 hb8 hs8; have HO8 := Lib.hid ho8; have HB8 : Hid (Below X wo w8) := Lib.hid ((HB4.out.alloc (Nat.le_of_lt hX4) _).trans (hb8.mono (Nat.le_succ X))); have hx8 : Bx 57 w8 X #[.int .u8 91, .int .u8 0, .slice B q d, .bool false] := (HX4.out.below (ba1 _ _)).below' hb8 (Nat.lt_succ_self X); have x82 := hx8.cell 2 (.slice B q d) rfl; have f82 := hx8.soft 2; have HX8 := Lib.hid hx8; clear ho8 hb8 hs8 hx8)
                          go_roundw
                          case rel => exact ⟨j + 1, done ++ [(s.getD j 0, s.getD j 0)], B8, d8, q + 1, by simp, HX8.out.set 2 (.slice B8 (q + 1) d8), HO8.out.set (Off.under (fun k hk => (HO8.out.lt k hk).1) (Nat.lt_succ_self X)) _ _, HST.out, by omega, by omega, HB8.out.setCell (Nat.le_refl _) _⟩
                          case measure => first | (simp [intOf]; done) | (simp [intOf]; omega)
              · have n91 : ¬ (x.toNat : Int) = 91 := fun e => hk (UInt8.toNat_inj.1 (by show x.toNat = 91; omega))
                have HFS : Hid (fsT (s.drop i) = some (⟨61, x, [], false⟩, s.drop (i + 1))) := Lib.hid (by rw [HDC.out]; exact fsT_one _ m42 m63 m92 hk)
                clear m42 m63 m92 hk
                go_wp2_with (at_builtin; refine wpList_appL (F := giS) rfl _ (.tmp 19) (.tmp 24) 44 rfl _ 40 Try.underlying44 giInfo rfl (Q + 1) A m c l rfl (HOW.out.below (ba1 _ _)) (some ⟨wr.heap.size, 0, none⟩) 1 1 [⟨⟨61, x, [], false⟩, none, 0, 0⟩] rfl (ls_new wr _ _ _ rfl _ rfl) rfl (m + 1) rfl (by omega) (by omega) (by simp; omega) ?_; intro A8 c8 w8 ho8 hb8 hs8; have HO8 := Lib.hid (PUSH.out _ ⟨⟨61, x, [], false⟩, none, 0, 0⟩ (i + 1) (ba1 _ _) rfl rfl rfl (HFS.out) (by omega) (by omega) A8 c8 w8 ho8 hb8 hs8); clear ho8 hb8 hs8)
                go_roundw
                case rel =>
                  obtain ⟨ds', l', q1, q2, q3, q4, q5, q6, q7, q8⟩ := HO8.out
                  exact ⟨i + 1, ds', A8, c8, m + 1, l', by simp, rfl, q1, q2, q3, q4, q5, q6, q7, q8⟩
                case measure => first | (simp [intOf]; done) | (simp [intOf]; omega)
      · have hli : ¬ (i : Int) < (L : Int) := by omega
        have HF : Hid (itT s = some ds) := Lib.hid (by rw [HIT.out, List.drop_eq_nil_of_le (by rw [HL.out]; omega), itT_nil]; simp)
        have HM : Hid (ds.length = m) := Lib.hid (by have := HOW.out.1; rw [← HDS.out, List.length_map]; exact this)
        go_wp2
        go_ret2
        rw [HF.out]
        exact ⟨HBW.out, A, c, l, by rw [HM.out]; rfl, by rw [HM.out]; exact HOW.out.base (by rw [← HQ.out]; exact Nat.le_succ _), HDS.out, by rw [HM.out]; exact HII.out⟩
end Go.Proofs.Ytmcgjkhbljdddaa
