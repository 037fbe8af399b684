/-
  The document's GlobPick; the walk of GlobPicks.
-/
import Derived.Test.YtmcgjkhbljdddaaGlobMatches
import Derived.Test.YtmcgjkhbljdddaaStLaw
namespace Go.Proofs.Ytmcgjkhbljdddaa
open Go.RowKit
set_option linter.unusedVariables false
set_option linter.unusedSimpArgs false

set_option maxHeartbeats 4000000 in
theorem rpick_any (p : Byt) (A : Option Addr) (n c : Nat) (l : List Byt) (w : World) (hb : Ls stS w A l) (hn : l.length = n) :
    Calls Try.prog 16 #[.string (tx p), .slice A n c] w (RetPk w (pickT p l)) := by
  have HA := Lib.hid hb
  have HN := Lib.hid hn
  rcases hp : patT p with _ | its
  · have HC := Lib.hid (items_none hp w)
    rw [show pickT p l = .error 4 from by unfold pickT; rw [hp]]
    clear hp hb hn
    go_enter Try.func16, Try.ntmps16
    go_wp2_with (go_at_call 24; refine HC.out.mono ?_; rintro e w1 ⟨hb1, rfl⟩; have HB := Lib.hid hb1; clear hb1)
    go_ret2
    exact ⟨HB.out, rfl⟩
  · have HC := Lib.hid (items_some hp w)
    have hl40 := patT_len hp
    have HRG := Lib.hid (pat_rg hp)
    by_cases h64 : 64 < n
    · have hi : (64 : Int) < (n : Int) := by omega
      rw [show pickT p l = .error 1 from by unfold pickT; rw [hp]; simp only []; rw [if_pos (.inl (by rw [hn]; exact h64))]]
      clear hp hb hn
      go_enter Try.func16, Try.ntmps16
      go_wp2_with (go_at_call 24; refine HC.out.mono ?_; rintro e w1 ⟨hb1, A1, c1, l1, rfl, -⟩; have HB := Lib.hid hb1; clear hb1)
      go_ret2
      exact ⟨HB.out, rfl⟩
    · have hi : ¬ (64 : Int) < (n : Int) := by omega
      have HE1 : Hid (l.any (fun s => decide (200 < s.length)) = true → pickT p l = .error 1) := Lib.hid fun hv => by unfold pickT; rw [hp]; simp only []; rw [if_pos (.inr hv)]
      have HOK : Hid (l.any (fun s => decide (200 < s.length)) = false → pickT p l = .ok (l.filter fun s => mt (its.map gpOf) s)) := Lib.hid fun hv => by unfold pickT; rw [hp]; simp only []; rw [if_neg (by rw [hn, hv]; simp; omega)]
      obtain ⟨m, hm⟩ : ∃ m, its.length = m := ⟨_, rfl⟩
      rw [hm] at HC hl40
      clear hp hb hn hm
      go_enter Try.func16, Try.ntmps16
      go_wp2_with (go_at_call 24; refine HC.out.mono ?_; rintro e w2 ⟨hb1, A1, c1, l1, rfl, ho1, hm1, hi1⟩; have HBB := Lib.hid hb1; have HO2 := Lib.hid ho1; have HM := Lib.hid hm1; have HI := Lib.hid hi1; clear hb1 ho1 hm1 hi1)
      go_loopw [25] (fun i wr => ∃ k : Nat, i = .int .i64 (k : Int) ∧ k ≤ n ∧ (l.take k).any (fun s => decide (200 < s.length)) = false ∧ w2 = wr) (fun i _ => n - (intOf i).toNat)
      case atStart => exact ⟨0, rfl, Nat.zero_le _, rfl, rfl⟩
      case round =>
        obtain ⟨k, rfl, hk, hall, rfl⟩ := hrel
        have HALL := Lib.hid hall
        clear hall
        by_cases hlt : k < n
        · have hlti : (k : Int) < (n : Int) := by omega
          obtain ⟨b, o, rfl, hbl, hc⟩ := (HA.out.below HBB.out).text k (by rw [HN.out]; exact hlt)
          have HT : Hid (decide (200 < (l.getD k []).length) = false → (l.take (k + 1)).any (fun s => decide (200 < s.length)) = false) := Lib.hid fun h => short_take (by rw [HN.out]; exact hlt) h HALL.out
          have HS : Hid (decide (200 < (l.getD k []).length) = true → l.any (fun s => decide (200 < s.length)) = true) := Lib.hid fun h => (long_some (by rw [HN.out]; exact hlt) h).1 (by omega)
          obtain ⟨x, hx⟩ : ∃ x, l.getD k [] = x := ⟨_, rfl⟩
          rw [hx] at hc HT HS
          have zx := tx_size x
          obtain ⟨xl, hxl⟩ : ∃ xl, x.length = xl := ⟨_, rfl⟩
          rw [hxl] at zx HT HS
          clear hx hxl
          by_cases h2 : 200 < xl
          · have h2i : (200 : Int) < (xl : Int) := by omega
            have HER := Lib.hid (HE1.out (HS.out (decide_eq_true h2)))
            clear h2
            go_wp2
            go_ret2
            rw [HER.out]
            exact ⟨HBB.out, rfl⟩
          · have h2i : ¬ (200 : Int) < (xl : Int) := by omega
            have HTT := Lib.hid (HT.out (decide_eq_false h2))
            clear h2
            go_wp2
            go_roundw
            case rel => exact ⟨k + 1, by simp, by omega, HTT.out, by first | rfl | trivial⟩
            case measure => first | (simp [intOf]; done) | (simp [intOf]; omega)
        · have hlti : ¬ (k : Int) < (n : Int) := by omega
          have hany : l.any (fun s => decide (200 < s.length)) = false := by have := HALL.out; rw [List.take_of_length_le (by rw [HN.out]; omega)] at this; exact this
          have HOR := Lib.hid (HOK.out hany)
          have HSH : Hid (∀ s ∈ l, s.length ≤ 200) := Lib.hid fun s hs => by
            have := List.any_eq_false.1 hany s hs
            simpa using this
          clear hany
          obtain ⟨wo, rfl⟩ : ∃ wo, wo = w2 := ⟨_, rfl⟩
          go_wp2
          go_loopw [8, 35] (fun i8 i29 wr => ∃ (k : Nat) (B : Option Addr) (d : Nat), i29 = .int .i64 (k : Int) ∧ k ≤ n ∧ i8 = .slice B ((l.take k).filter fun s => mt (its.map gpOf) s).length d ∧ OwnL stS 9 wr wo.heap.size B ((l.take k).filter fun s => mt (its.map gpOf) s).length d ((l.take k).filter fun s => mt (its.map gpOf) s) ∧ Below wo.heap.size wo wr) (fun _ i _ => n - (intOf i).toNat)
          case atStart => exact ⟨0, none, 0, rfl, Nat.zero_le _, rfl, OwnL.nil _ _, Below.refl _ _⟩
          case round =>
            obtain ⟨k, B, d, rfl, hk, rfl, how, hbw⟩ := hrel
            have HOW := Lib.hid how
            have HBW := Lib.hid hbw
            clear how hbw
            by_cases hlt : k < n
            · have hlti : (k : Int) < (n : Int) := by omega
              obtain ⟨b, o, rfl, hbl, hc⟩ := ((HA.out.below HBB.out).below HBW.out).text k (by rw [HN.out]; exact hlt)
              have HFT : Hid ((l.take (k + 1)).filter (fun s => mt (its.map gpOf) s) = (l.take k).filter (fun s => mt (its.map gpOf) s) ++ (if mt (its.map gpOf) (l.getD k []) then [l.getD k []] else [])) := Lib.hid (filt_take (by rw [HN.out]; exact hlt))
              have HFL : Hid (((l.take k).filter fun s => mt (its.map gpOf) s).length ≤ k) := Lib.hid (filt_le HN.out)
              have HXL : Hid ((l.getD k []).length ≤ 200) := Lib.hid (HSH.out _ (getD_mem (by rw [HN.out]; exact hlt)))
              obtain ⟨x, hx⟩ : ∃ x, l.getD k [] = x := ⟨_, rfl⟩
              rw [hx] at hc HFT HXL
              obtain ⟨F, hF⟩ : ∃ F, (l.take k).filter (fun s => mt (its.map gpOf) s) = F := ⟨_, rfl⟩
              rw [hF] at HFT HFL HOW ⊢
              obtain ⟨fl, hfl⟩ : ∃ fl, F.length = fl := ⟨_, rfl⟩
              rw [hfl] at HFL HOW ⊢
              have HFLN := Lib.hid hfl
              have hflk := HFL.out
              have HCM := of_any A1 m c1 l1 x wr _ (HO2.out.ls.below HBW.out) HO2.out.1 (HI.out.new HBW.out) hl40 HXL.out (fun y hy => by have h1 := (HI.out y hy).1; have h2 := HRG.out y.it (by rw [← HM.out]; exact List.mem_map_of_mem hy); omega)
              rw [HM.out] at HCM
              have HCM := Lib.hid HCM
              obtain ⟨v, hv⟩ : ∃ v, mt (its.map gpOf) x = v := ⟨_, rfl⟩
              rw [hv] at HCM HFT
              clear hx hF hfl hv
              cases v
              · go_wp2_with (go_at_call 27; refine HCM.out.mono ?_; rintro e w5 ⟨rfl, hb5⟩; have HB5 := Lib.hid hb5; clear hb5)
                go_roundw
                case rel => exact ⟨k + 1, B, d, by simp, by omega, by rw [HFT.out]; simp [HFLN.out], by rw [HFT.out]; simp only [Bool.false_eq_true, if_false, List.append_nil]; rw [HFLN.out]; exact HOW.out.below HB5.out, bthen HBW.out HB5.out⟩
                case measure => simp [intOf]; omega
              · go_wp2_with (first
                  | (go_at_call 27; refine HCM.out.mono ?_; rintro e w5 ⟨rfl, hb5⟩; have HB5 := Lib.hid hb5; clear hb5)
                  | (at_builtin; refine wpList_appL (F := stS) rfl _ (.tmp 42) (.tmp 44) 27 rfl _ 16 Try.underlying27 stInfo rfl wo.heap.size B fl d F rfl ((HOW.out.below HB5.out).below (ba1 _ _)) (some ⟨w5.heap.size, 0, none⟩) 1 1 [x] rfl (ls_new w5 _ _ _ rfl _ rfl) rfl (fl + 1) rfl (by omega) (by omega) (by have := HBW.out.size; have := HB5.out.size; simp; omega) ?_; intro A8 c8 w9 ho8 hb8 _; have HO8 := Lib.hid ho8; have HB9 : Hid (Below wo.heap.size wo w9) := Lib.hid (((bthen HBW.out HB5.out).alloc (bthen HBW.out HB5.out).size _).trans hb8); clear ho8 hb8))
                go_roundw
                case rel => exact ⟨k + 1, A8, c8, by simp, by omega, by rw [HFT.out]; simp [HFLN.out], by rw [HFT.out]; simp only [if_true]; rw [List.length_append, HFLN.out]; exact HO8.out, HB9.out⟩
                case measure => simp [intOf]; omega
            · have hlti : ¬ (k : Int) < (n : Int) := by omega
              have e : l.take k = l := List.take_of_length_le (by rw [HN.out]; omega)
              rw [e] at HOW ⊢
              obtain ⟨F, hF⟩ : ∃ F, l.filter (fun s => mt (its.map gpOf) s) = F := ⟨_, rfl⟩
              rw [hF] at HOW HOR ⊢
              have HF := Lib.hid hF
              clear e hF
              go_wp2
              go_ret2
              rw [HOR.out]
              exact ⟨bthen HBB.out HBW.out, B, d, rfl, HOW.out.base HBB.out.size⟩

theorem pick_okLen {p : Byt} {l o : List Byt} (h : pickT p l = .ok o) : o.length ≤ 64 := by
  unfold pickT at h
  rcases hp : patT p with _ | its
  · rw [hp] at h; cases h
  · rw [hp] at h
    simp only [] at h
    by_cases h1 : 64 < l.length ∨ l.any (fun s => decide (200 < s.length)) = true
    · rw [if_pos h1] at h; cases h
    · rw [if_neg h1] at h
      injection h with h
      subst h
      have h2 := (List.filter_sublist (p := fun s => mt (its.map gpOf) s) (l := l)).length_le
      have h3 : ¬ 64 < l.length := fun e => h1 (.inl e)
      omega
theorem walkGlobPicks (s : ByteArray) (A : Option Addr) (n c : Nat) (l : List Byt) (w : World) (hb : Ls stS w A l) (hn : l.length = n) (hc : n ≤ c) (hr : c ≤ 8796093021952) :
    Calls Try.prog 5 #[.string s, .slice A n c] w fun e w' => e = .returned (.bool true) ∧ Below w.heap.size w w' := by
  obtain ⟨p, rfl⟩ : ∃ q, s = tx q := ⟨_, tx_of s⟩
  have HA := Lib.hid hb
  have h1 := pick_any p A n c l w hb hn
  have h2 := fun wx (h : Below w.heap.size w wx) => rpick_any p A n c l wx (HA.out.below h) hn
  have h12 : ∀ o, pickT p l = .ok o → o.length ≤ 64 := fun o h => pick_okLen h
  unfold RetPk at h1 h2
  obtain ⟨r, hr'⟩ : ∃ r, pickT p l = r := ⟨_, rfl⟩
  rw [hr'] at h1 h12
  simp only [hr'] at h2
  clear hr' hb hn hc hr
  rcases r with c | o
  · simp only [] at h1 h2
    have H1 := Lib.hid h1
    have H2 := Lib.hid h2
    clear h1 h2 h12
    go_enter Try.func5, Try.ntmps5
    go_wp2_with (first
      | (go_at_call 15; refine H1.out.mono ?_; rintro e w1 ⟨hb1, rfl⟩; have HB1 := Lib.hid hb1; clear hb1)
      | (go_at_call 16; refine (H2.out w1 HB1.out).mono ?_; rintro e w2 ⟨hb2, rfl⟩; have HB2 := Lib.hid hb2; clear hb2)
      | (go_at_call 17; refine (texts_law none 0 0 none 0 [] w2 (Ls.nil _ _) (Ls.nil _ _) rfl (by omega)).mono ?_; rintro e w3 ⟨rfl, hb3⟩; have HB3 := Lib.hid hb3; clear hb3))
    go_ret
    exact ⟨by simp, bthen (bthen HB1.out HB2.out) HB3.out⟩
  · have hl := h12 o rfl
    obtain ⟨k, hk⟩ : ∃ k, o.length = k := ⟨_, rfl⟩
    have HK := Lib.hid hk
    rw [hk] at hl
    simp only [hk] at h1 h2
    have H1 := Lib.hid h1
    have H2 := Lib.hid h2
    clear h12 hk h1 h2
    go_enter Try.func5, Try.ntmps5
    go_wp2_with (first
      | (go_at_call 15; refine H1.out.mono ?_; rintro e w1 ⟨hb1, A1, c1, rfl, ho1⟩; have HB1 := Lib.hid hb1; have HO1 := Lib.hid ho1; clear hb1 ho1)
      | (go_at_call 16; refine (H2.out w1 HB1.out).mono ?_; rintro e w2 ⟨hb2, A2, c2, rfl, ho2⟩; have HB2 := Lib.hid hb2; have HO2 := Lib.hid ho2; clear hb2 ho2)
      | (go_at_call 17; refine (texts_law A1 k c1 A2 c2 o w2 (HO1.out.below HB2.out).ls HO2.out.ls HK.out (by omega)).mono ?_; rintro e w3 ⟨rfl, hb3⟩; have HB3 := Lib.hid hb3; clear hb3))
    go_ret
    exact ⟨by simp, bthen (bthen HB1.out HB2.out) HB3.out⟩
end Go.Proofs.Ytmcgjkhbljdddaa
