/-
  packthreadkeep.Mixed: some bytes, not too many.
-/
import Derived.Test.YtdilpebhecmjmaaStream
import Derived.Test.YtdilpebhecmjmaaPc
namespace Go.Proofs.Ytdilpebhecmjmaa
open Go.RowKit
set_option linter.unusedVariables false
set_option linter.unusedSimpArgs false

/-- bytes of one's own, at most N -/
def RetMx (w : World) (N : Nat) (e : Ending) (w' : World) : Prop :=
  ∃ A m c zs, e = .returned (.slice A m c) ∧ OwnL byS 5 w' w.heap.size A m c zs ∧ (∀ z ∈ zs, 0 ≤ z ∧ z ≤ 255) ∧ m ≤ N ∧ Below w.heap.size w w'
/-- how far the walk has come -/
def MxX (w : World) (m : Nat) (o i : Value) (wr : World) : Prop :=
  ∃ (k q : Nat) (A : Option Addr) (c : Nat) (zs : List Int), k ≤ m ∧ k ≤ 12 ∧ i = .int .i64 k ∧ o = .slice A q c ∧ OwnL byS 5 wr w.heap.size A q c zs ∧ (∀ z ∈ zs, 0 ≤ z ∧ z ≤ 255) ∧ q ≤ k * 60 ∧ Below w.heap.size w wr

set_option maxRecDepth 100000 in
set_option maxHeartbeats 16000000 in
theorem mixed_any (A : Option Addr) (n c : Nat) (file : List Int) (L : Option Addr) (m d : Nat) (l : List Int) (w : World) (ha : Ls byS w A file) (hn : file.length = n) (hc : n ≤ c) (hn4 : n ≤ 4096) (hz : ∀ z ∈ file, 0 ≤ z ∧ z ≤ 255)
    (hl : Ls inS w L l) (hm : l.length = m) (hi : ∀ x ∈ l, i64in x) :
    Calls Try.prog 15 #[.slice A n c, .slice L m d] w (RetMx w 720) := by
  have HA := Lib.hid ha
  have HN := Lib.hid hn
  have HZ := Lib.hid hz
  have HL := Lib.hid hl
  have HM := Lib.hid hm
  have HI := Lib.hid hi
  clear ha hn hz hl hm hi
  go_enter Try.func15, Try.ntmps15
  go_wp2
  go_loopw [5, 6] (fun o i wr => MxX w m o i wr) (fun _ i _ => 12 - (intOf i).toNat)
  case atStart => exact ⟨0, 0, none, 0, [], Nat.zero_le _, Nat.zero_le _, rfl, rfl, OwnL.nil _ _, by simp, Nat.le_refl _, Below.refl _ _⟩
  case round =>
    obtain ⟨k, q, A1, c1, zs, hk, hk12, rfl, rfl, hown, hz, hq, hbw⟩ := hrel
    have HO := Lib.hid hown
    have HZS := Lib.hid hz
    have HBW := Lib.hid hbw
    clear hown hz hbw
    by_cases hlt : k < m
    · have hki : (k : Int) < (m : Int) := by omega
      by_cases h12 : k < 12
      · have hk2 : (k : Int) < 12 := by omega
        obtain ⟨v, hv⟩ : ∃ v, l[k]? = some v := ⟨_, List.getElem?_eq_getElem (by rw [HM.out]; exact hlt)⟩
        obtain ⟨bL, oL, rfl, hbL, hcL⟩ := (HL.out.below HBW.out).one k v hv rfl (.int .i64 v) rfl
        have hvi := HI.out v (List.mem_of_getElem? hv)
        obtain ⟨v1, v2⟩ := hvi
        obtain ⟨p3, hp3, hp3'⟩ := pick_nat v 3 (by omega)
        have hq4 : q ≤ 720 := by omega
        clear hv
        obtain ⟨wo, rfl⟩ : ∃ wo, wo = wr := ⟨_, rfl⟩
        by_cases hA : p3 = 0 ∨ n = 0
        · have HEND : Hid (∀ (A8 : Option Addr) (c8 : Nat) (w8 : World) (x y : Int), OwnL byS 5 w8 w.heap.size A8 (q + 2) c8 (zs ++ [x, y]) → (0 ≤ x ∧ x ≤ 255) → (0 ≤ y ∧ y ≤ 255) → Below w.heap.size w w8 → MxX w m (.slice A8 (q + 2 : Nat) c8) (.int .i64 ((k : Int) + 1)) w8) := Lib.hid fun A8 c8 w8 x y ho hx hy hb =>
            ⟨k + 1, q + 2, A8, c8, _, by omega, by omega, by first | rfl | go_num, rfl, ho, fun z hz => by
              rcases List.mem_append.1 hz with hz | hz
              · exact HZS.out z hz
              · simp at hz
                rcases hz with rfl | rfl
                · exact hx
                · exact hy, by omega, hb⟩
          rcases Nat.eq_zero_or_pos p3 with h0 | h0
          · subst h0
            clear hA
            go_upto_region 6 with (go_at_call 18; (with_reducible refine (picked_n v 3 _ _ hp3 v1 v2 (by omega) (by omega)).mono ?_); rintro e w' ⟨rfl, rfl⟩)
            go_region_law (refine step_appL (F := byS) rfl _ (.tmp 29) (.tmp 41) 22 rfl _ 1 Try.underlying22 byInfo rfl w.heap.size A1 q c1 zs (by first | rfl | simp [Act.eval, Act.put]) ((HO.out.below (Below.refl _ _).drew).below (ba1 _ _)) (some ⟨wo.heap.size, 0, none⟩) 2 2 [_, _] (by first | rfl | simp [Act.eval, Act.put]) (ls_new wo.drew _ [_, _] _ rfl _ rfl) rfl (q + 2) rfl (by omega) (by omega) (by have := HBW.out.size; simp; omega) ?_; intro A8 c8 w8 ho8 hb8 hs8; have HO8 := Lib.hid ho8; have HB8 : Hid (Below w.heap.size w w8) := Lib.hid ((bthen HBW.out.drew (ba1 _ _)).trans hb8); clear ho8 hb8 hs8)
            all_goals go_wp2_with fail
            all_goals exact ⟨HEND.out A8 c8 w8 _ _ HO8.out (u8_in _) (u8_in _) HB8.out, by simp [intOf]; omega⟩
          · have h0i : ¬ (p3 : Int) = 0 := by omega
            obtain rfl : n = 0 := by omega
            clear hA
            go_upto_region 6 with (go_at_call 18; (with_reducible refine (picked_n v 3 _ _ hp3 v1 v2 (by omega) (by omega)).mono ?_); rintro e w' ⟨rfl, rfl⟩)
            go_region_law (refine step_appL (F := byS) rfl _ (.tmp 29) (.tmp 41) 22 rfl _ 1 Try.underlying22 byInfo rfl w.heap.size A1 q c1 zs (by first | rfl | simp [Act.eval, Act.put]) ((HO.out.below (Below.refl _ _).drew).below (ba1 _ _)) (some ⟨wo.heap.size, 0, none⟩) 2 2 [_, _] (by first | rfl | simp [Act.eval, Act.put]) (ls_new wo.drew _ [_, _] _ rfl _ rfl) rfl (q + 2) rfl (by omega) (by omega) (by have := HBW.out.size; simp; omega) ?_; intro A8 c8 w8 ho8 hb8 hs8; have HO8 := Lib.hid ho8; have HB8 : Hid (Below w.heap.size w w8) := Lib.hid ((bthen HBW.out.drew (ba1 _ _)).trans hb8); clear ho8 hb8 hs8)
            all_goals go_wp2_with fail
            all_goals exact ⟨HEND.out A8 c8 w8 _ _ HO8.out (u8_in _) (u8_in _) HB8.out, by simp [intOf]; omega⟩
        · have h0i : ¬ (p3 : Int) = 0 := by omega
          have hni : ¬ (n : Int) = 0 := by omega
          have hn1 : 0 < n := by omega
          have hb3 : ((p3 : Int) == 0) = false := by simpa using h0i
          have hbn : ((n : Int) == 0) = false := by simpa using hni
          clear hA
          go_upto_region 7 with (go_at_call 18; (with_reducible refine (picked_n v 3 _ _ hp3 v1 v2 (by omega) (by omega)).mono ?_); rintro e w' ⟨rfl, rfl⟩)
          clear h0i hni hb3 hbn
          obtain ⟨f, hf, hf'⟩ := pick_nat (v.tdiv 3) (n : Int) (by omega)
          obtain ⟨g, hg, hg'⟩ := pick_nat (v.tdiv 999) 60 (by omega)
          obtain ⟨d1, d2⟩ := tdiv_in (k := 3) (by omega) ⟨v1, v2⟩
          obtain ⟨d3, d4⟩ := tdiv_in (k := 999) (by omega) ⟨v1, v2⟩
          have w1 := wrap_in ⟨d1, d2⟩
          have w2 := wrap_in ⟨d3, d4⟩
          have w3 : IntKind.i64.wrap ((f : Int) + 1) = (f : Int) + 1 := by rw [IntKind.wrap_i64]; omega
          obtain ⟨e, he⟩ : ∃ e, e = f + 1 + g := ⟨_, rfl⟩
          have w4 : IntKind.i64.wrap ((f : Int) + 1 + (g : Int)) = (e : Int) := by rw [IntKind.wrap_i64]; omega
          have x0 : (0 : Int) ≤ (e : Int) := by omega
          have x1 : (0 : Int) ≤ (f : Int) := by omega
          have hfe : f ≤ e := by omega
          have hfn0 : f < n := by omega
          have hef : e - f ≤ 60 := by omega
          have hcf : ¬ c = f := by omega
          have HS : Hid (∀ t, Ls byS wo (A.map fun x => x.add f) ((file.drop f).take (t - f))) := Lib.hid fun t => (ls_add (HA.out.below HBW.out) f).take _
          have HSL : Hid (∀ t, t ≤ n → ((file.drop f).take (t - f)).length = t - f) := Lib.hid fun t ht => by rw [List.length_take, List.length_drop, HN.out]; omega
          have HSZ : Hid (∀ t, ∀ z ∈ (file.drop f).take (t - f), 0 ≤ z ∧ z ≤ 255) := Lib.hid fun t z hz => HZ.out z (List.mem_of_mem_drop (List.mem_of_mem_take hz))
          clear he hf' hg'
          by_cases hen : e < n
          · have heni : (e : Int) < (n : Int) := by omega
            have x2 : (f : Int) ≤ (e : Int) := by omega
            have x3 : (e : Int) ≤ (c : Int) := by omega
            go_wp2_with (first
              | (go_at_call 18; (with_reducible refine (picked_n (v.tdiv 3) (n : Int) _ _ hf d1 d2 (by omega) (by omega)).mono ?_); rintro e w' ⟨rfl, rfl⟩)
              | (go_at_call 18; (with_reducible refine (picked_n (v.tdiv 999) 60 _ _ hg d3 d4 (by omega) (by omega)).mono ?_); rintro e w' ⟨rfl, rfl⟩)
              | (at_builtin; refine wpList_appL (F := byS) rfl _ (.tmp 51) (.tmp 66) 22 rfl _ 1 Try.underlying22 byInfo rfl w.heap.size A1 q c1 zs rfl HO.out (A.map fun x => x.add f) (e - f) (c - f) _ rfl (HS.out e) (HSL.out e (by omega)) (q + (e - f)) rfl (by omega) (by omega) HBW.out.size ?_; intro A8 c8 w8 ho8 hb8 hs8; have HO8 := Lib.hid ho8; have HB8 := Lib.hid (HBW.out.trans hb8); clear ho8 hb8 hs8))
            refine ⟨⟨k + 1, q + (e - f), A8, c8, _, by omega, by omega, by first | rfl | go_num, rfl, HO8.out, fun z hz => ?_, by omega, HB8.out⟩, by simp [intOf]; omega⟩
            rcases List.mem_append.1 hz with hz | hz
            · exact HZS.out z hz
            · exact HSZ.out e z hz
          · have heni : ¬ (e : Int) < (n : Int) := by omega
            have hfn : f ≤ n := by omega
            have x2 : (f : Int) ≤ (n : Int) := by omega
            have x3 : (n : Int) ≤ (c : Int) := by omega
            go_wp2_with (first
              | (go_at_call 18; (with_reducible refine (picked_n (v.tdiv 3) (n : Int) _ _ hf d1 d2 (by omega) (by omega)).mono ?_); rintro e w' ⟨rfl, rfl⟩)
              | (go_at_call 18; (with_reducible refine (picked_n (v.tdiv 999) 60 _ _ hg d3 d4 (by omega) (by omega)).mono ?_); rintro e w' ⟨rfl, rfl⟩)
              | (at_builtin; refine wpList_appL (F := byS) rfl _ (.tmp 51) (.tmp 66) 22 rfl _ 1 Try.underlying22 byInfo rfl w.heap.size A1 q c1 zs rfl HO.out (A.map fun x => x.add f) (n - f) (c - f) _ rfl (HS.out n) (HSL.out n (by omega)) (q + (n - f)) rfl (by omega) (by omega) HBW.out.size ?_; intro A8 c8 w8 ho8 hb8 hs8; have HO8 := Lib.hid ho8; have HB8 := Lib.hid (HBW.out.trans hb8); clear ho8 hb8 hs8))
            refine ⟨⟨k + 1, q + (n - f), A8, c8, _, by omega, by omega, by first | rfl | go_num, rfl, HO8.out, fun z hz => ?_, by omega, HB8.out⟩, by simp [intOf]; omega⟩
            rcases List.mem_append.1 hz with hz | hz
            · exact HZS.out z hz
            · exact HSZ.out n z hz
      · have h12i : ¬ (k : Int) < 12 := by omega
        go_wp2
        go_ret
        exact ⟨A1, q, c1, zs, rfl, HO.out, HZS.out, by omega, HBW.out⟩
    · have hki : ¬ (k : Int) < (m : Int) := by omega
      go_wp2
      go_ret
      exact ⟨A1, q, c1, zs, rfl, HO.out, HZS.out, by omega, HBW.out⟩

end Go.Proofs.Ytdilpebhecmjmaa
