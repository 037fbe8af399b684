/-
  The program's delta.Delta.
-/
import Derived.Test.YtdilpebhecmjmaaDelMost
import Derived.Test.YtdilpebhecmjmaaDelTell
namespace Go.Proofs.Ytdilpebhecmjmaa
open Go.RowKit
set_option linter.unusedVariables false
set_option linter.unusedSimpArgs false

theorem tellT_few (l : List Pc) (b : Int) (K : Nat) (h1 : l.length ≤ K) (h2 : ∀ p ∈ l, p.data.length ≤ K) : (tellT l b).length ≤ K + 1 ∧ ∀ p ∈ tellT l b, p.data.length ≤ K + 1 := by
  rcases List.eq_nil_or_concat l with rfl | ⟨l0, x, rfl⟩
  · rw [tellT_new [] b (fun l0 p e => by simp at e)]
    simp
  · rw [List.concat_eq_append] at h1 h2 ⊢
    rcases hc : x.copy with _ | _
    · rw [tellT_old _ _ _ hc]
      simp at h1
      refine ⟨by simp; omega, fun p hp => ?_⟩
      rcases List.mem_append.1 hp with hp | hp
      · have := h2 p (by simp [hp]); omega
      · simp at hp; subst hp
        have := h2 x (by simp); simp; exact this
    · rw [tellT_new _ b (fun l1 p e => by
        have := (List.append_inj' e rfl).2
        simp at this; rw [← this]; exact hc)]
      refine ⟨by simp at h1 ⊢; omega, fun p hp => ?_⟩
      rcases List.mem_append.1 hp with hp | hp
      · have := h2 p hp; omega
      · simp at hp; subst hp; simp
theorem PL.base {w : World} {base base' : Nat} {A : Option Addr} {n c : Nat} {l : List Pv} (h : PL w base A n c l) (hb : base' ≤ base) : PL w base' A n c l :=
  ⟨h.row.base hb, fun x hx => (h.each x hx).base hb, h.off, h.apart⟩
theorem PL.len {w : World} {base : Nat} {A : Option Addr} {n c : Nat} {l : List Pv} (h : PL w base A n c l) : ∀ x ∈ l, x.n = x.p.data.length := fun x hx => (h.each x hx).1.symm

/-- what Delta answers -/
def RetDl (w : World) (ps : List Pc) (e : Ending) (w' : World) : Prop :=
  ∃ A k c l, e = .returned (.tuple #[.slice A k c, .int .i64 0]) ∧ PL w' w.heap.size A k c l ∧ l.map Pv.p = ps ∧ Below w.heap.size w w'
theorem delta_size (A : Option Addr) (n c : Nat) (B : Option Addr) (m d : Nat) (w : World) (h : 2048 < n ∨ 2048 < m) :
    Calls Try.prog 8 #[.slice A n c, .slice B m d] w fun e w' => e = .returned (.tuple #[.slice none 0 0, .int .i64 1]) ∧ Below w.heap.size w w' := by
  by_cases h1 : 2048 < n
  · have h2 : (2048 : Int) < (n : Int) := by omega
    go_enter Try.func8, Try.ntmps8
    go_wp2
    go_ret2
    exact ⟨rfl, Below.refl _ _⟩
  · have h2 : ¬ (2048 : Int) < (n : Int) := by omega
    have h3 : (2048 : Int) < (m : Int) := by omega
    go_enter Try.func8, Try.ntmps8
    go_wp2
    go_ret2
    exact ⟨rfl, Below.refl _ _⟩
/-- how far the walk has come -/
def DlX (wF : World) (old now : List Int) (m : Nat) (R : List Pc) (lv i : Value) (wr : World) : Prop :=
  ∃ (k q : Nat) (A : Option Addr) (c : Nat) (l : List Pv), k ≤ m ∧ i = .int .i64 k ∧ lv = .slice A q c ∧ PL wr wF.heap.size A q c l ∧ goT old (now.drop k) (l.map Pv.p) = R ∧ (l.map Pv.p).length ≤ k ∧ (∀ p ∈ l.map Pv.p, p.data.length ≤ k) ∧ Below wF.heap.size wF wr

set_option maxRecDepth 100000 in
set_option maxHeartbeats 16000000 in
theorem delta_ok (A : Option Addr) (n c : Nat) (B : Option Addr) (m d : Nat) (old now : List Int) (w : World) (ha : Ls byS w A old) (hn : old.length = n) (hc : n ≤ c) (hz : ∀ z ∈ old, 0 ≤ z ∧ z ≤ 255)
    (hB : Ls byS w B now) (hm : now.length = m) (hd : m ≤ d) (hzn : ∀ z ∈ now, 0 ≤ z ∧ z ≤ 255) (h1 : n ≤ 2048) (h2 : m ≤ 2048) :
    Calls Try.prog 8 #[.slice A n c, .slice B m d] w (RetDl w (deltaT old now)) := by
  obtain ⟨R, hR⟩ : ∃ R, R = deltaT old now := ⟨_, rfl⟩
  rw [← hR]
  have HR := Lib.hid hR
  have HA := Lib.hid ha
  have HN := Lib.hid hn
  have HB := Lib.hid hB
  have HM := Lib.hid hm
  have HZ := Lib.hid hz
  have HZN := Lib.hid hzn
  have k1 : ¬ (2048 : Int) < (n : Int) := by omega
  have k2 : ¬ (2048 : Int) < (m : Int) := by omega
  have HFD : Hid (Calls Try.prog 20 #[.slice A n c] w (RetFd w A n c old)) := Lib.hid (find_any A n c old w ha hn hc h1 hz)
  clear ha hn hB hm hz hzn hR
  go_enter Try.func8, Try.ntmps8
  go_wp2_with (go_at_call 20; (refine HFD.out.mono ?_); rintro e w4 ⟨hb, gb, rfl, hg4, hb4⟩; have HG4 := Lib.hid hg4; have HB4 := Lib.hid hb4; clear hg4 hb4)
  obtain ⟨wF, hwF⟩ : ∃ wF, wF = w4.alloc (.cells #[.slice A n c, .map (some hb)] 45) := ⟨_, rfl⟩
  obtain ⟨q6, hq6⟩ : ∃ q, q = w4.heap.size := ⟨_, rfl⟩
  have HBF : Hid (Below w.heap.size w wF) := Lib.hid (by rw [hwF]; exact bthen HB4.out (ba1 _ _))
  have HGF : Hid (Grp wF gb hb n (plM old n)) := Lib.hid (by rw [hwF]; exact HG4.out.below (ba1 _ _))
  have HXF : Hid (Bx 45 wF q6 #[.slice A n c, .map (some hb)]) := Lib.hid (by rw [hwF, hq6]; exact bx_new _ _ _)
  rw [← hwF, ← hq6]
  clear hwF hq6
  go_loopw [7, 8] (fun lv i wr => DlX wF old now m R lv i wr) (fun _ i _ => m - (intOf i).toNat)
  case atStart => exact ⟨0, 0, none, 0, [], Nat.zero_le _, rfl, rfl, PL.nil _ _, HR.out.symm, Nat.le_refl _, by simp, Below.refl _ _⟩
  case round =>
    obtain ⟨k, q, A1, c1, l, hk, rfl, rfl, hpl, hgo, hf1, hf2, hbw⟩ := hrel
    have HP := Lib.hid hpl
    have HGO := Lib.hid hgo
    have HF1 := Lib.hid hf1
    have HF2 := Lib.hid hf2
    have HBW := Lib.hid hbw
    have hql : l.length = q := hpl.row.1
    have hqk : q ≤ k := by rw [← hql]; simpa using hf1
    clear hpl hgo hf1 hf2 hbw hql
    by_cases hlt : k < m
    · have hki : (k : Int) < (m : Int) := by omega
      obtain ⟨wo, rfl⟩ : ∃ wo, wo = wr := ⟨_, rfl⟩
      have hx6 := HXF.out.below HBW.out
      have y0 := hx6.cell 0 _ rfl
      have y1 := hx6.cell 1 _ rfl
      have hq6l := hx6.lt
      obtain ⟨z, hzk⟩ : ∃ z, now[k]? = some z := ⟨_, List.getElem?_eq_getElem (by rw [HM.out]; exact hlt)⟩
      have HDR : Hid (now.drop k = z :: now.drop (k + 1)) := Lib.hid (by
        obtain ⟨h5, h6⟩ := List.getElem?_eq_some_iff.1 hzk
        rw [List.drop_eq_getElem_cons h5, h6])
      have hdk : ¬ d = k := by omega
      have v1 : (0 : Int) ≤ (k : Int) := by omega
      have v2 : (k : Int) ≤ (m : Int) := by omega
      obtain ⟨⟨f, nn⟩, hr⟩ : ∃ r, r = mostT old (now.drop k) := ⟨_, rfl⟩
      have HML := mostT_len old (now.drop k)
      rw [← hr, List.length_drop, HM.out, HN.out] at HML
      simp only at HML
      obtain ⟨hnn1, hnn2⟩ := HML
      have HRr := Lib.hid hr
      have HMO : Hid (Calls Try.prog 21 #[.agg #[.slice A n c, .map (some hb)], .slice (B.map fun x => x.add k) (m - k : Nat) (d - k : Nat)] wo.drew (RetMo wo.drew (f, nn))) := Lib.hid (by
        rw [hr]
        have hb0 : Below wF.heap.size wF wo.drew := HBW.out.drew
        exact most_any A n c old hb gb n _ _ _ (now.drop k) wo.drew (HA.out.below (bthen HBF.out hb0)) HN.out hc h1 (HGF.out.below hb0) (ls_add (HB.out.below (bthen HBF.out hb0)) k) (by rw [List.length_drop, HM.out]) (by omega) (fun z hz => HZN.out z (List.mem_of_mem_drop hz)))
      clear hr
      go_upto_region 7 with fail
      go_region_law (go_simp; go_at_call 21; (refine HMO.out.mono ?_); rintro e w5 ⟨rfl, hb5⟩; have HB5 : Hid (Below wo.heap.size wo w5) := Lib.hid (((Below.refl wo.heap.size wo).drew).trans hb5); clear hb5)
      clear y0 y1 HMO hq6l
      have hsz := HBW.out.size
      have hsz5 := HB5.out.size
      have HW5 : Hid (Below wF.heap.size wF w5) := Lib.hid (bthen HBW.out HB5.out)
      have HP5 := Lib.hid (HP.out.below HB5.out)
      by_cases h0 : nn = 0
      · subst h0
        have HG2 : Hid (goT old (now.drop (k + 1)) (tellT (l.map Pv.p) z) = R) := Lib.hid (by rw [← HGO.out, HDR.out, goT_tell _ _ _ _ (by rw [← HDR.out, ← HRr.out])])
        have HFW := Lib.hid (tellT_few (l.map Pv.p) z k HF1.out HF2.out)
        have HLX : Hid (∀ x ∈ l, x.n ≤ 4096) := Lib.hid fun x hx => by
          have := HP.out.len x hx
          have := HF2.out x.p (List.mem_map_of_mem hx)
          omega
        obtain ⟨bB, oB, rfl, hbB, hcB⟩ := (HB.out.below (bthen HBF.out HW5.out)).one k z hzk rfl (.int .u8 z) rfl
        clear hzk
        go_wp2_with (go_at_call 22; (refine (tell_any A1 q c1 wF.heap.size l z w5 HP5.out (by omega) (by omega) HLX.out).mono ?_); rintro e w6 ⟨A6, n6, c6, l6, rfl, hp6, hm6, hb6⟩; have HP6 := Lib.hid hp6; have HM6 := Lib.hid hm6; have HB6 := Lib.hid hb6; clear hp6 hm6 hb6)
        refine ⟨⟨k + 1, n6, A6, c6, l6, by omega, by first | rfl | go_num, rfl, HP6.out, by rw [HM6.out]; exact HG2.out, by rw [HM6.out]; exact HFW.out.1, by rw [HM6.out]; exact HFW.out.2, HW5.out.trans HB6.out⟩, by simp [intOf]; omega⟩
      · have h0i : ¬ (nn : Int) = 0 := by omega
        have HG2 : Hid (goT old (now.drop (k + nn)) (l.map Pv.p ++ [⟨true, (f : Nat), (nn : Nat), []⟩]) = R) := Lib.hid (by
          have := goT_copy old (now.drop k) (l.map Pv.p) (by rw [← HRr.out]; exact h0)
          rw [← HRr.out, HGO.out] at this
          rw [this, List.drop_drop])
        have hwk : IntKind.i64.wrap ((k : Int) + (nn : Int)) = ((k + nn : Nat) : Int) := by rw [IntKind.wrap_i64]; omega
        clear hzk
        go_wp2_with (at_builtin; refine wpList_appL (F := pcS) rfl _ (.tmp 43) (.tmp 47) 23 rfl _ 48 Try.underlying23 pcInfo rfl wF.heap.size A1 q c1 l rfl (HP5.out.row.below (ba1 _ _)) (some ⟨w5.heap.size, 0, none⟩) 1 1 [⟨⟨true, (f : Nat), (nn : Nat), []⟩, none, 0, 0⟩] rfl (ls_new w5 _ _ _ rfl _ rfl) rfl (q + 1) rfl (by omega) (by omega) (by simp; omega) ?_; intro A6 c6 w6 ho6 hb6 hs6; have HP6 := Lib.hid ((HP5.out.below (ba1 _ _)).app ⟨rfl, rfl, rfl, rfl⟩ ho6 hb6 hs6); have HB6 := Lib.hid hb6; clear ho6 hb6 hs6)
        refine ⟨⟨k + nn, q + 1, A6, c6, _, by omega, by first | rfl | go_num, rfl, HP6.out, by rw [List.map_append]; exact HG2.out, ?_, ?_, (HW5.out.trans ((ba1 w5 _).mono (by omega))).trans HB6.out⟩, by simp [intOf]; omega⟩
        · have := HF1.out
          rw [List.map_append, List.length_append]
          simp only [List.length_map, List.length_cons, List.length_nil] at this ⊢
          omega
        · intro p hp
          rw [List.map_append] at hp
          rcases List.mem_append.1 hp with hp | hp
          · have := HF2.out p hp; omega
          · simp at hp; subst hp; simp
    · obtain rfl : k = m := by omega
      have hki : ¬ (k : Int) < (k : Int) := by omega
      have HE : Hid (l.map Pv.p = R) := Lib.hid (by
        have := HGO.out
        rw [List.drop_of_length_le (by rw [HM.out]; exact Nat.le_refl _), goT_nil] at this
        exact this)
      go_wp2
      go_ret2
      exact ⟨A1, q, c1, l, rfl, HP.out.base HBF.out.size, HE.out, bthen HBF.out HBW.out⟩

end Go.Proofs.Ytdilpebhecmjmaa
