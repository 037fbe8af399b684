/-
  Contract of seg.Encode.
-/
import Derived.Test.YtgmpablmkpamaaaSeg4
namespace Go.Proofs.Ytgmpablmkpamaaa
open Go.RowKit
set_option linter.unusedVariables false
set_option linter.unusedSimpArgs false

def SegIs (w : World) (s : Sg) (A : Option Addr) (n : Nat) (D : Option Addr) (m : Nat) : Prop :=
  Rs w A s.sacks ∧ s.sacks.length = n ∧ Bs w D s.data ∧ s.data.length = m
theorem SegIs.below {w w' : World} {s : Sg} {A : Option Addr} {n : Nat} {D : Option Addr} {m : Nat} (h : SegIs w s A n D m) (hb : Below w.heap.size w w') : SegIs w' s A n D m :=
  ⟨h.1.below hb, h.2.1, h.2.2.1.below hb, h.2.2.2⟩

theorem encode_no (s : Sg) (A : Option Addr) (n c : Nat) (D : Option Addr) (m d : Nat) (w : World) (hs : SegIs w s A n D m) (hf : fault s ≠ 0) :
    Calls Try.prog 9 #[segV s A n c D m d] w fun e w' => e = .returned (.tuple #[.slice none 0 0, .int .i64 (fault s)]) ∧ Below w.heap.size w w' := by
  have HS := Lib.hid hs
  obtain ⟨q, hq⟩ : ∃ q, q = fault s := ⟨_, rfl⟩
  rw [← hq] at hf ⊢
  have HQ := Lib.hid hq
  clear hs hq
  have hk : ∀ w1 : World, Below w.heap.size w w1 → Calls Try.prog 22 #[segV s A n c D m d] w1 fun e w' => e = .returned (.int .i64 q) ∧ Below w1.heap.size w1 w' := fun w1 h1 => by
    have k := HS.out.below h1
    rw [HQ.out]
    exact check_any s A n c D m d w1 k.1 k.2.1 k.2.2.2
  obtain ⟨seq, ack, win, f0, f1, f2, f3, l, zs⟩ := s
  unfold segV at hk ⊢
  simp only at hk ⊢
  have HK := Lib.hid hk
  clear hk
  go_enter Try.func9, Try.ntmps9
  go_wp2_with (go_at_call 22; refine (HK.out _ (by first | exact Below.refl _ _ | exact ba1 _ _)).mono ?_; rintro e w1 ⟨rfl, hb1⟩)
  go_ret2
  exact ⟨rfl, by first | exact hb1 | exact bthen (ba1 _ _) hb1⟩

def RetE (W : World) (N : Nat) (zs : List Int) (e : Ending) (w' : World) : Prop :=
  ∃ A c, e = .returned (.tuple #[.slice A N c, .int .i64 0]) ∧ OwnB w' W.heap.size A N c zs ∧ Below W.heap.size W w'

set_option maxHeartbeats 4000000 in
theorem encode_ok (s : Sg) (A : Option Addr) (n c : Nat) (D : Option Addr) (m d N : Nat) (w : World) (hs : SegIs w s A n D m) (hf : fault s = 0) (hN : 10 + 4 * n + m = N) :
    Calls Try.prog 9 #[segV s A n c D m d] w (RetE w N (bytesOf s)) := by
  have HS := Lib.hid hs
  have HF := Lib.hid hf
  have hk : ∀ w1 : World, Below w.heap.size w w1 → Calls Try.prog 22 #[segV s A n c D m d] w1 fun e w' => e = .returned (.int .i64 0) ∧ Below w1.heap.size w1 w' := fun w1 h1 => by
    have k := HS.out.below h1
    rw [← HF.out]
    exact check_any s A n c D m d w1 k.1 k.2.1 k.2.2.2
  obtain ⟨⟨p1, p2⟩, ⟨p3, p4⟩, ⟨p5, p6⟩, n3, m64, hall, _⟩ := fault_zero hf
  rw [hs.2.1] at n3
  rw [hs.2.2.2] at m64
  have HALL := Lib.hid hall
  clear hs hf hall
  obtain ⟨seq, ack, win, f0, f1, f2, f3, l, zs⟩ := s
  unfold segV at hk ⊢
  simp only at *
  have HK := Lib.hid hk
  clear hk
  go_enter Try.func9, Try.ntmps9
  have h3 : ∀ x ∈ [seq, ack, win], 0 ≤ x ∧ x ≤ 65535 := by
    intro x hx; simp at hx; rcases hx with rfl | rfl | rfl <;> omega
  have H3 := Lib.hid h3
  have zn : IntKind.u8.wrap (n : Int) = (n : Int) := by rw [IntKind.wrap_u8]; omega
  clear h3
  go_upto_region 5 with (first
    | (go_at_call 22; refine (HK.out _ (by first | exact Below.refl _ _ | exact ba1 _ _)).mono ?_; rintro e w1 ⟨rfl, hb1⟩; have hz1 := hb1.size; simp at hz1; have k0 := hb1.cell (p := ⟨w.heap.size, 0, none⟩) (by simp <;> omega); have k1 := hb1.cell (p := ⟨w.heap.size, 1, none⟩) (by simp <;> omega); have k2 := hb1.cell (p := ⟨w.heap.size, 2, none⟩) (by simp <;> omega); have k3 := hb1.cell (p := ⟨w.heap.size, 3, none⟩) (by simp <;> omega); have k4 := hb1.cell (p := ⟨w.heap.size, 4, none⟩) (by simp <;> omega); have k5 := hb1.cell (p := ⟨w.heap.size, 5, none⟩) (by simp <;> omega); have k6 := hb1.cell (p := ⟨w.heap.size, 6, none⟩) (by simp <;> omega); have k7 := hb1.cell (p := ⟨w.heap.size, 7, none⟩) (by simp <;> omega); have k8 := hb1.cell (p := ⟨w.heap.size, 8, none⟩) (by simp <;> omega); simp at k0 k1 k2 k3 k4 k5 k6 k7 k8; have HB1 := Lib.hid (bthen (ba1 _ _) hb1); clear hb1)
    | (go_at_call 23; refine (lay_any (w.heap.size + 1) none 0 0 [] w1.heap.size 3 [seq, ack, win] _ (OwnB.nil _ _) rfl H3.out (by omega) (by omega) (by simp; omega) (by simp) (by intro j x hx; match j, hx with | 0, hx => (simp at hx; subst hx; simp) | 1, hx => (simp at hx; subst hx; simp) | 2, hx => (simp at hx; subst hx; simp)) (by intro g hg; cases hg)).mono ?_; rintro e w2 ⟨A2, c2, rfl, ho2, hb2⟩; have hz2 := hb2.size; simp at hz2; have O2 := Lib.hid ho2; have HB2 := Lib.hid (((Below.refl w1.heap.size w1).alloc (Nat.le_refl _) _).mono (by omega : w.heap.size + 1 ≤ w1.heap.size) |>.trans hb2); clear ho2 hb2))
  have hS2 : w.heap.size < w2.heap.size := by omega
  have e3 := (HB2.out.cell (p := ⟨w.heap.size, 3, none⟩) (by simp)).trans k3
  have e4 := (HB2.out.cell (p := ⟨w.heap.size, 4, none⟩) (by simp)).trans k4
  have e5 := (HB2.out.cell (p := ⟨w.heap.size, 5, none⟩) (by simp)).trans k5
  have e6 := (HB2.out.cell (p := ⟨w.heap.size, 6, none⟩) (by simp)).trans k6
  have e7 := (HB2.out.cell (p := ⟨w.heap.size, 7, none⟩) (by simp)).trans k7
  have e8 := (HB2.out.cell (p := ⟨w.heap.size, 8, none⟩) (by simp)).trans k8
  have d3 : w2.drew.cell? ⟨w.heap.size, 3, none⟩ = some (.bool f0) := e3
  have d4 : w2.drew.cell? ⟨w.heap.size, 4, none⟩ = some (.bool f1) := e4
  have d5 : w2.drew.cell? ⟨w.heap.size, 5, none⟩ = some (.bool f2) := e5
  have d6 : w2.drew.cell? ⟨w.heap.size, 6, none⟩ = some (.bool f3) := e6
  have dB : w.heap.size < w2.drew.heap.size := hS2
  have hflb := fl_bd f0 f1 f2 f3
  obtain ⟨z, hz⟩ : ∃ z, z = fl f0 f1 f2 f3 := ⟨_, rfl⟩
  have HT : Hid (∀ w' : World, w' = w2.drew → Calls Try.prog 24 #[.pointer (some ⟨w.heap.size, 0, none⟩)] w' fun e w'' => e = .returned (.int .u8 z) ∧ Below w'.heap.size w' w'') := Lib.hid (fun w' hw => by subst hw; rw [hz]; exact told_any w.heap.size f0 f1 f2 f3 _ dB d3 d4 d5 d6)
  rw [← hz] at hflb
  have HZ := Lib.hid hz
  have hLL : Hid (∀ x ∈ [z, (n : Int), 0, 0], 0 ≤ x ∧ x ≤ 255) := Lib.hid (by intro x hx; simp at hx; rcases hx with rfl | rfl | rfl <;> omega)
  clear k0 k1 k2 k3 k4 k5 k6 k7 k8 d3 d4 d5 d6 dB e3 e4 e5 e6 hz
  go_cut [5] (fun b wc => ∃ A3 c3, b = .slice A3 10 c3 ∧ OwnB wc (w.heap.size + 1) A3 10 c3 (([] ++ words [seq, ack, win]) ++ [z, (n : Int), 0, 0]) ∧ Below (w.heap.size + 1) w2 wc)
  case first =>
    go_region_law (first
      | (go_simp; go_at_call 24; (refine (HT.out _ rfl).mono ?_); rintro e wt ⟨rfl, hbt⟩; have d7 := (hbt.cell (p := ⟨w.heap.size, 7, none⟩) hS2).trans e7; have HBT : Hid (Below w2.heap.size w2 wt) := Lib.hid ((Below.refl w2.heap.size w2).drew.trans hbt); have hzt := HBT.out.size; clear hbt)
      | (refine step_appB rfl (wt.alloc (.cells #[.int .u8 z, .int .u8 n, .int .u8 0, .int .u8 0] 5)) (.tmp 22) (.tmp 28) rfl (w.heap.size + 1) A2 (0 + 2 * 3) c2 ([] ++ words [seq, ack, win]) (by simp [Act.eval, Act.put]) ((O2.out.below HBT.out).below (ba1 _ _)) (some ⟨wt.heap.size, 0, none⟩) 4 4 [z, (n : Int), 0, 0] (by simp [Act.eval, Act.put]) (bs_new _ _ _ _ hLL.out (by simp) _ rfl) rfl 10 rfl (by omega) (by simp; omega) ?_; intro A3 c3 w3 ho3 hb3 hs3; have O3 := Lib.hid ho3; have HB3 : Hid (Below (w.heap.size + 1) w2 w3) := Lib.hid (((HBT.out.mono (by omega)).alloc (by omega) _).trans hb3); clear ho3 hb3 hs3))
    all_goals
      go_wp2_with fail
      go_meet
      exact ⟨A3, c3, rfl, O3.out, HB3.out⟩
  case rest =>
    obtain ⟨A3, c3, rfl, ho3, hb3⟩ := hcut
    obtain ⟨H, hH⟩ : ∃ H, H = ([] ++ words [seq, ack, win]) ++ [z, (n : Int), 0, 0] := ⟨_, rfl⟩
    rw [← hH] at ho3
    have HH : Hid (H = heads ⟨seq, ack, win, f0, f1, f2, f3, l, zs⟩) := Lib.hid (by rw [hH, HZ.out]; have := HS.out.2.1; simp at this; simp [heads, words, this])
    have g7 := (hb3.cell (p := ⟨w.heap.size, 7, none⟩) (by simp)).trans e7
    have g8 := (hb3.cell (p := ⟨w.heap.size, 8, none⟩) (by simp)).trans e8
    have hz3 := hb3.size
    have O3 := Lib.hid ho3
    have HB3 : Hid (Below w.heap.size w wc) := Lib.hid (bthen' (bthen' HB1.out (by omega) HB2.out) (by omega) hb3)
    have HR : Hid (Rs w A l ∧ l.length = n ∧ Bs w D zs ∧ zs.length = m) := HS
    have hlt0 : w.heap.size < wc.heap.size := by omega
    clear e7 e8 hb3 ho3 hH HT hLL HZ hflb O2 HK H3 zn
    go_wp2
    go_loopw [5, 33] (fun b i wr => ∃ (k q : Nat) (A4 : Option Addr) (c4 : Nat), k ≤ n ∧ q = 10 + 4 * k ∧ i = .int .i64 k ∧ b = .slice A4 q c4 ∧ OwnB wr (w.heap.size + 1) A4 q c4 (H ++ sackB (l.take k)) ∧ Below (w.heap.size + 1) wc wr) (fun _ i _ => n - (intOf i).toNat)
    case atStart => exact ⟨0, 10, A3, c3, Nat.zero_le _, rfl, rfl, rfl, by simpa [sackB] using O3.out, Below.refl _ _⟩
    case round =>
      obtain ⟨k, q, A4, c4, hk, hq, rfl, rfl, ho4, hb4⟩ := hrel
      have O4 := Lib.hid ho4
      have hz4 := hb4.size
      have HB4 : Hid (Below w.heap.size w wr) := Lib.hid (bthen' HB3.out (by omega) hb4)
      have g7' := (hb4.cell (p := ⟨w.heap.size, 7, none⟩) (by simp)).trans g7
      have g8' := (hb4.cell (p := ⟨w.heap.size, 8, none⟩) (by simp)).trans g8
      have hq2 : q ≤ 30 := by omega
      have HQ := Lib.hid hq
      clear ho4 hq
      by_cases hlt : k < n
      · obtain ⟨⟨x1, x2⟩, hx, hd⟩ := drop_at l k (by rw [HR.out.2.1]; exact hlt)
        obtain ⟨b, o, rfl, hbs, hc1, hc2⟩ := (HR.out.1.below HB4.out).at k _ hx
        have hok := List.all_eq_true.1 HALL.out _ (List.mem_of_getElem? hx)
        simp only [okR, Bool.and_eq_true, sm_t] at hok
        have ht : Hid (sackB (l.take (k + 1)) = sackB (l.take k) ++ words [x1, x2]) := Lib.hid (by rw [List.take_add_one, hx, sackB_app]; simp [sackB, words])
        have h3 : Hid (∀ x ∈ [x1, x2], 0 ≤ x ∧ x ≤ 65535) := Lib.hid (by intro x hx; simp at hx; rcases hx with rfl | rfl <;> omega)
        clear hx hd hok
        simp only at hc1 hc2
        have hb5 := Lib.hid hb4
        go_wp2_with (go_at_call 23; refine (lay_any (w.heap.size + 1) A4 q c4 (H ++ sackB (l.take k)) (wr.heap.size + 1) 2 [x1, x2] _ (O4.out.below (ba2 _ _ _)) rfl h3.out (by omega) (by omega) (by simp; omega) (by simp) (by intro j x hx; match j, hx with | 0, hx => (simp at hx; subst hx; simp) | 1, hx => (simp at hx; subst hx; simp)) (by intro g hg; have := (O4.out.lt g hg).2; omega)).mono ?_; rintro e w5 ⟨A5, c5, rfl, ho5, hb5'⟩; have O5 := Lib.hid ho5; have HB5 : Hid (Below (w.heap.size + 1) wr w5) := Lib.hid ((((Below.refl (w.heap.size + 1) wr).alloc (by omega) _).alloc (by simp; omega) _).trans hb5'); clear ho5 hb5')
        go_roundw
        case rel => exact ⟨k + 1, q + 2 * 2, A5, c5, by omega, by have := HQ.out; omega, by go_num, rfl, by rw [ht.out, ← List.append_assoc]; exact O5.out, hb5.out.trans HB5.out⟩
        case measure => simp [intOf]; omega
      · obtain rfl : n = k := by omega
        obtain ⟨Y, hY⟩ : ∃ Y, Y = H ++ sackB (l.take n) := ⟨_, rfl⟩
        have HX : Hid (Y ++ zs = bodyB ⟨seq, ack, win, f0, f1, f2, f3, l, zs⟩) := Lib.hid (by
          rw [hY, HH.out, List.take_of_length_le (by rw [HR.out.2.1]; exact Nat.le_refl _)]; rfl)
        rw [← hY] at O4
        obtain ⟨v, hv⟩ : ∃ v, v = 65535 - fo (tot 0 (Y ++ zs)) := ⟨_, rfl⟩
        obtain ⟨v0, v1⟩ : 0 ≤ v ∧ v ≤ 65535 := by
          rw [hv, HX.out]
          exact sum_bd _ (bodyB_bd _ HF.out HR.out.2.2.1.1)
        have q0 : v / 256 % 256 = v / 256 := by omega
        have HV := Lib.hid hv
        clear hY hv
        go_wp2_with (first
          | (at_builtin; refine wpList_appB rfl _ (.tmp 45) (.tmp 47) rfl (w.heap.size + 1) A4 q c4 Y rfl O4.out D m d zs rfl (HR.out.2.2.1.below HB4.out) HR.out.2.2.2 N (by have := HQ.out; omega) (by omega) (by omega) ?_; intro A5 c5 w5 ho5 hb5 _; obtain ⟨g, rfl, hg0, hg1⟩ := ho5.some_ (by omega); have y0 := ho5.cell 8 (by omega); have y1 := ho5.cell 9 (by omega); have y2 := ho5.soft 8; have y3 := ho5.soft 9; have O5 := Lib.hid ho5; have HB5 := Lib.hid hb5; clear ho5 hb5)
          | (go_at_call 25; refine (sum_any _ N c5 (Y ++ zs) _ O5.out.bs O5.out.2.1 (by omega)).mono ?_; rw [← HV.out]; rintro e w' ⟨rfl, rfl⟩))
        go_ret2
        obtain ⟨h1, h2⟩ := O5.out.put 8 (v / 256) (by omega)
        obtain ⟨h3, h4⟩ := h1.put 9 (v % 256) (by omega)
        refine ⟨_, c5, rfl, OwnB.base (base := w.heap.size + 1) ?_ (by omega), bthen' HB4.out (by omega) ((HB5.out.trans h2).trans h4)⟩
        rw [bytesOf, sealB, ← HX.out, ← HV.out]
        exact h3

end Go.Proofs.Ytgmpablmkpamaaa
