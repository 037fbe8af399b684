/-
  Contract of packthreadref.SegEncoded: in the words of seg.Encode.
-/
import Derived.Test.YtgmpablmkpamaaaSegRef2
import Derived.Test.YtgmpablmkpamaaaFoldRef
namespace Go.Proofs.Ytgmpablmkpamaaa
open Go.RowKit
set_option linter.unusedVariables false
set_option linter.unusedSimpArgs false

theorem refenc_no (s : Sg) (A : Option Addr) (n c : Nat) (D : Option Addr) (m d : Nat) (w : World) (hs : SegIs w s A n D m) (hf : fault s ≠ 0) :
    Calls Try.prog 10 #[segV s A n c D m d] w fun e w' => e = .returned (.tuple #[.slice none 0 0, .int .i64 (fault s)]) ∧ Below w.heap.size w w' := by
  have HS := Lib.hid hs
  obtain ⟨q, hq⟩ : ∃ q, q = fault s := ⟨_, rfl⟩
  rw [← hq] at hf ⊢
  have HQ := Lib.hid hq
  clear hs hq
  have hk : ∀ w1 : World, Below w.heap.size w w1 → Calls Try.prog 26 #[segV s A n c D m d] w1 fun e w' => e = .returned (.int .i64 q) ∧ Below w1.heap.size w1 w' := fun w1 h1 => by
    have k := HS.out.below h1
    rw [HQ.out]
    exact rf_any s A n c D m d w1 k.1 k.2.1 k.2.2.2
  obtain ⟨seq, ack, win, f0, f1, f2, f3, l, zs⟩ := s
  unfold segV at hk ⊢
  simp only at hk ⊢
  have HK := Lib.hid hk
  clear hk
  go_enter Try.func10, Try.ntmps10
  go_wp2_with (go_at_call 26; refine (HK.out _ (by first | exact Below.refl _ _ | exact ba1 _ _)).mono ?_; rintro e w1 ⟨rfl, hb1⟩)
  go_ret2
  exact ⟨rfl, by first | exact hb1 | exact bthen (ba1 _ _) hb1⟩

set_option maxRecDepth 100000 in
set_option maxHeartbeats 4000000 in
theorem refenc_ok (s : Sg) (A : Option Addr) (n c : Nat) (D : Option Addr) (m d N : Nat) (w : World) (hs : SegIs w s A n D m) (hf : fault s = 0) (hN : 10 + 4 * n + m = N) :
    Calls Try.prog 10 #[segV s A n c D m d] w (RetE w N (bytesOf s)) := by
  have HS := Lib.hid hs
  have HF := Lib.hid hf
  have hk : ∀ w1 : World, Below w.heap.size w w1 → Calls Try.prog 26 #[segV s A n c D m d] w1 fun e w' => e = .returned (.int .i64 0) ∧ Below w1.heap.size w1 w' := fun w1 h1 => by
    have k := HS.out.below h1
    rw [← HF.out]
    exact rf_any s A n c D m d w1 k.1 k.2.1 k.2.2.2
  obtain ⟨⟨p1, p2⟩, ⟨p3, p4⟩, ⟨p5, p6⟩, n3, m64, hall, hx9⟩ := fault_zero hf
  clear hx9
  rw [hs.2.1] at n3
  rw [hs.2.2.2] at m64
  have HALL := Lib.hid hall
  clear hs hf hall
  obtain ⟨seq, ack, win, f0, f1, f2, f3, l, zs⟩ := s
  unfold segV at hk ⊢
  simp only at *
  have HK := Lib.hid hk
  have hmf : ∀ (fn : Fn) (first cap : Array Value) (w : World), (Instr.makeFunc fn first cap).run Try.prog w = .ok (.func fn first cap) w := fun _ _ _ _ => rfl
  have zn : IntKind.u8.wrap (n : Int) = (n : Int) := by rw [IntKind.wrap_u8]; omega
  clear hk
  go_enter Try.func10, Try.ntmps10
  go_upto_region 10 with (first
    | (go_at_call 26; refine (HK.out _ (by first | exact Below.refl _ _ | exact ba1 _ _)).mono ?_; rintro e w1 ⟨rfl, hb1⟩; have hz1 := hb1.size; simp at hz1; have k0 := hb1.cell (p := ⟨w.heap.size, 0, none⟩) (by simp <;> omega); have k1 := hb1.cell (p := ⟨w.heap.size, 1, none⟩) (by simp <;> omega); have k2 := hb1.cell (p := ⟨w.heap.size, 2, none⟩) (by simp <;> omega); have k3 := hb1.cell (p := ⟨w.heap.size, 3, none⟩) (by simp <;> omega); have k4 := hb1.cell (p := ⟨w.heap.size, 4, none⟩) (by simp <;> omega); have k5 := hb1.cell (p := ⟨w.heap.size, 5, none⟩) (by simp <;> omega); have k6 := hb1.cell (p := ⟨w.heap.size, 6, none⟩) (by simp <;> omega); have k7 := hb1.cell (p := ⟨w.heap.size, 7, none⟩) (by simp <;> omega); have k8 := hb1.cell (p := ⟨w.heap.size, 8, none⟩) (by simp <;> omega); simp at k0 k1 k2 k3 k4 k5 k6 k7 k8; have HB1 := Lib.hid (bthen (ba1 _ _) hb1); have HP1 : Hid (ByteAt (w1.alloc (.cells #[.slice none 0 0] 23)) w1.heap.size (w1.heap.size + 1) none 0 0 []) := Lib.hid ⟨World.alloc_heap_new w1 _, OwnB.nil _ _⟩; have hlt1 : w.heap.size < w1.heap.size := (by omega); clear hb1)
    | (go_at_call 27; (with_reducible refine (put_any w1.heap.size (w1.heap.size + 1) seq none 0 0 2 [] (w1.alloc (.cells #[.slice none 0 0] 23)) HP1.out (by omega) (by simp) (by omega) (by omega) (by omega) rfl).mono ?_); rintro e w2 ⟨A2, c2, rfl, hp2, hq2⟩; have HP2 := Lib.hid hp2; have HB2 : Hid (Below w1.heap.size w1 w2) := Lib.hid ((ba1 w1 (.cells #[.slice none 0 0] 23)).trans hq2.below); have hz2 := HB2.out.size; have hy2 := hq2.below.size; (try simp at hy2); have n20 := (HB2.out.cell (p := ⟨w.heap.size, 0, none⟩) hlt1).trans k0; have n21 := (HB2.out.cell (p := ⟨w.heap.size, 1, none⟩) hlt1).trans k1; have n22 := (HB2.out.cell (p := ⟨w.heap.size, 2, none⟩) hlt1).trans k2; have n23 := (HB2.out.cell (p := ⟨w.heap.size, 3, none⟩) hlt1).trans k3; have n24 := (HB2.out.cell (p := ⟨w.heap.size, 4, none⟩) hlt1).trans k4; have n25 := (HB2.out.cell (p := ⟨w.heap.size, 5, none⟩) hlt1).trans k5; have n26 := (HB2.out.cell (p := ⟨w.heap.size, 6, none⟩) hlt1).trans k6; have n27 := (HB2.out.cell (p := ⟨w.heap.size, 7, none⟩) hlt1).trans k7; have n28 := (HB2.out.cell (p := ⟨w.heap.size, 8, none⟩) hlt1).trans k8; clear hp2 hq2)
    | (go_at_call 27; (with_reducible refine (put_any w1.heap.size (w1.heap.size + 1) ack A2 2 c2 4 ([] ++ two seq) w2 HP2.out (by omega) (by omega) (by omega) (by omega) (by omega) rfl).mono ?_); rintro e w3 ⟨A3, c3, rfl, hp3, hq3⟩; have HP3 := Lib.hid hp3; have HB3 : Hid (Below w1.heap.size w1 w3) := Lib.hid (HB2.out.trans hq3.below); have hz3 := HB3.out.size; have hy3 := hq3.below.size; (try simp at hy3); have n30 := (HB3.out.cell (p := ⟨w.heap.size, 0, none⟩) hlt1).trans k0; have n31 := (HB3.out.cell (p := ⟨w.heap.size, 1, none⟩) hlt1).trans k1; have n32 := (HB3.out.cell (p := ⟨w.heap.size, 2, none⟩) hlt1).trans k2; have n33 := (HB3.out.cell (p := ⟨w.heap.size, 3, none⟩) hlt1).trans k3; have n34 := (HB3.out.cell (p := ⟨w.heap.size, 4, none⟩) hlt1).trans k4; have n35 := (HB3.out.cell (p := ⟨w.heap.size, 5, none⟩) hlt1).trans k5; have n36 := (HB3.out.cell (p := ⟨w.heap.size, 6, none⟩) hlt1).trans k6; have n37 := (HB3.out.cell (p := ⟨w.heap.size, 7, none⟩) hlt1).trans k7; have n38 := (HB3.out.cell (p := ⟨w.heap.size, 8, none⟩) hlt1).trans k8; clear hp3 hq3)
    | (go_at_call 27; (with_reducible refine (put_any w1.heap.size (w1.heap.size + 1) win A3 4 c3 6 ([] ++ two seq ++ two ack) w3 HP3.out (by omega) (by omega) (by omega) (by omega) (by omega) rfl).mono ?_); rintro e w4 ⟨A4, c4, rfl, hp4, hq4⟩; have HP4 := Lib.hid hp4; have HB4 : Hid (Below w1.heap.size w1 w4) := Lib.hid (HB3.out.trans hq4.below); have hz4 := HB4.out.size; have hy4 := hq4.below.size; (try simp at hy4); have n40 := (HB4.out.cell (p := ⟨w.heap.size, 0, none⟩) hlt1).trans k0; have n41 := (HB4.out.cell (p := ⟨w.heap.size, 1, none⟩) hlt1).trans k1; have n42 := (HB4.out.cell (p := ⟨w.heap.size, 2, none⟩) hlt1).trans k2; have n43 := (HB4.out.cell (p := ⟨w.heap.size, 3, none⟩) hlt1).trans k3; have n44 := (HB4.out.cell (p := ⟨w.heap.size, 4, none⟩) hlt1).trans k4; have n45 := (HB4.out.cell (p := ⟨w.heap.size, 5, none⟩) hlt1).trans k5; have n46 := (HB4.out.cell (p := ⟨w.heap.size, 6, none⟩) hlt1).trans k6; have n47 := (HB4.out.cell (p := ⟨w.heap.size, 7, none⟩) hlt1).trans k7; have n48 := (HB4.out.cell (p := ⟨w.heap.size, 8, none⟩) hlt1).trans k8; clear hp4 hq4))
  have HPX := HP4
  have hlow : w.heap.size < w1.heap.size := hlt1
  have hsz4 : w1.heap.size + 1 ≤ w4.heap.size := by omega
  have r3 := n43; have r4 := n44; have r5 := n45; have r6 := n46; have r7 := n47; have r8 := n48
  clear k0 k1 k2 k3 k4 k5 k6 n20 n21 n22 n23 n24 n25 n26 n27 n28 n30 n31 n32 n33 n34 n35 n36 n37 n38 n40 n41 n42 n43 n44 n45 n46 n47 n48 HP1 HP2 HP3 HP4 HB2 HB3 HK
  obtain ⟨v1, hv1, o1, o1'⟩ : ∃ v, Hid (v = b2 f0 1) ∧ 0 ≤ v ∧ v ≤ 1 := ⟨_, Lib.hid rfl, by cases f0 <;> decide, by cases f0 <;> decide⟩
  obtain ⟨v2, hv2, o2, o2'⟩ : ∃ v, Hid (v = v1 + b2 f1 2) ∧ 0 ≤ v ∧ v ≤ 3 := ⟨_, Lib.hid rfl, by cases f1 <;> simp [b2] <;> omega, by cases f1 <;> simp [b2] <;> omega⟩
  obtain ⟨v3, hv3, o3, o3'⟩ : ∃ v, Hid (v = v2 + b2 f2 4) ∧ 0 ≤ v ∧ v ≤ 7 := ⟨_, Lib.hid rfl, by cases f2 <;> simp [b2] <;> omega, by cases f2 <;> simp [b2] <;> omega⟩
  obtain ⟨v4, hv4, o4, o4'⟩ : ∃ v, Hid (v = v3 + b2 f3 8) ∧ 0 ≤ v ∧ v ≤ 15 := ⟨_, Lib.hid rfl, by cases f3 <;> simp [b2] <;> omega, by cases f3 <;> simp [b2] <;> omega⟩
  go_upto_if 30 with fail
  go_cut [7] (fun f wc => w4 = wc ∧ f = .int .i64 v1)
  case first =>
    have HV := hv1
    cases f0
    · go_wp2
      go_meet
      exact ⟨rfl, by rw [HV.out]; simp [b2]⟩
    · go_wp2
      go_meet
      exact ⟨rfl, by rw [HV.out]; simp [b2]⟩
  case rest =>
    obtain ⟨rfl, rfl⟩ := hcut
    go_upto_if 34 with fail
    go_cut [7] (fun f wc => w4 = wc ∧ f = .int .i64 v2)
    case first =>
      have HV := hv2
      cases f1
      · go_wp2
        go_meet
        exact ⟨rfl, by rw [HV.out]; simp [b2]⟩
      · go_wp2
        go_meet
        exact ⟨rfl, by rw [HV.out]; simp [b2]⟩
    case rest =>
      obtain ⟨rfl, rfl⟩ := hcut
      go_upto_if 38 with fail
      go_cut [7] (fun f wc => w4 = wc ∧ f = .int .i64 v3)
      case first =>
        have HV := hv3
        cases f2
        · go_wp2
          go_meet
          exact ⟨rfl, by rw [HV.out]; simp [b2]⟩
        · go_wp2
          go_meet
          exact ⟨rfl, by rw [HV.out]; simp [b2]⟩
      case rest =>
        obtain ⟨rfl, rfl⟩ := hcut
        go_upto_if 42 with fail
        go_cut [7] (fun f wc => w4 = wc ∧ f = .int .i64 v4)
        case first =>
          have HV := hv4
          cases f3
          · go_wp2
            go_meet
            exact ⟨rfl, by rw [HV.out]; simp [b2]⟩
          · go_wp2
            go_meet
            exact ⟨rfl, by rw [HV.out]; simp [b2]⟩
        case rest =>
          obtain ⟨rfl, rfl⟩ := hcut
          have HFL : Hid (v4 = fl f0 f1 f2 f3) := Lib.hid (by rw [hv4.out, hv3.out, hv2.out, hv1.out]; rfl)
          have zv : IntKind.u8.wrap v4 = v4 := by rw [IntKind.wrap_u8]; omega
          have hLL : Hid (∀ x ∈ [v4, (n : Int), 0, 0], 0 ≤ x ∧ x ≤ 255) := Lib.hid (by intro x hx; simp at hx; rcases hx with rfl | rfl | rfl <;> omega)
          have hcell := cell_of_one HPX.out.1
          have hfree := free_of_one HPX.out.1
          have hne : w1.heap.size ≠ w.heap.size := by omega
          have hne' : w.heap.size ≠ w1.heap.size := by omega
          have HB4' := HB4
          clear r3 r4 r5 r6
          go_upto_region 19 with (at_builtin; refine wpList_appB rfl _ (.tmp 45) (.tmp 52) rfl (w1.heap.size + 1) A4 6 c4 ([] ++ two seq ++ two ack ++ two win) rfl (HPX.out.2.below (ba1 _ _)) _ 4 4 [v4, (n : Int), 0, 0] rfl (bs_new _ _ _ _ hLL.out (by simp) _ (by simp)) rfl 10 rfl (by omega) (by simp; omega) ?_; intro A5 c5 w5 ho5 hb5 hs5; have hH5 := (hb5.block w1.heap.size (by omega)).trans (((ba1 w4 (.cells #[.int .u8 v4, .int .u8 n, .int .u8 0, .int .u8 0] 5)).block w1.heap.size (by omega)).trans HPX.out.1); have hcB := cell_of_one hH5; have hfB := free_of_one hH5; have HH5 := Lib.hid hH5; have O5 := Lib.hid ho5; have HB5 : Hid (Below w1.heap.size w1 w5) := Lib.hid (((HB4'.out.alloc (by omega) _).trans (hb5.mono (by omega)))); have hz5 := hb5.size; (try simp at hz5); clear ho5 hb5 hs5 hH5)
          obtain ⟨H, hH⟩ : ∃ H, H = ([] ++ two seq ++ two ack ++ two win) ++ [v4, (n : Int), 0, 0] := ⟨_, rfl⟩
          have HH : Hid (H = heads ⟨seq, ack, win, f0, f1, f2, f3, l, zs⟩) := Lib.hid (by rw [hH, HFL.out]; have := HS.out.2.1; simp at this; simp [heads, this])
          rw [← hH] at O5
          obtain ⟨B, hB⟩ : ∃ B, B = w1.heap.size := ⟨_, rfl⟩
          obtain ⟨W, hW⟩ : ∃ W, W = w5.setCell ⟨w1.heap.size, 0, none⟩ (.slice A5 10 c5) := ⟨_, rfl⟩
          have HPW : Hid (ByteAt W B (B + 1) A5 10 c5 H) := Lib.hid (by rw [hW, hB]; exact ⟨one_setCell HH5.out, O5.out.setLow _ (by omega) _⟩)
          have hBW : Below w1.heap.size w1 W := by rw [hW]; exact HB5.out.setCell (Nat.le_refl _) _
          have e7 := (hBW.cell (p := ⟨w.heap.size, 7, none⟩) hlt1).trans k7
          have e8 := (hBW.cell (p := ⟨w.heap.size, 8, none⟩) hlt1).trans k8
          have hzW : B + 1 ≤ W.heap.size := by rw [hW, hB]; simp; omega
          have HBW : Hid (Below w.heap.size w W) := Lib.hid (bthen' HB1.out (by omega) hBW)
          have hlB : w.heap.size < B := by omega
          have HR : Hid (Rs w A l ∧ l.length = n ∧ Bs w D zs ∧ zs.length = m) := HS
          rw [← hW, ← hB]
          have HWB := Lib.hid hB
          clear hW hBW hH hLL HFL hcB hfB hcell hfree O5 HH5 HB5 hv1 hv2 hv3 hv4 HPX HB4 HB4' k7 k8 r7 r8 zv zn hne hne' hB
          go_wp2
          go_loopw [57] (fun i wr => ∃ (k q : Nat) (A6 : Option Addr) (c6 : Nat), k ≤ n ∧ q = 10 + 4 * k ∧ i = .int .i64 k ∧ ByteAt wr B (B + 1) A6 q c6 (H ++ sackB (l.take k)) ∧ Below B W wr) (fun i _ => n - (intOf i).toNat)
          case atStart => exact ⟨0, 10, A5, c5, Nat.zero_le _, rfl, rfl, by simpa [sackB] using HPW.out, Below.refl _ _⟩
          case round =>
            obtain ⟨k, q, A6, c6, hk, hq, rfl, hp6, hb6⟩ := hrel
            have HP6 := Lib.hid hp6
            have hz6 := hb6.size
            have HB6 : Hid (Below w.heap.size w wr) := Lib.hid (bthen' HBW.out (by omega) hb6)
            have g7 := (hb6.cell (p := ⟨w.heap.size, 7, none⟩) hlB).trans e7
            have g8 := (hb6.cell (p := ⟨w.heap.size, 8, none⟩) hlB).trans e8
            have hq2 : q ≤ 22 := by omega
            have HQ := Lib.hid hq
            have hb6' := Lib.hid hb6
            clear hp6 hq hb6
            by_cases hlt : k < n
            · obtain ⟨⟨x1, x2⟩, hx, hd⟩ := drop_at l k (by rw [HR.out.2.1]; exact hlt)
              obtain ⟨b, o, rfl, hbs, hc1, hc2⟩ := (HR.out.1.below HB6.out).at k _ hx
              have hok := List.all_eq_true.1 HALL.out _ (List.mem_of_getElem? hx)
              simp only [okR, Bool.and_eq_true, sm_t] at hok
              have ht : Hid (sackB (l.take (k + 1)) = sackB (l.take k) ++ (two x1 ++ two x2)) := Lib.hid (by rw [List.take_add_one, hx, sackB_app]; simp [sackB])
              obtain ⟨⟨s1, s2⟩, s3, s4⟩ := hok
              have HPr : Hid (ByteAt (wr.alloc (.cells #[.int .i64 x1, .int .i64 x2] 50)) B (B + 1) A6 q c6 (H ++ sackB (l.take k))) := Lib.hid ⟨((ba1 wr (.cells #[.int .i64 x1, .int .i64 x2] 50)).block B (by omega)).trans HP6.out.1, HP6.out.2.below (ba1 _ _)⟩
              have hg6 : Hid (∀ j, (Value.slice A6 q c6).ownBlock = some j → wr.heap.size ≠ j) := Lib.hid (fun j hj => by have := (HP6.out.2.lt j hj).2; omega)
              clear hx hd
              simp only at hc1 hc2
              go_wp2_with (first
                | (go_at_call 27; (with_reducible refine (put_any B (B + 1) x1 A6 q c6 (q + 2) (H ++ sackB (l.take k)) (wr.alloc (.cells #[.int .i64 x1, .int .i64 x2] 50)) HPr.out (by omega) (by simp; omega) (by omega) (by omega) (by omega) rfl).mono ?_); rintro e w7 ⟨A7, c7, rfl, hp7, hq7⟩; have hx7 := (World.cell?_of_block (a := ⟨wr.heap.size, 1, none⟩) (hq7.block wr.heap.size (by simp) (by omega) hg6.out)).trans (show (wr.alloc (.cells #[.int .i64 x1, .int .i64 x2] 50)).cell? ⟨wr.heap.size, 1, none⟩ = some (.int .i64 x2) by simp); have hz7 := hq7.below.size; (try simp at hz7); have HP7 := Lib.hid hp7; have HB7 : Hid (Below B wr w7) := Lib.hid (((ba1 wr (.cells #[.int .i64 x1, .int .i64 x2] 50)).mono (by omega)).trans hq7.below); clear hp7 hq7)
                | (go_at_call 27; (with_reducible refine (put_any B (B + 1) x2 A7 (q + 2) c7 (q + 4) (H ++ sackB (l.take k) ++ two x1) w7 HP7.out (by omega) (by omega) (by omega) (by omega) (by omega) rfl).mono ?_); rintro e w8 ⟨A8, c8, rfl, hp8, hq8⟩; have HP8 := Lib.hid hp8; have HB8 : Hid (Below B wr w8) := Lib.hid (HB7.out.trans hq8.below); clear hp8 hq8))
              go_roundw
              case rel => exact ⟨k + 1, q + 4, A8, c8, by omega, by have := HQ.out; omega, by go_num, by have := HP8.out; rw [ht.out, ← List.append_assoc, ← List.append_assoc]; exact this, hb6'.out.trans HB8.out⟩
              case measure => simp [intOf]; omega
            · obtain rfl : n = k := by omega
              obtain ⟨Y, hY⟩ : ∃ Y, Y = H ++ sackB (l.take n) := ⟨_, rfl⟩
              have HX : Hid (Y ++ zs = bodyB ⟨seq, ack, win, f0, f1, f2, f3, l, zs⟩) := Lib.hid (by
                rw [hY, HH.out, List.take_of_length_le (by rw [HR.out.2.1]; exact Nat.le_refl _)]; rfl)
              rw [← hY] at HP6
              obtain ⟨fv, hv⟩ : ∃ fv, fv = fo (tot 0 (Y ++ zs)) := ⟨_, rfl⟩
              obtain ⟨v0, v1⟩ : 0 ≤ fv ∧ fv ≤ 65535 := by
                have := sum_bd _ (bodyB_bd _ HF.out HR.out.2.2.1.1)
                rw [← HX.out, ← hv] at this
                omega
              have q0 : (65535 - fv) / 256 % 256 = (65535 - fv) / 256 := by omega
              have HV := Lib.hid hv
              have hcell := cell_of_one HP6.out.1
              have hfree := free_of_one HP6.out.1
              have hne : B ≠ w.heap.size := by omega
              have hne' : w.heap.size ≠ B := by omega
              clear hY hv
              go_upto_region 26 with (at_builtin; refine wpList_appB rfl _ (.tmp 70) (.tmp 72) rfl (B + 1) A6 q c6 Y rfl HP6.out.2 D m d zs rfl (HR.out.2.2.1.below HB6.out) HR.out.2.2.2 N (by have := HQ.out; omega) (by omega) (by omega) ?_; intro A7 c7 w7 ho7 hb7 _; have hH7 := (hb7.block B (by omega)).trans HP6.out.1; have hcB := cell_of_one hH7; have hfB := free_of_one hH7; have HH7 := Lib.hid hH7; have O7 := Lib.hid ho7; have HB7 := Lib.hid hb7; have hz7 := hb7.size; clear ho7 hb7 hH7)
              obtain ⟨V, hV⟩ : ∃ V, V = w7.setCell ⟨B, 0, none⟩ (.slice A7 N c7) := ⟨_, rfl⟩
              obtain ⟨g, hg, hg0, hg1⟩ := O7.out.some_ (by omega)
              subst hg
              have HOV : Hid (OwnB V (B + 1) (some ⟨g, 0, none⟩) N c7 (Y ++ zs)) := Lib.hid (by rw [hV]; exact O7.out.setLow _ (by omega) _)
              have hHV : V.heap[B]? = some (.cells #[.slice (some ⟨g, 0, none⟩) N c7] 23 (0, 0)) := by rw [hV]; exact one_setCell HH7.out
              have HBV : Hid (Below w.heap.size w V) := Lib.hid (by rw [hV]; exact ((HB6.out.trans (HB7.out.mono (by omega)))).setCell (by simp only; omega) _)
              have ebox := cell_of_one hHV
              have y0 := HOV.out.cell 8 (by omega); have y2 := HOV.out.soft 8
              have hgV : g < V.heap.size := by rw [hV]; simp; omega
              rw [← hV]
              have HHV := Lib.hid hHV
              clear hV hHV hcB hfB hcell hfree O7 HH7
              go_upto_region 28 with (go_at_call 28; refine (reffold_any _ N c7 (Y ++ zs) _ HOV.out.bs HOV.out.2.1 (by omega)).mono ?_; rintro e w' ⟨rfl, rfl⟩; rw [← HV.out])
              obtain ⟨V2, hV2⟩ : ∃ V2, V2 = V.setCell ⟨g, 8, none⟩ (.int .u8 ((65535 - fv) / 256)) := ⟨_, rfl⟩
              obtain ⟨h1, h2⟩ := HOV.out.put 8 ((65535 - fv) / 256) (by omega)
              rw [← hV2] at h1 h2
              have HO2 := Lib.hid h1
              have HB2V := Lib.hid h2
              have hB2 : V2.heap[B]? = some (.cells #[.slice (some ⟨g, 0, none⟩) N c7] 23 (0, 0)) := by rw [hV2, Below.heap_setCell _ _ _ _ (by simp only; omega)]; exact HHV.out
              have ebox2 := cell_of_one hB2
              have hH2 := Lib.hid hB2
              have y3 := h1.cell 9 (by omega); have y4 := h1.soft 9
              have hgV2 : g < V2.heap.size := by rw [hV2]; simp; omega
              rw [← hV2]
              clear hV2 hB2 h1 h2 ebox y0 y2
              go_upto_region 29 with fail
              obtain ⟨V3, hV3⟩ : ∃ V3, V3 = V2.setCell ⟨g, 9, none⟩ (.int .u8 ((65535 - fv) % 256)) := ⟨_, rfl⟩
              obtain ⟨h1, h2⟩ := HO2.out.put 9 ((65535 - fv) % 256) (by omega)
              rw [← hV3] at h1 h2
              have HO3 := Lib.hid h1
              have HB3V := Lib.hid h2
              have hB3 : V3.heap[B]? = some (.cells #[.slice (some ⟨g, 0, none⟩) N c7] 23 (0, 0)) := by rw [hV3, Below.heap_setCell _ _ _ _ (by simp only; omega)]; exact hH2.out
              have ebox3 := cell_of_one hB3
              rw [← hV3]
              clear hV3 hB3 h1 h2 ebox2 y3 y4
              go_wp2
              go_ret2
              refine ⟨_, c7, rfl, OwnB.base (base := B + 1) ?_ (by omega), (HBV.out.trans (HB2V.out.mono (by omega))).trans (HB3V.out.mono (by omega))⟩
              rw [bytesOf, sealB, ← HX.out, ← HV.out]
              exact HO3.out

end Go.Proofs.Ytgmpablmkpamaaa
