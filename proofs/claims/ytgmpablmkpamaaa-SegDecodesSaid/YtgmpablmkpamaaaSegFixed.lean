/-
  Contracts of seg.Decode in the words of a statement's walk; and the walk of SegFixed.
-/
import Derived.Test.YtgmpablmkpamaaaSegDecode
import Derived.Test.YtgmpablmkpamaaaSegSame
namespace Go.Proofs.Ytgmpablmkpamaaa
open Go.RowKit Go.Shelf
set_option linter.unusedVariables false
set_option linter.unusedSimpArgs false

theorem decode_bad (A : Option Addr) (n c : Nat) (zs : List Int) (k : Int) (w : World) (hb : Bs w A zs) (hn : zs.length = n) (hc : n ≤ c) (h47 : n ≤ 140737488355328) (hk : codeD zs = k) (h0 : k ≠ 0) :
    Calls Try.prog 12 #[.slice A n c] w fun e w' => e = .returned (.tuple #[.agg #[.int .i64 0, .int .i64 0, .int .i64 0, .bool false, .bool false, .bool false, .bool false, .slice none 0 0, .slice none 0 0], .int .i64 k]) ∧ Below w.heap.size w w' := by
  refine (decode_any A n c zs w hb hn hc h47).mono ?_
  rintro e w' ⟨h1, ⟨_, h2⟩ | ⟨h2, _⟩⟩
  · rw [hk] at h2; exact ⟨h2, h1⟩
  · rw [hk] at h2; exact absurd h2 h0
theorem decode_good (A : Option Addr) (n c : Nat) (zs : List Int) (seq ack win : Int) (f0 f1 f2 f3 : Bool) (l : List Rg) (ds : List Int) (q m : Nat) (w : World) (hb : Bs w A zs) (hn : zs.length = n) (hc : n ≤ c) (h47 : n ≤ 140737488355328) (hk : codeD zs = 0)
    (hs : dec zs = ⟨seq, ack, win, f0, f1, f2, f3, l, ds⟩) (hq : l.length = q) (hm : ds.length = m) :
    Calls Try.prog 12 #[.slice A n c] w fun e w' => ∃ Ad cd D d, e = .returned (.tuple #[.agg #[.int .i64 seq, .int .i64 ack, .int .i64 win, .bool f0, .bool f1, .bool f2, .bool f3, .slice Ad q cd, .slice D m d], .int .i64 0]) ∧ SegOwn w' w.heap.size ⟨seq, ack, win, f0, f1, f2, f3, l, ds⟩ Ad q cd D m d ∧ Below w.heap.size w w' := by
  refine (decode_any A n c zs w hb hn hc h47).mono ?_
  rintro e w' ⟨h1, ⟨h2, _⟩ | ⟨_, Ad, cd, D, m', d, h2, h3⟩⟩
  · exact absurd hk h2
  · have hqq : cnt zs = q := by
      have := congrArg (fun s : Sg => s.sacks.length) hs
      simp only [hq] at this
      rw [← this]; exact (sacksAt_len _ _ _).symm
    rw [hs, hqq] at h2 h3
    have hmm : m' = m := by rw [← hm]; exact h3.2.2.1.symm
    subst hmm
    exact ⟨Ad, cd, D, d, h2, h3, h1⟩

theorem bs_nil (w : World) (A : Option Addr) : Bs w A [] := ⟨fun z hz => by simp at hz, .inl rfl⟩
def list0 : List Int := [0, 0, 0, 0, 0, 0, 0, 0, 255, 255]
theorem code0 : codeD list0 = 0 := by decide
theorem dec0_ : dec list0 = ⟨0, 0, 0, false, false, false, false, [], []⟩ := by rfl
theorem codeNil : codeD [] = 5 := by decide
theorem codeD_which (zs : List Int) : codeD zs = 0 ∨ codeD zs = 5 ∨ codeD zs = 6 ∨ codeD zs = 4 := by
  unfold codeD
  split
  · simp
  · split
    · simp
    · split <;> simp

set_option maxRecDepth 100000 in
set_option maxHeartbeats 8000000 in
theorem fixed_bad (A : Option Addr) (n c : Nat) (zs : List Int) (k : Int) (w : World) (hb : Bs w A zs) (hn : zs.length = n) (hc : n ≤ c) (hr : c ≤ 140737488351232) (hk : codeD zs = k) (h0 : k = 5 ∨ k = 6 ∨ k = 4) :
    Calls Try.prog 7 #[.slice A n c] w fun e w' => e = .returned (.bool true) ∧ Below w.heap.size w w' := by
  have HB := Lib.hid hb; have HN := Lib.hid hn; have HK := Lib.hid hk
  have hz : SegIs w zeroS none 0 none 0 := ⟨Rs.nil _ _, rfl, bs_nil _ _, rfl⟩
  have HZ : Hid (∀ w' : World, SegIs w' zeroS none 0 none 0) := Lib.hid (fun _ => ⟨Rs.nil _ _, rfl, bs_nil _ _, rfl⟩)
  have hk0 : k ≠ 0 := by omega
  clear hb hn hk hz
  go_enter Try.func7, Try.ntmps7
  go_upto_region 2 with (first
    | (at_builtin; refine wpList_appB rfl _ (.const (.slice none 0 0)) (.tmp 12) rfl w.heap.size none 0 0 [] rfl (OwnB.nil _ _) A n c zs rfl HB.out HN.out n (by omega) (by omega) (Nat.le_refl _) ?_; intro A1 c1 w1 ho1 hb1 _; have O1 := Lib.hid ho1; have HB1 := Lib.hid hb1; have hcap1 := ho1.cap; clear ho1 hb1)
    | (go_at_call 12; (refine (decode_bad A1 n c1 zs k _ O1.out.bs O1.out.2.1 hcap1 (by omega) HK.out hk0).mono ?_); rintro e w2 ⟨rfl, hb2⟩; have HB2 := Lib.hid (bthen HB1.out hb2); clear hb2))
  obtain ⟨V2, hV2⟩ : ∃ V2, V2 = w2.alloc (.cells #[.int .i64 0, .int .i64 0, .int .i64 0, .bool false, .bool false, .bool false, .bool false, .slice none 0 0, .slice none 0 0] 25) := ⟨_, rfl⟩
  obtain ⟨S3, hS3⟩ : ∃ S3, S3 = w2.heap.size := ⟨_, rfl⟩
  have HVS3 : Hid (Box9 V2 S3 (.int .i64 0) (.int .i64 0) (.int .i64 0) (.bool false) (.bool false) (.bool false) (.bool false) (.slice none 0 0) (.slice none 0 0)) := Lib.hid (by rw [hV2, hS3]; exact World.alloc_heap_new w2 _)
  have HBV2 : Hid (Below w.heap.size w V2) := Lib.hid (by rw [hV2]; exact HB2.out.alloc HB2.out.size _)
  rw [← hV2, ← hS3]
  have hl3 : S3 < V2.heap.size := lt_of_block HVS3.out
  clear hV2 hS3
  have HD2 : Hid (∀ (b : Nat) (w' : World), b = w'.heap.size → Calls Try.prog 12 #[.slice (some ⟨b, 0, none⟩) 10 10] (w'.alloc (.cells #[.int .u8 0, .int .u8 0, .int .u8 0, .int .u8 0, .int .u8 0, .int .u8 0, .int .u8 0, .int .u8 0, .int .u8 255, .int .u8 255] 5)) fun e w'' => ∃ Ad cd D d, e = .returned (.tuple #[.agg #[.int .i64 0, .int .i64 0, .int .i64 0, .bool false, .bool false, .bool false, .bool false, .slice Ad 0 cd, .slice D 0 d], .int .i64 0]) ∧ SegIs w'' zeroS Ad 0 D 0 ∧ Below w'.heap.size w' w'') := Lib.hid (fun b w' hb => by
    refine (decode_good (some ⟨b, 0, none⟩) 10 10 list0 0 0 0 false false false false [] [] 0 0 _ (bs_new _ _ list0 _ (by decide) rfl _ hb) rfl (Nat.le_refl _) (by omega) code0 dec0_ rfl rfl).mono ?_
    rintro e w'' ⟨Ad, cd, D, d, h1, h2, h3⟩
    exact ⟨Ad, cd, D, d, h1, h2.is, bthen (ba1 _ _) h3⟩)
  go_upto_region 3 with (go_at_call 12; (refine (HD2.out _ _ rfl).mono ?_); rintro e w3 ⟨Ad, cd, D, d, rfl, hs3, hb3⟩; have HS3 := Lib.hid hs3; have HB3 := Lib.hid (bthen HBV2.out hb3); have HVT3 := Lib.hid (box9_below HVS3.out hb3); have hz3 := hb3.size; clear hs3 hb3)
  obtain ⟨V3, hV3⟩ : ∃ V3, V3 = w3.alloc (.cells #[.int .i64 0, .int .i64 0, .int .i64 0, .bool false, .bool false, .bool false, .bool false, .slice Ad 0 cd, .slice D 0 d] 25) := ⟨_, rfl⟩
  obtain ⟨S5, hS5⟩ : ∃ S5, S5 = w3.heap.size := ⟨_, rfl⟩
  have HVS5 : Hid (Box9 V3 S5 (.int .i64 0) (.int .i64 0) (.int .i64 0) (.bool false) (.bool false) (.bool false) (.bool false) (.slice Ad 0 cd) (.slice D 0 d)) := Lib.hid (by rw [hV3, hS5]; exact World.alloc_heap_new w3 _)
  have HBV3 : Hid (Below w.heap.size w V3) := Lib.hid (by rw [hV3]; exact HB3.out.alloc HB3.out.size _)
  have HVU3 : Hid (Box9 V3 S3 (.int .i64 0) (.int .i64 0) (.int .i64 0) (.bool false) (.bool false) (.bool false) (.bool false) (.slice none 0 0) (.slice none 0 0)) := Lib.hid (by rw [hV3]; exact box9_below HVT3.out (ba1 _ _))
  have HS5 : Hid (SegIs V3 zeroS Ad 0 D 0) := Lib.hid (by rw [hV3]; exact HS3.out.below (ba1 _ _))
  rw [← hV3, ← hS5]
  have hl5 : S5 < V3.heap.size := lt_of_block HVS5.out
  clear hV3 hS5
  have HD3 : Hid (∀ w' : World, Calls Try.prog 12 #[.slice none 0 0] w' fun e w'' => e = .returned (.tuple #[.agg #[.int .i64 0, .int .i64 0, .int .i64 0, .bool false, .bool false, .bool false, .bool false, .slice none 0 0, .slice none 0 0], .int .i64 5]) ∧ Below w'.heap.size w' w'') := Lib.hid (fun w' => decode_bad none 0 0 [] 5 w' (bs_nil _ _) rfl (Nat.le_refl _) (by omega) codeNil (by decide))
  go_upto_region 4 with (go_at_call 12; (refine (HD3.out _).mono ?_); rintro e w4 ⟨rfl, hb4⟩; have HB4 := Lib.hid (bthen HBV3.out hb4); have HVS4 := Lib.hid (box9_below HVS5.out hb4); have HVT4 := Lib.hid (box9_below HVU3.out hb4); have HS4 := Lib.hid (HS5.out.below hb4); clear hb4)
  obtain ⟨V4, hV4⟩ : ∃ V4, V4 = w4.alloc (.cells #[.int .i64 0, .int .i64 0, .int .i64 0, .bool false, .bool false, .bool false, .bool false, .slice none 0 0, .slice none 0 0] 25) := ⟨_, rfl⟩
  have hb5 : Box9 V4 S5 (.int .i64 0) (.int .i64 0) (.int .i64 0) (.bool false) (.bool false) (.bool false) (.bool false) (.slice Ad 0 cd) (.slice D 0 d) := by rw [hV4]; exact box9_below HVS4.out (ba1 _ _)
  have HVT5 : Hid (Box9 V4 S3 (.int .i64 0) (.int .i64 0) (.int .i64 0) (.bool false) (.bool false) (.bool false) (.bool false) (.slice none 0 0) (.slice none 0 0)) := Lib.hid (by rw [hV4]; exact box9_below HVT4.out (ba1 _ _))
  have HBV4 : Hid (Below w.heap.size w V4) := Lib.hid (by rw [hV4]; exact HB4.out.alloc HB4.out.size _)
  have HS6 : Hid (SegIs V4 zeroS Ad 0 D 0) := Lib.hid (by rw [hV4]; exact HS4.out.below (ba1 _ _))
  obtain ⟨l5, k0, k1, k2, k3, k4, k5, k6, k7, k8, -⟩ := hb5.cells
  rw [← hV4]
  clear hV4 hb5
  have HSM : Hid (∀ (A' : Option Addr) (cd' : Nat) (D' : Option Addr) (d' : Nat) (w' : World), SegIs w' zeroS A' 0 D' 0 → Calls Try.prog 16 #[.agg #[.int .i64 0, .int .i64 0, .int .i64 0, .bool false, .bool false, .bool false, .bool false, .slice A' 0 cd', .slice D' 0 d'], .agg #[.int .i64 0, .int .i64 0, .int .i64 0, .bool false, .bool false, .bool false, .bool false, .slice none 0 0, .slice none 0 0]] w' fun e w'' => e = .returned (.bool true) ∧ Below w'.heap.size w' w'') := Lib.hid (fun A' cd' D' d' w' h => seg_keep zeroS A' 0 cd' D' 0 d' none 0 none 0 w' h (HZ.out w') (by omega) (by omega))
  rcases h0 with rfl | rfl | rfl
  all_goals
    go_wp2_with (first
      | (go_at_call 16; (with_reducible refine (HSM.out Ad cd D d V4 HS6.out).mono ?_); rintro e w5 ⟨rfl, hb5⟩; have HB5 := Lib.hid (bthen HBV4.out hb5); have hv5 := box9_below HVT5.out hb5; obtain ⟨l5', j0, j1, j2, j3, j4, j5, j6, j7, j8, -⟩ := hv5.cells; clear hb5 hv5)
      | (go_at_call 16; (with_reducible refine (HSM.out none 0 none 0 w5 (HZ.out _)).mono ?_); rintro e w6 ⟨rfl, hb6⟩; have HB6 := Lib.hid (bthen HB5.out hb6); clear hb6))
    go_ret
    exact ⟨rfl, HB6.out⟩

set_option maxRecDepth 100000 in
set_option maxHeartbeats 8000000 in
theorem fixed_good (A : Option Addr) (n c : Nat) (zs : List Int) (w : World) (hb : Bs w A zs) (hn : zs.length = n) (hc : n ≤ c) (hr : c ≤ 140737488351232) (hk : codeD zs = 0) :
    Calls Try.prog 7 #[.slice A n c] w fun e w' => e = .returned (.bool true) ∧ Below w.heap.size w w' := by
  have HB := Lib.hid hb; have HN := Lib.hid hn; have HK := Lib.hid hk
  have hz : SegIs w zeroS none 0 none 0 := ⟨Rs.nil _ _, rfl, bs_nil _ _, rfl⟩
  have HZ : Hid (∀ w' : World, SegIs w' zeroS none 0 none 0) := Lib.hid (fun _ => ⟨Rs.nil _ _, rfl, bs_nil _ _, rfl⟩)
  obtain ⟨h10, _, _, _, hfz⟩ := codeD_zero hk
  have hbd := bytes_dec zs hb.1 hk
  obtain ⟨⟨seq, ack, win, f0, f1, f2, f3, l, ds⟩, hse⟩ : ∃ s, dec zs = s := ⟨_, rfl⟩
  obtain ⟨q, hq⟩ : ∃ q, l.length = q := ⟨_, rfl⟩
  obtain ⟨m, hm⟩ : ∃ m, ds.length = m := ⟨_, rfl⟩
  rw [hse] at hbd hfz
  have hN : 10 + 4 * q + m = n := by rw [← hn, ← hbd, bytesOf_len]; simp only [hq, hm]
  have HSE := Lib.hid hse; have HQ := Lib.hid hq; have HM := Lib.hid hm; have HBD := Lib.hid hbd; have HFZ := Lib.hid hfz
  clear hse hq hm hbd hfz
  clear hb hn hk hz
  go_enter Try.func7, Try.ntmps7
  go_upto_region 2 with (first
    | (at_builtin; refine wpList_appB rfl _ (.const (.slice none 0 0)) (.tmp 12) rfl w.heap.size none 0 0 [] rfl (OwnB.nil _ _) A n c zs rfl HB.out HN.out n (by omega) (by omega) (Nat.le_refl _) ?_; intro A1 c1 w1 ho1 hb1 _; have O1 := Lib.hid ho1; have HB1 := Lib.hid hb1; have hcap1 := ho1.cap; clear ho1 hb1)
    | (go_at_call 12; (refine (decode_good A1 n c1 zs seq ack win f0 f1 f2 f3 l ds q m _ O1.out.bs O1.out.2.1 hcap1 (by omega) HK.out HSE.out HQ.out HM.out).mono ?_); rintro e w2 ⟨As, cs, Ds, d2, rfl, ho2, hb2⟩; have HO2 := Lib.hid ho2.is; have HB2 := Lib.hid (bthen HB1.out hb2); clear hb2 ho2))
  obtain ⟨V2, hV2⟩ : ∃ V2, V2 = w2.alloc (.cells #[.int .i64 seq, .int .i64 ack, .int .i64 win, .bool f0, .bool f1, .bool f2, .bool f3, .slice As q cs, .slice Ds m d2] 25) := ⟨_, rfl⟩
  obtain ⟨S3, hS3⟩ : ∃ S3, S3 = w2.heap.size := ⟨_, rfl⟩
  have HVS3 : Hid (Box9 V2 S3 (.int .i64 seq) (.int .i64 ack) (.int .i64 win) (.bool f0) (.bool f1) (.bool f2) (.bool f3) (.slice As q cs) (.slice Ds m d2)) := Lib.hid (by rw [hV2, hS3]; exact World.alloc_heap_new w2 _)
  have HOV2 : Hid (SegIs V2 ⟨seq, ack, win, f0, f1, f2, f3, l, ds⟩ As q Ds m) := Lib.hid (by rw [hV2]; exact HO2.out.below (ba1 _ _))
  have HBV2 : Hid (Below w.heap.size w V2) := Lib.hid (by rw [hV2]; exact HB2.out.alloc HB2.out.size _)
  rw [← hV2, ← hS3]
  have hl3 : S3 < V2.heap.size := lt_of_block HVS3.out
  clear hV2 hS3
  have HD2 : Hid (∀ (b : Nat) (w' : World), b = w'.heap.size → Calls Try.prog 12 #[.slice (some ⟨b, 0, none⟩) 10 10] (w'.alloc (.cells #[.int .u8 0, .int .u8 0, .int .u8 0, .int .u8 0, .int .u8 0, .int .u8 0, .int .u8 0, .int .u8 0, .int .u8 255, .int .u8 255] 5)) fun e w'' => ∃ Ad cd D d, e = .returned (.tuple #[.agg #[.int .i64 0, .int .i64 0, .int .i64 0, .bool false, .bool false, .bool false, .bool false, .slice Ad 0 cd, .slice D 0 d], .int .i64 0]) ∧ SegIs w'' zeroS Ad 0 D 0 ∧ Below w'.heap.size w' w'') := Lib.hid (fun b w' hb => by
    refine (decode_good (some ⟨b, 0, none⟩) 10 10 list0 0 0 0 false false false false [] [] 0 0 _ (bs_new _ _ list0 _ (by decide) rfl _ hb) rfl (Nat.le_refl _) (by omega) code0 dec0_ rfl rfl).mono ?_
    rintro e w'' ⟨Ad, cd, D, d, h1, h2, h3⟩
    exact ⟨Ad, cd, D, d, h1, h2.is, bthen (ba1 _ _) h3⟩)
  go_upto_region 3 with (go_at_call 12; (refine (HD2.out _ _ rfl).mono ?_); rintro e w3 ⟨Ad, cd, D, d, rfl, hs3, hb3⟩; have HS3 := Lib.hid hs3; have HB3 := Lib.hid (bthen HBV2.out hb3); have HVT3 := Lib.hid (box9_below HVS3.out hb3); have HO3 := Lib.hid (HOV2.out.below hb3); have hz3 := hb3.size; clear hs3 hb3)
  obtain ⟨V3, hV3⟩ : ∃ V3, V3 = w3.alloc (.cells #[.int .i64 0, .int .i64 0, .int .i64 0, .bool false, .bool false, .bool false, .bool false, .slice Ad 0 cd, .slice D 0 d] 25) := ⟨_, rfl⟩
  obtain ⟨S5, hS5⟩ : ∃ S5, S5 = w3.heap.size := ⟨_, rfl⟩
  have HVS5 : Hid (Box9 V3 S5 (.int .i64 0) (.int .i64 0) (.int .i64 0) (.bool false) (.bool false) (.bool false) (.bool false) (.slice Ad 0 cd) (.slice D 0 d)) := Lib.hid (by rw [hV3, hS5]; exact World.alloc_heap_new w3 _)
  have HOV3 : Hid (SegIs V3 ⟨seq, ack, win, f0, f1, f2, f3, l, ds⟩ As q Ds m) := Lib.hid (by rw [hV3]; exact HO3.out.below (ba1 _ _))
  have HBV3 : Hid (Below w.heap.size w V3) := Lib.hid (by rw [hV3]; exact HB3.out.alloc HB3.out.size _)
  have HVU3 : Hid (Box9 V3 S3 (.int .i64 seq) (.int .i64 ack) (.int .i64 win) (.bool f0) (.bool f1) (.bool f2) (.bool f3) (.slice As q cs) (.slice Ds m d2)) := Lib.hid (by rw [hV3]; exact box9_below HVT3.out (ba1 _ _))
  have HS5 : Hid (SegIs V3 zeroS Ad 0 D 0) := Lib.hid (by rw [hV3]; exact HS3.out.below (ba1 _ _))
  rw [← hV3, ← hS5]
  have hl5 : S5 < V3.heap.size := lt_of_block HVS5.out
  clear hV3 hS5
  have HD3 : Hid (∀ w' : World, Calls Try.prog 12 #[.slice none 0 0] w' fun e w'' => e = .returned (.tuple #[.agg #[.int .i64 0, .int .i64 0, .int .i64 0, .bool false, .bool false, .bool false, .bool false, .slice none 0 0, .slice none 0 0], .int .i64 5]) ∧ Below w'.heap.size w' w'') := Lib.hid (fun w' => decode_bad none 0 0 [] 5 w' (bs_nil _ _) rfl (Nat.le_refl _) (by omega) codeNil (by decide))
  go_upto_region 4 with (go_at_call 12; (refine (HD3.out _).mono ?_); rintro e w4 ⟨rfl, hb4⟩; have HB4 := Lib.hid (bthen HBV3.out hb4); have HVS4 := Lib.hid (box9_below HVS5.out hb4); have HVT4 := Lib.hid (box9_below HVU3.out hb4); have HO4 := Lib.hid (HOV3.out.below hb4); have HS4 := Lib.hid (HS5.out.below hb4); clear hb4)
  obtain ⟨V4, hV4⟩ : ∃ V4, V4 = w4.alloc (.cells #[.int .i64 0, .int .i64 0, .int .i64 0, .bool false, .bool false, .bool false, .bool false, .slice none 0 0, .slice none 0 0] 25) := ⟨_, rfl⟩
  have hb5 : Box9 V4 S5 (.int .i64 0) (.int .i64 0) (.int .i64 0) (.bool false) (.bool false) (.bool false) (.bool false) (.slice Ad 0 cd) (.slice D 0 d) := by rw [hV4]; exact box9_below HVS4.out (ba1 _ _)
  have HVT5 : Hid (Box9 V4 S3 (.int .i64 seq) (.int .i64 ack) (.int .i64 win) (.bool f0) (.bool f1) (.bool f2) (.bool f3) (.slice As q cs) (.slice Ds m d2)) := Lib.hid (by rw [hV4]; exact box9_below HVT4.out (ba1 _ _))
  have HOV4 : Hid (SegIs V4 ⟨seq, ack, win, f0, f1, f2, f3, l, ds⟩ As q Ds m) := Lib.hid (by rw [hV4]; exact HO4.out.below (ba1 _ _))
  have HBV4 : Hid (Below w.heap.size w V4) := Lib.hid (by rw [hV4]; exact HB4.out.alloc HB4.out.size _)
  have HS6 : Hid (SegIs V4 zeroS Ad 0 D 0) := Lib.hid (by rw [hV4]; exact HS4.out.below (ba1 _ _))
  obtain ⟨l5, k0, k1, k2, k3, k4, k5, k6, k7, k8, -⟩ := hb5.cells
  rw [← hV4]
  clear hV4 hb5
  have HSM : Hid (∀ (A' : Option Addr) (cd' : Nat) (D' : Option Addr) (d' : Nat) (w' : World), SegIs w' zeroS A' 0 D' 0 → Calls Try.prog 16 #[.agg #[.int .i64 0, .int .i64 0, .int .i64 0, .bool false, .bool false, .bool false, .bool false, .slice A' 0 cd', .slice D' 0 d'], .agg #[.int .i64 0, .int .i64 0, .int .i64 0, .bool false, .bool false, .bool false, .bool false, .slice none 0 0, .slice none 0 0]] w' fun e w'' => e = .returned (.bool true) ∧ Below w'.heap.size w' w'') := Lib.hid (fun A' cd' D' d' w' h => seg_keep zeroS A' 0 cd' D' 0 d' none 0 none 0 w' h (HZ.out w') (by omega) (by omega))
  have HEN : Hid (∀ w' : World, SegIs w' ⟨seq, ack, win, f0, f1, f2, f3, l, ds⟩ As q Ds m → Calls Try.prog 9 #[.agg #[.int .i64 seq, .int .i64 ack, .int .i64 win, .bool f0, .bool f1, .bool f2, .bool f3, .slice As q cs, .slice Ds m d2]] w' (RetE w' n zs)) := Lib.hid (fun w' h => by
    have := encode_ok ⟨seq, ack, win, f0, f1, f2, f3, l, ds⟩ As q cs Ds m d2 n w' h HFZ.out hN
    rw [HBD.out] at this
    exact this)
  go_wp2_with (first
    | (go_at_call 16; (with_reducible refine (HSM.out Ad cd D d V4 HS6.out).mono ?_); rintro e w5 ⟨rfl, hb5⟩; have HB5 := Lib.hid (bthen HBV4.out hb5); have hv5 := box9_below HVT5.out hb5; obtain ⟨l5', j0, j1, j2, j3, j4, j5, j6, j7, j8, -⟩ := hv5.cells; have HO5 := Lib.hid (HOV4.out.below hb5); clear hb5 hv5)
    | (go_at_call 9; refine (HEN.out _ HO5.out).mono ?_; rintro e w6 ⟨A6, c6, rfl, ho6, hb6⟩; have HO6 := Lib.hid ho6; have HB6 := Lib.hid (bthen HB5.out hb6); clear ho6 hb6)
    | (go_at_call 18; refine (bytes_keep A6 n c6 A c zs _ HO6.out.bs (HB.out.below HB6.out) HO6.out.2.1 (by omega)).mono ?_; rintro e w7 ⟨rfl, hb7⟩; have HB7 := Lib.hid (bthen HB6.out hb7); clear hb7))
  go_ret
  exact ⟨rfl, HB7.out⟩

theorem walkSegFixed (A : Option Addr) (n c : Nat) (zs : List Int) (w : World) (hb : Bs w A zs) (hn : zs.length = n) (hc : n ≤ c) (hr : c ≤ 140737488351232) :
    Calls Try.prog 7 #[.slice A n c] w fun e w' => e = .returned (.bool true) ∧ Below w.heap.size w w' := by
  rcases codeD_which zs with h | h
  · exact fixed_good A n c zs w hb hn hc hr h
  · exact fixed_bad A n c zs _ w hb hn hc hr rfl h

end Go.Proofs.Ytgmpablmkpamaaa
