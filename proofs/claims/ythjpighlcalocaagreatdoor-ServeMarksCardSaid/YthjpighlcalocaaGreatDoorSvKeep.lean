/-
  packthreadkeep.RequestOf: a request by numbers, for who serves.
  packthreadkeep.Requests: requests by numbers.
  packthreadkeep.served: what requests are replied; a file of one byte is read back.
-/
import Derived.Test.YthjpighlcalocaaGreatDoorSvDo
import Derived.Test.YthjpighlcalocaaGreatDoorPathBy
import Derived.Test.YthjpighlcalocaaGreatDoorBox9
import Derived.Test.YthjpighlcalocaaGreatDoorOct2
import Derived.Test.YthjpighlcalocaaGreatDoorSameKeep
namespace Go.Proofs.YthjpighlcalocaaGreatDoor
open Go.RowKit
set_option linter.unusedVariables false
set_option linter.unusedSimpArgs false

def Oct (l : List Int) : Prop := ∀ z ∈ l, 0 ≤ z ∧ z ≤ 255
/-- a request's fields -/
structure Rqs where
  (kd mrk : Int) (p q : Byt) (how han a c : Int) (D : Option Addr) (m d : Nat) (zs : List Int)
/-- a request as they are made -/
def Fine (bb : Nat) (x : Rqs) (w : World) : Prop := (Ls byS w x.D x.zs ∧ x.zs.length = x.m) ∧ Oct x.zs ∧ x.m ≤ 100 ∧ (0 ≤ x.mrk ∧ x.mrk < 4294967296) ∧ Lo x.p ∧ Lo x.q ∧ 1 ≤ x.kd ∧ x.kd ≤ 10 ∧ Clear (fun k => k < bb) x.D
theorem clear_low {w : World} {base low : Nat} {A : Option Addr} {n c : Nat} {l : List Int} {e : TypeId} (h : OwnL byS e w base A n c l) (hl : low ≤ base) : Clear (fun k => k < low) A := fun a ha hk => by
    have h1 := (h.lt a.block (by rw [ha]; rfl)).1
    have hk : a.block < low := hk
    omega
theorem oct_nil : Oct [] := fun z h => by cases h
theorem fine_1 {bb : Nat} {m : Int} {p : Byt} {how : Int} {w : World} (h0 : 0 ≤ m) (h1 : m < 4294967296) (h2 : Lo p) (h3 : 0 ≤ how) (h4 : how < 32) : Fine bb ⟨1, m, p, [], how, 0, 0, 0, none, 0, 0, []⟩ w :=
  ⟨⟨Ls.nil _ _, rfl⟩, oct_nil, by simp, ⟨h0, h1⟩, h2, lo_nil, by simp, by simp, Clear.none _⟩
theorem fine_2 {bb : Nat} {m : Int} {n : Int} {w : World} (h0 : 0 ≤ m) (h1 : m < 4294967296) (h3 : 0 ≤ n) (h4 : n < 30) : Fine bb ⟨2, m, [], [], 0, n, 0, 0, none, 0, 0, []⟩ w :=
  ⟨⟨Ls.nil _ _, rfl⟩, oct_nil, by simp, ⟨h0, h1⟩, lo_nil, lo_nil, by simp, by simp, Clear.none _⟩
theorem fine_3 {bb : Nat} {m n a c : Int} {w : World} (h0 : 0 ≤ m) (h1 : m < 4294967296) (h3 : 0 ≤ n) (h4 : n < 30) (h5 : 0 ≤ a) (h6 : a < 300) (h7 : 0 ≤ c) (h8 : c < 102) : Fine bb ⟨3, m, [], [], 0, n, a, c, none, 0, 0, []⟩ w :=
  ⟨⟨Ls.nil _ _, rfl⟩, oct_nil, by simp, ⟨h0, h1⟩, lo_nil, lo_nil, by simp, by simp, Clear.none _⟩
theorem fine_4 {bb : Nat} {m n a : Int} {D : Option Addr} {k d : Nat} {zs : List Int} {w : World} (h0 : 0 ≤ m) (h1 : m < 4294967296) (h3 : 0 ≤ n) (h4 : n < 30) (h5 : 0 ≤ a) (h6 : a < 300) (h7 : Ls byS w D zs) (h8 : zs.length = k) (h9 : k ≤ 100) (h10 : Oct zs) (h11 : Clear (fun k => k < bb) D) : Fine bb ⟨4, m, [], [], 0, n, a, 0, D, k, d, zs⟩ w :=
  ⟨⟨h7, h8⟩, h10, h9, ⟨h0, h1⟩, lo_nil, lo_nil, by simp, by simp, h11⟩
theorem fine_p {bb : Nat} {kd m : Int} {p : Byt} {w : World} (hk : kd = 5 ∨ kd = 6 ∨ kd = 7 ∨ kd = 8) (h0 : 0 ≤ m) (h1 : m < 4294967296) (h2 : Lo p) : Fine bb ⟨kd, m, p, [], 0, 0, 0, 0, none, 0, 0, []⟩ w :=
  ⟨⟨Ls.nil _ _, rfl⟩, oct_nil, by simp, ⟨h0, h1⟩, h2, lo_nil, by simp only; omega, by simp only; omega, Clear.none _⟩
theorem fine_pt {bb : Nat} {kd m : Int} {p q : Byt} {w : World} (hk : kd = 9 ∨ kd = 10) (h0 : 0 ≤ m) (h1 : m < 4294967296) (h2 : Lo p) (h3 : Lo q) : Fine bb ⟨kd, m, p, q, 0, 0, 0, 0, none, 0, 0, []⟩ w :=
  ⟨⟨Ls.nil _ _, rfl⟩, oct_nil, by simp, ⟨h0, h1⟩, h2, h3, by simp only; omega, by simp only; omega, Clear.none _⟩
theorem lo_joinP : ∀ (l : List Byt), (∀ x ∈ l, Lo x) → Lo (joinP l)
  | [], _ => lo_nil
  | x :: r, h => fun b hb => by
    simp only [joinP] at hb
    rcases List.mem_cons.1 hb with rfl | hb
    · decide
    · rcases List.mem_append.1 hb with hb | hb
      · exact h x (by simp) b hb
      · exact lo_joinP r (fun y hy => h y (by simp [hy])) b hb
theorem getD_in (l : List Byt) (k : Nat) : l.getD k [] ∈ l ∨ l.getD k [] = [] := by
  rw [List.getD_eq_getElem?_getD]
  rcases h : l[k]? with _ | x
  · exact .inr rfl
  · exact .inl (List.mem_of_getElem? h)
theorem lo_pathBy (n : Int) : Lo (pathBy n) := by
  refine lo_joinP _ fun x hx => ?_
  obtain ⟨i, -, rfl⟩ := List.mem_map.1 hx
  unfold pbAt
  rcases getD_in letters ((n.tdiv (7 * ((i : Int) + 1))) % 4).toNat with h | h
  · have : ∀ x ∈ letters, ∀ b ∈ x, b < 122 := by decide
    exact this _ h
  · rw [h]; exact lo_nil
/-- bytes do not lie in a request's box -/
theorem ls_off9 {w : World} {D : Option Addr} {zs : List Int} {R : Nat} (h : Ls byS w D zs) (hx : Bx 46 w R #[.int .i64 0, .int .i64 0, .string ⟨#[]⟩, .string ⟨#[]⟩, .int .i64 0, .int .i64 0, .int .i64 0, .int .i64 0, .slice none 0 0]) : zs = [] ∨ Clear (· = R) D := by
  rcases zs with _ | ⟨x, r⟩
  · exact .inl rfl
  · obtain ⟨b, o, rfl, hlt, hcc⟩ := h.at 0 x rfl
    right
    intro a ha e
    injection ha with ha
    subst ha
    have h1 := hcc 0 (.int .u8 x) rfl
    simp only [byS, Nat.add_zero, Nat.mul_one, Nat.mul_zero] at h1
    have e : b = R := e
    subst e
    unfold Bx at hx
    simp only [World.cell?, hx] at h1
    rcases o with _ | _ | _ | _ | _ | _ | _ | _ | _ | o <;> simp at h1
theorem ls_put {S : Nat → Prop} {w w' : World} {D : Option Addr} {zs : List Int} (h : Ls byS w D zs) (hc : zs = [] ∨ Clear S D) (ho : Only S w w') : Ls byS w' D zs := by
  rcases hc with rfl | hc
  · exact Ls.nil _ _
  · exact h.only ho hc
theorem ls_offB {w : World} {D : Option Addr} {zs : List Int} {B : Nat} (h : Ls byS w D zs) (hB : w.heap.size ≤ B) : zs = [] ∨ Clear (fun k => k = B) D := by
  rcases zs with _ | ⟨x, r⟩
  · exact .inl rfl
  · obtain ⟨b, o, rfl, hlt, -⟩ := h.at 0 x rfl
    right
    intro a ha e
    injection ha with ha
    subst ha
    have e : b = B := e
    omega
theorem clear_own {w : World} {base : Nat} {A : Option Addr} {n c : Nat} {l : List Int} {e : TypeId} {B : Nat} (h : OwnL byS e w base A n c l) (hB : B < base) : Clear (fun k => k = B) A := fun a ha hb => by
  have h1 := (h.lt a.block (by rw [ha]; rfl)).1
  have hb : a.block = B := hb
  omega
theorem Fine.put {bb : Nat} {x : Rqs} {w w' : World} {R : Nat} (h : Fine bb x w) (hx : Bx 46 w R #[.int .i64 0, .int .i64 0, .string ⟨#[]⟩, .string ⟨#[]⟩, .int .i64 0, .int .i64 0, .int .i64 0, .int .i64 0, .slice none 0 0]) (ho : Only (fun k => k = R) w w') : Fine bb x w' :=
  ⟨⟨ls_put h.1.1 (ls_off9 h.1.1 hx) ho, h.1.2⟩, h.2⟩

set_option maxRecDepth 100000 in
set_option maxHeartbeats 16000000 in
theorem reqOf_any (kind mark a b : Int) (A : Option Addr) (n c : Nat) (zs : List Int) (w : World) (hk0 : -9223372036854775808 ≤ kind) (hk1 : kind ≤ 9223372036854775807) (hm0 : -9223372036854775808 ≤ mark) (hm1 : mark ≤ 9223372036854775807) (ha0 : -9223372036854775808 ≤ a) (ha1 : a ≤ 9223372036854775807) (hb0 : -9223372036854775808 ≤ b) (hb1 : b ≤ 9223372036854775807)
    (hs : Ls byS w A zs) (hn : zs.length = n) (hc : n ≤ c) (hr : c ≤ 140737488351232) (hoc : Oct zs) :
    Calls Tryz.prog 30 #[.int .i64 kind, .int .i64 mark, .int .i64 a, .int .i64 b, .slice A n c] w fun e w' => Below w.heap.size w w' ∧ ∃ x : Rqs, e = .returned (.agg #[.int .i64 x.kd, .int .i64 x.mrk, .string (tx x.p), .string (tx x.q), .int .i64 x.how, .int .i64 x.han, .int .i64 x.a, .int .i64 x.c, .slice x.D x.m x.d]) ∧ Fine w.heap.size x w' := by
  obtain ⟨k, HK, hk10⟩ := pick_nat kind 10 (by omega)
  obtain ⟨m, HM, hm32⟩ := pick_nat mark 4294967296 (by omega)
  obtain ⟨u32, HU, hu⟩ := pick_nat b 32 (by omega)
  obtain ⟨n30, HN30, hn30⟩ := pick_nat a 30 (by omega)
  obtain ⟨t300, HT3, ht3⟩ := pick_nat b 300 (by omega)
  obtain ⟨t102, HT1, ht1⟩ := pick_nat (b.tdiv 300) 102 (by omega)
  have hbd := tdiv_b b 300 (by omega) hb0 hb1 (by omega)
  have HPK := Lib.hid (fun wx => picked_n kind 10 k wx HK hk0 hk1 (by omega) (by omega))
  have HPM := Lib.hid (fun wx => picked_n mark 4294967296 m wx HM hm0 hm1 (by omega) (by omega))
  have HPU := Lib.hid (fun wx => picked_n b 32 u32 wx HU hb0 hb1 (by omega) (by omega))
  have HP30 := Lib.hid (fun wx => picked_n a 30 n30 wx HN30 ha0 ha1 (by omega) (by omega))
  have HP300 := Lib.hid (fun wx => picked_n b 300 t300 wx HT3 hb0 hb1 (by omega) (by omega))
  have HP102 := Lib.hid (fun wx => picked_n (b.tdiv 300) 102 t102 wx HT1 hbd.1 hbd.2 (by omega) (by omega))
  have HPA := Lib.hid (fun wx => pathBy_any a wx ha0 ha1)
  have HPB := Lib.hid (fun wx => pathBy_any b wx hb0 hb1)
  have HLA := Lib.hid (lo_pathBy a)
  have HLB := Lib.hid (lo_pathBy b)
  obtain ⟨pa, hpa⟩ : ∃ s, s = pathBy a := ⟨_, rfl⟩
  obtain ⟨pb, hpb⟩ : ∃ s, s = pathBy b := ⟨_, rfl⟩
  rw [← hpa] at HPA HLA
  rw [← hpb] at HPB HLB
  have HS := Lib.hid hs
  have HN := Lib.hid hn
  have HOC := Lib.hid hoc
  clear hpa hpb hs hn hoc
  go_enter Tryz.func30, Tryz.ntmps30
  go_upto_region 1 with fail
  obtain ⟨wR, hwR⟩ : ∃ wR, wR = w.alloc (.cells #[.int .i64 0, .int .i64 0, .string ⟨#[]⟩, .string ⟨#[]⟩, .int .i64 0, .int .i64 0, .int .i64 0, .int .i64 0, .slice none 0 0] 46) := ⟨_, rfl⟩
  obtain ⟨R, hR⟩ : ∃ R, R = w.heap.size := ⟨_, rfl⟩
  have HBR : Hid (Below w.heap.size w wR) := Lib.hid (by rw [hwR]; exact ba1 _ _)
  have HXR : Hid (Bx 46 wR R #[.int .i64 0, .int .i64 0, .string ⟨#[]⟩, .string ⟨#[]⟩, .int .i64 0, .int .i64 0, .int .i64 0, .int .i64 0, .slice none 0 0]) := Lib.hid (by rw [hwR, hR]; exact bx_new _ _ _)
  have HRV := Lib.hid hR
  have hRl := HXR.out.lt
  rw [← hwR, ← hR]
  clear hwR hR
  go_upto_region 2 with (first
    | (go_at_call 16; (with_reducible refine (HPK.out _).mono ?_); rintro e w1 ⟨rfl, rfl⟩)
    | (go_at_call 16; (with_reducible refine (HPM.out _).mono ?_); rintro e w1 ⟨rfl, rfl⟩))
  obtain ⟨wB, hwB⟩ : ∃ wB, wB = wR.alloc (.cells #[.int .i64 (1 + (k : Int)), .int .i64 m, .string ⟨#[]⟩, .string ⟨#[]⟩, .int .i64 0, .int .i64 0, .int .i64 0, .int .i64 0, .slice none 0 0] 46) := ⟨_, rfl⟩
  obtain ⟨B, hB⟩ : ∃ B, B = wR.heap.size := ⟨_, rfl⟩
  obtain ⟨kd, hkd⟩ : ∃ kd : Int, kd = 1 + (k : Int) := ⟨_, rfl⟩
  rw [← hkd] at hwB
  have HBB : Hid (Below w.heap.size w wB) := Lib.hid (bthen HBR.out (by rw [hwB]; exact ba1 _ _))
  have hx : Bx 46 wB B #[.int .i64 kd, .int .i64 m, .string ⟨#[]⟩, .string ⟨#[]⟩, .int .i64 0, .int .i64 0, .int .i64 0, .int .i64 0, .slice none 0 0] := by rw [hwB, hB]; exact bx_new _ _ _
  have HXR2 : Hid (Bx 46 wB R #[.int .i64 0, .int .i64 0, .string ⟨#[]⟩, .string ⟨#[]⟩, .int .i64 0, .int .i64 0, .int .i64 0, .int .i64 0, .slice none 0 0]) := Lib.hid (HXR.out.below (by rw [hwB]; exact ba1 _ _))
  have HBV : Hid (w.heap.size ≤ B) := Lib.hid (by rw [hB]; exact HBR.out.size)
  have hRB : ¬ R = B := by omega
  have hBR : ¬ B = R := by omega
  obtain ⟨lB, b0, b1, b2, b3, b4, b5, b6, b7, b8, fr⟩ := hx.cells9
  have z2 := fr 2; have z3 := fr 3; have z4 := fr 4; have z5 := fr 5; have z6 := fr 6; have z7 := fr 7; have z8 := fr 8
  have HX := Lib.hid hx
  have hkk : kd = 1 ∨ kd = 2 ∨ kd = 3 ∨ kd = 4 ∨ kd = 5 ∨ kd = 6 ∨ kd = 7 ∨ kd = 8 ∨ kd = 9 ∨ kd = 10 := by omega
  have HS2 := Lib.hid (HS.out.below HBB.out)
  rw [← hkd, ← hwB, ← hB]
  clear hwB hB hkd hk10 hx fr HK
  rcases hkk with rfl | rfl | rfl | rfl | rfl | rfl | rfl | rfl | rfl | rfl
  · go_upto_region 21 with (first | (go_at_call 48; (with_reducible refine (HPA.out _).mono ?_); clear lB b0 b1 b2 b3 b4 b5 b6 b7 b8 z2 z3 z4 z5 z6 z7 z8; rintro e w4 ⟨rfl, hb⟩; have HB4 := Lib.hid hb; have HX4 := Lib.hid (HX.out.below hb); obtain ⟨lB, b0, b1, b2, b3, b4, b5, b6, b7, b8, fr⟩ := HX4.out.cells9; have z2 := fr 2; have z3 := fr 3; have z4 := fr 4; have z5 := fr 5; have z6 := fr 6; have z7 := fr 7; have z8 := fr 8; clear fr; clear hb) | (go_at_call 16; (with_reducible refine (HPU.out _).mono ?_); rintro e w9 ⟨rfl, rfl⟩))
    have hxf : Bx 46 (((w4.setCell ⟨B, 2, none⟩ (.string (tx pa))).setCell ⟨B, 4, none⟩ (.int .i64 u32))) B #[.int .i64 1, .int .i64 m, .string (tx pa), .string ⟨#[]⟩, .int .i64 u32, .int .i64 0, .int .i64 0, .int .i64 0, .slice none 0 0] := ((HX4.out.set 2 (.string (tx pa))).set 4 (.int .i64 u32))
    have hbw : Below w.heap.size w (((w4.setCell ⟨B, 2, none⟩ (.string (tx pa))).setCell ⟨B, 4, none⟩ (.int .i64 u32))) := (((bthen HBB.out HB4.out).setCell HBV.out (.string (tx pa))).setCell HBV.out (.int .i64 u32))
    have hxr : Bx 46 (((w4.setCell ⟨B, 2, none⟩ (.string (tx pa))).setCell ⟨B, 4, none⟩ (.int .i64 u32))) R #[.int .i64 0, .int .i64 0, .string ⟨#[]⟩, .string ⟨#[]⟩, .int .i64 0, .int .i64 0, .int .i64 0, .int .i64 0, .slice none 0 0] := (((HXR2.out.below HB4.out).other hRB (.string (tx pa))).other hRB (.int .i64 u32))
    have hfin := fine_1 (bb := w.heap.size) (w := ((w4.setCell ⟨B, 2, none⟩ (.string (tx pa))).setCell ⟨B, 4, none⟩ (.int .i64 u32))) (m := m) (p := pa) (how := u32) (by omega) hm32 HLA.out (by omega) hu
    obtain ⟨wc, hwc⟩ : ∃ wc, wc = ((w4.setCell ⟨B, 2, none⟩ (.string (tx pa))).setCell ⟨B, 4, none⟩ (.int .i64 u32)) := ⟨_, rfl⟩
    rw [← hwc] at hxf hbw hxr hfin ⊢
    have HHX := Lib.hid hxf; have HHB := Lib.hid hbw; have HHR := Lib.hid hxr; have HHF := Lib.hid hfin
    clear hwc hxf hbw hxr hfin
    obtain ⟨lB, b0, b1, b2, b3, b4, b5, b6, b7, b8, -⟩ := HHX.out.cells9
    obtain ⟨lR, r0, r1, r2, r3, r4, r5, r6, r7, r8, fr⟩ := HHR.out.cells9
    have y0 := fr 0; have y1 := fr 1; have y2 := fr 2; have y3 := fr 3; have y4 := fr 4; have y5 := fr 5; have y6 := fr 6; have y7 := fr 7; have y8 := fr 8
    clear fr
    go_wp2_with fail
    obtain ⟨wf, hwf⟩ : ∃ wf, wf = put9 wc R (.int .i64 1) (.int .i64 m) (.string (tx pa)) (.string ⟨#[]⟩) (.int .i64 u32) (.int .i64 0) (.int .i64 0) (.int .i64 0) (.slice none 0 0) := ⟨_, rfl⟩
    have hf := HHR.out.put9 (.int .i64 1) (.int .i64 m) (.string (tx pa)) (.string ⟨#[]⟩) (.int .i64 u32) (.int .i64 0) (.int .i64 0) (.int .i64 0) (.slice none 0 0)
    have hon : Only (fun k => k = R) wc wf := by rw [hwf]; exact only_put9 wc R (.int .i64 1) (.int .i64 m) (.string (tx pa)) (.string ⟨#[]⟩) (.int .i64 u32) (.int .i64 0) (.int .i64 0) (.int .i64 0) (.slice none 0 0)
    have hbf : Below w.heap.size w wf := by rw [hwf]; exact below_put9 HHB.out (by have := HRV.out; omega) _ _ _ _ _ _ _ _ _
    rw [← hwf] at hf
    obtain ⟨-, q0, q1, q2, q3, q4, q5, q6, q7, q8, -⟩ := hf.cells9
    unfold put9 at hwf
    rw [← hwf]
    refine end_ret (v := .agg #[.int .i64 1, .int .i64 m, .string (tx pa), .string ⟨#[]⟩, .int .i64 u32, .int .i64 0, .int .i64 0, .int .i64 0, .slice none 0 0]) (by simp [results, Tryz.results30, go_sem, q0, q1, q2, q3, q4, q5, q6, q7, q8]) ?_
    exact ⟨hbf, _, rfl, HHF.out.put HHR.out hon⟩
  · go_upto_region 21 with (go_at_call 16; (with_reducible refine (HP30.out _).mono ?_); rintro e w9 ⟨rfl, rfl⟩)
    have hxf : Bx 46 ((wB.setCell ⟨B, 5, none⟩ (.int .i64 n30))) B #[.int .i64 2, .int .i64 m, .string ⟨#[]⟩, .string ⟨#[]⟩, .int .i64 0, .int .i64 n30, .int .i64 0, .int .i64 0, .slice none 0 0] := (HX.out.set 5 (.int .i64 n30))
    have hbw : Below w.heap.size w ((wB.setCell ⟨B, 5, none⟩ (.int .i64 n30))) := (HBB.out.setCell HBV.out (.int .i64 n30))
    have hxr : Bx 46 ((wB.setCell ⟨B, 5, none⟩ (.int .i64 n30))) R #[.int .i64 0, .int .i64 0, .string ⟨#[]⟩, .string ⟨#[]⟩, .int .i64 0, .int .i64 0, .int .i64 0, .int .i64 0, .slice none 0 0] := (HXR2.out.other hRB (.int .i64 n30))
    have hfin := fine_2 (bb := w.heap.size) (w := (wB.setCell ⟨B, 5, none⟩ (.int .i64 n30))) (m := m) (n := n30) (by omega) hm32 (by omega) hn30
    obtain ⟨wc, hwc⟩ : ∃ wc, wc = (wB.setCell ⟨B, 5, none⟩ (.int .i64 n30)) := ⟨_, rfl⟩
    rw [← hwc] at hxf hbw hxr hfin ⊢
    have HHX := Lib.hid hxf; have HHB := Lib.hid hbw; have HHR := Lib.hid hxr; have HHF := Lib.hid hfin
    clear hwc hxf hbw hxr hfin
    obtain ⟨lB, b0, b1, b2, b3, b4, b5, b6, b7, b8, -⟩ := HHX.out.cells9
    obtain ⟨lR, r0, r1, r2, r3, r4, r5, r6, r7, r8, fr⟩ := HHR.out.cells9
    have y0 := fr 0; have y1 := fr 1; have y2 := fr 2; have y3 := fr 3; have y4 := fr 4; have y5 := fr 5; have y6 := fr 6; have y7 := fr 7; have y8 := fr 8
    clear fr
    go_wp2_with fail
    obtain ⟨wf, hwf⟩ : ∃ wf, wf = put9 wc R (.int .i64 2) (.int .i64 m) (.string ⟨#[]⟩) (.string ⟨#[]⟩) (.int .i64 0) (.int .i64 n30) (.int .i64 0) (.int .i64 0) (.slice none 0 0) := ⟨_, rfl⟩
    have hf := HHR.out.put9 (.int .i64 2) (.int .i64 m) (.string ⟨#[]⟩) (.string ⟨#[]⟩) (.int .i64 0) (.int .i64 n30) (.int .i64 0) (.int .i64 0) (.slice none 0 0)
    have hon : Only (fun k => k = R) wc wf := by rw [hwf]; exact only_put9 wc R (.int .i64 2) (.int .i64 m) (.string ⟨#[]⟩) (.string ⟨#[]⟩) (.int .i64 0) (.int .i64 n30) (.int .i64 0) (.int .i64 0) (.slice none 0 0)
    have hbf : Below w.heap.size w wf := by rw [hwf]; exact below_put9 HHB.out (by have := HRV.out; omega) _ _ _ _ _ _ _ _ _
    rw [← hwf] at hf
    obtain ⟨-, q0, q1, q2, q3, q4, q5, q6, q7, q8, -⟩ := hf.cells9
    unfold put9 at hwf
    rw [← hwf]
    refine end_ret (v := .agg #[.int .i64 2, .int .i64 m, .string ⟨#[]⟩, .string ⟨#[]⟩, .int .i64 0, .int .i64 n30, .int .i64 0, .int .i64 0, .slice none 0 0]) (by simp [results, Tryz.results30, go_sem, q0, q1, q2, q3, q4, q5, q6, q7, q8]) ?_
    exact ⟨hbf, _, rfl, HHF.out.put HHR.out hon⟩
  · go_upto_region 21 with (first | (go_at_call 16; (with_reducible refine (HP30.out _).mono ?_); rintro e w9 ⟨rfl, rfl⟩) | (go_at_call 16; (with_reducible refine (HP300.out _).mono ?_); rintro e w9 ⟨rfl, rfl⟩) | (go_at_call 16; (with_reducible refine (HP102.out _).mono ?_); rintro e w9 ⟨rfl, rfl⟩))
    have hxf : Bx 46 ((((wB.setCell ⟨B, 5, none⟩ (.int .i64 n30)).setCell ⟨B, 6, none⟩ (.int .i64 t300)).setCell ⟨B, 7, none⟩ (.int .i64 t102))) B #[.int .i64 3, .int .i64 m, .string ⟨#[]⟩, .string ⟨#[]⟩, .int .i64 0, .int .i64 n30, .int .i64 t300, .int .i64 t102, .slice none 0 0] := (((HX.out.set 5 (.int .i64 n30)).set 6 (.int .i64 t300)).set 7 (.int .i64 t102))
    have hbw : Below w.heap.size w ((((wB.setCell ⟨B, 5, none⟩ (.int .i64 n30)).setCell ⟨B, 6, none⟩ (.int .i64 t300)).setCell ⟨B, 7, none⟩ (.int .i64 t102))) := (((HBB.out.setCell HBV.out (.int .i64 n30)).setCell HBV.out (.int .i64 t300)).setCell HBV.out (.int .i64 t102))
    have hxr : Bx 46 ((((wB.setCell ⟨B, 5, none⟩ (.int .i64 n30)).setCell ⟨B, 6, none⟩ (.int .i64 t300)).setCell ⟨B, 7, none⟩ (.int .i64 t102))) R #[.int .i64 0, .int .i64 0, .string ⟨#[]⟩, .string ⟨#[]⟩, .int .i64 0, .int .i64 0, .int .i64 0, .int .i64 0, .slice none 0 0] := (((HXR2.out.other hRB (.int .i64 n30)).other hRB (.int .i64 t300)).other hRB (.int .i64 t102))
    have hfin := fine_3 (bb := w.heap.size) (w := (((wB.setCell ⟨B, 5, none⟩ (.int .i64 n30)).setCell ⟨B, 6, none⟩ (.int .i64 t300)).setCell ⟨B, 7, none⟩ (.int .i64 t102))) (m := m) (n := n30) (a := t300) (c := t102) (by omega) hm32 (by omega) hn30 (by omega) ht3 (by omega) ht1
    obtain ⟨wc, hwc⟩ : ∃ wc, wc = (((wB.setCell ⟨B, 5, none⟩ (.int .i64 n30)).setCell ⟨B, 6, none⟩ (.int .i64 t300)).setCell ⟨B, 7, none⟩ (.int .i64 t102)) := ⟨_, rfl⟩
    rw [← hwc] at hxf hbw hxr hfin ⊢
    have HHX := Lib.hid hxf; have HHB := Lib.hid hbw; have HHR := Lib.hid hxr; have HHF := Lib.hid hfin
    clear hwc hxf hbw hxr hfin
    obtain ⟨lB, b0, b1, b2, b3, b4, b5, b6, b7, b8, -⟩ := HHX.out.cells9
    obtain ⟨lR, r0, r1, r2, r3, r4, r5, r6, r7, r8, fr⟩ := HHR.out.cells9
    have y0 := fr 0; have y1 := fr 1; have y2 := fr 2; have y3 := fr 3; have y4 := fr 4; have y5 := fr 5; have y6 := fr 6; have y7 := fr 7; have y8 := fr 8
    clear fr
    go_wp2_with fail
    obtain ⟨wf, hwf⟩ : ∃ wf, wf = put9 wc R (.int .i64 3) (.int .i64 m) (.string ⟨#[]⟩) (.string ⟨#[]⟩) (.int .i64 0) (.int .i64 n30) (.int .i64 t300) (.int .i64 t102) (.slice none 0 0) := ⟨_, rfl⟩
    have hf := HHR.out.put9 (.int .i64 3) (.int .i64 m) (.string ⟨#[]⟩) (.string ⟨#[]⟩) (.int .i64 0) (.int .i64 n30) (.int .i64 t300) (.int .i64 t102) (.slice none 0 0)
    have hon : Only (fun k => k = R) wc wf := by rw [hwf]; exact only_put9 wc R (.int .i64 3) (.int .i64 m) (.string ⟨#[]⟩) (.string ⟨#[]⟩) (.int .i64 0) (.int .i64 n30) (.int .i64 t300) (.int .i64 t102) (.slice none 0 0)
    have hbf : Below w.heap.size w wf := by rw [hwf]; exact below_put9 HHB.out (by have := HRV.out; omega) _ _ _ _ _ _ _ _ _
    rw [← hwf] at hf
    obtain ⟨-, q0, q1, q2, q3, q4, q5, q6, q7, q8, -⟩ := hf.cells9
    unfold put9 at hwf
    rw [← hwf]
    refine end_ret (v := .agg #[.int .i64 3, .int .i64 m, .string ⟨#[]⟩, .string ⟨#[]⟩, .int .i64 0, .int .i64 n30, .int .i64 t300, .int .i64 t102, .slice none 0 0]) (by simp [results, Tryz.results30, go_sem, q0, q1, q2, q3, q4, q5, q6, q7, q8]) ?_
    exact ⟨hbf, _, rfl, HHF.out.put HHR.out hon⟩
  · obtain ⟨mn, hmn⟩ : ∃ mn : Nat, mn = min n 100 := ⟨_, rfl⟩
    have hmn1 : mn ≤ 100 := by omega
    have HMN := Lib.hid hmn
    clear hmn
    have HSQ : Hid (Ls byS (((wB.setCell ⟨B, 5, none⟩ (.int .i64 n30)).setCell ⟨B, 6, none⟩ (.int .i64 t300))) A zs) := Lib.hid (by
        have hc0 := (HS.out.below HBB.out)
        exact ls_put hc0 (ls_offB HS.out HBV.out) (((Only.refl (fun k => k = B) wB).setCell (.inl rfl) _).setCell (.inl rfl) _))
    have HXQ : Hid (Bx 46 (((wB.setCell ⟨B, 5, none⟩ (.int .i64 n30)).setCell ⟨B, 6, none⟩ (.int .i64 t300))) B _) := Lib.hid ((HX.out.set 5 (.int .i64 n30)).set 6 (.int .i64 t300))
    have HOQ : Hid (∀ wq, wq = ((wB.setCell ⟨B, 5, none⟩ (.int .i64 n30)).setCell ⟨B, 6, none⟩ (.int .i64 t300)) → Calls Tryz.prog 18 #[.slice A n c, .int .i64 100] wq (RetY wq mn (zs.take mn))) := Lib.hid (fun wq (h : wq = ((wB.setCell ⟨B, 5, none⟩ (.int .i64 n30)).setCell ⟨B, 6, none⟩ (.int .i64 t300))) => octets_any A n c 100 mn zs wq (by rw [h]; exact HSQ.out) HN.out hc (by omega) (by omega) HMN.out)
    go_upto_region 21 with (first | (go_at_call 16; (with_reducible refine (HP30.out _).mono ?_); rintro e w9 ⟨rfl, rfl⟩) | (go_at_call 16; (with_reducible refine (HP300.out _).mono ?_); rintro e w9 ⟨rfl, rfl⟩) | (go_at_call 18; ((with_reducible refine (HOQ.out _ rfl).mono ?_); clear lB b0 b1 b2 b3 b4 b5 b6 b7 b8 z2 z3 z4 z5 z6 z7 z8; rintro e w4 ⟨A4, c4, rfl, ho4, hb⟩; have HO4 := Lib.hid ho4; have HB4 := Lib.hid hb; have HX4 := Lib.hid (HXQ.out.below hb); obtain ⟨lB, b0, b1, b2, b3, b4, b5, b6, b7, b8, fr⟩ := HX4.out.cells9; have z2 := fr 2; have z3 := fr 3; have z4 := fr 4; have z5 := fr 5; have z6 := fr 6; have z7 := fr 7; have z8 := fr 8; clear fr; clear hb ho4)))
    have hxf : Bx 46 ((w4.setCell ⟨B, 8, none⟩ (.slice A4 mn c4))) B #[.int .i64 4, .int .i64 m, .string ⟨#[]⟩, .string ⟨#[]⟩, .int .i64 0, .int .i64 n30, .int .i64 t300, .int .i64 0, .slice A4 mn c4] := (HX4.out.set 8 (.slice A4 mn c4))
    have hbw : Below w.heap.size w ((w4.setCell ⟨B, 8, none⟩ (.slice A4 mn c4))) := ((bthen ((HBB.out.setCell HBV.out (.int .i64 n30)).setCell HBV.out (.int .i64 t300)) HB4.out).setCell HBV.out (.slice A4 mn c4))
    have hxr : Bx 46 ((w4.setCell ⟨B, 8, none⟩ (.slice A4 mn c4))) R #[.int .i64 0, .int .i64 0, .string ⟨#[]⟩, .string ⟨#[]⟩, .int .i64 0, .int .i64 0, .int .i64 0, .int .i64 0, .slice none 0 0] := (((((HXR2.out.other hRB (.int .i64 n30)).other hRB (.int .i64 t300))).below HB4.out).other hRB (.slice A4 mn c4))
    have hfin := fine_4 (bb := w.heap.size) (w := (w4.setCell ⟨B, 8, none⟩ (.slice A4 mn c4))) (m := m) (n := n30) (a := t300) (D := A4) (k := mn) (d := c4) (zs := zs.take mn) (by omega) hm32 (by omega) hn30 (by omega) ht3 (ls_put HO4.out.ls (.inr (clear_own HO4.out (by show B < (((wB.setCell ⟨B, 5, none⟩ (.int .i64 n30)).setCell ⟨B, 6, none⟩ (.int .i64 t300))).heap.size; simp only [World.size_setCell]; exact HX.out.lt))) ((Only.refl (fun k => k = B) w4).setCell (.inl rfl) _)) (by rw [List.length_take, HN.out]; have := HMN.out; omega) hmn1 (fun z hz => HOC.out z (List.mem_of_mem_take hz)) (clear_low HO4.out (by simp only [World.size_setCell]; exact HBB.out.size))
    obtain ⟨wc, hwc⟩ : ∃ wc, wc = (w4.setCell ⟨B, 8, none⟩ (.slice A4 mn c4)) := ⟨_, rfl⟩
    rw [← hwc] at hxf hbw hxr hfin ⊢
    have HHX := Lib.hid hxf; have HHB := Lib.hid hbw; have HHR := Lib.hid hxr; have HHF := Lib.hid hfin
    clear hwc hxf hbw hxr hfin
    obtain ⟨lB, b0, b1, b2, b3, b4, b5, b6, b7, b8, -⟩ := HHX.out.cells9
    obtain ⟨lR, r0, r1, r2, r3, r4, r5, r6, r7, r8, fr⟩ := HHR.out.cells9
    have y0 := fr 0; have y1 := fr 1; have y2 := fr 2; have y3 := fr 3; have y4 := fr 4; have y5 := fr 5; have y6 := fr 6; have y7 := fr 7; have y8 := fr 8
    clear fr
    go_wp2_with fail
    obtain ⟨wf, hwf⟩ : ∃ wf, wf = put9 wc R (.int .i64 4) (.int .i64 m) (.string ⟨#[]⟩) (.string ⟨#[]⟩) (.int .i64 0) (.int .i64 n30) (.int .i64 t300) (.int .i64 0) (.slice A4 mn c4) := ⟨_, rfl⟩
    have hf := HHR.out.put9 (.int .i64 4) (.int .i64 m) (.string ⟨#[]⟩) (.string ⟨#[]⟩) (.int .i64 0) (.int .i64 n30) (.int .i64 t300) (.int .i64 0) (.slice A4 mn c4)
    have hon : Only (fun k => k = R) wc wf := by rw [hwf]; exact only_put9 wc R (.int .i64 4) (.int .i64 m) (.string ⟨#[]⟩) (.string ⟨#[]⟩) (.int .i64 0) (.int .i64 n30) (.int .i64 t300) (.int .i64 0) (.slice A4 mn c4)
    have hbf : Below w.heap.size w wf := by rw [hwf]; exact below_put9 HHB.out (by have := HRV.out; omega) _ _ _ _ _ _ _ _ _
    rw [← hwf] at hf
    obtain ⟨-, q0, q1, q2, q3, q4, q5, q6, q7, q8, -⟩ := hf.cells9
    unfold put9 at hwf
    rw [← hwf]
    refine end_ret (v := .agg #[.int .i64 4, .int .i64 m, .string ⟨#[]⟩, .string ⟨#[]⟩, .int .i64 0, .int .i64 n30, .int .i64 t300, .int .i64 0, .slice A4 mn c4]) (by simp [results, Tryz.results30, go_sem, q0, q1, q2, q3, q4, q5, q6, q7, q8]) ?_
    exact ⟨hbf, _, rfl, HHF.out.put HHR.out hon⟩
  · go_upto_region 21 with (go_at_call 48; (with_reducible refine (HPA.out _).mono ?_); clear lB b0 b1 b2 b3 b4 b5 b6 b7 b8 z2 z3 z4 z5 z6 z7 z8; rintro e w4 ⟨rfl, hb⟩; have HB4 := Lib.hid hb; have HX4 := Lib.hid (HX.out.below hb); obtain ⟨lB, b0, b1, b2, b3, b4, b5, b6, b7, b8, fr⟩ := HX4.out.cells9; have z2 := fr 2; have z3 := fr 3; have z4 := fr 4; have z5 := fr 5; have z6 := fr 6; have z7 := fr 7; have z8 := fr 8; clear fr; clear hb)
    have hxf : Bx 46 ((w4.setCell ⟨B, 2, none⟩ (.string (tx pa)))) B #[.int .i64 5, .int .i64 m, .string (tx pa), .string ⟨#[]⟩, .int .i64 0, .int .i64 0, .int .i64 0, .int .i64 0, .slice none 0 0] := (HX4.out.set 2 (.string (tx pa)))
    have hbw : Below w.heap.size w ((w4.setCell ⟨B, 2, none⟩ (.string (tx pa)))) := ((bthen HBB.out HB4.out).setCell HBV.out (.string (tx pa)))
    have hxr : Bx 46 ((w4.setCell ⟨B, 2, none⟩ (.string (tx pa)))) R #[.int .i64 0, .int .i64 0, .string ⟨#[]⟩, .string ⟨#[]⟩, .int .i64 0, .int .i64 0, .int .i64 0, .int .i64 0, .slice none 0 0] := ((HXR2.out.below HB4.out).other hRB (.string (tx pa)))
    have hfin := fine_p (bb := w.heap.size) (w := (w4.setCell ⟨B, 2, none⟩ (.string (tx pa)))) (kd := 5) (m := m) (p := pa) (by omega) (by omega) hm32 HLA.out
    obtain ⟨wc, hwc⟩ : ∃ wc, wc = (w4.setCell ⟨B, 2, none⟩ (.string (tx pa))) := ⟨_, rfl⟩
    rw [← hwc] at hxf hbw hxr hfin ⊢
    have HHX := Lib.hid hxf; have HHB := Lib.hid hbw; have HHR := Lib.hid hxr; have HHF := Lib.hid hfin
    clear hwc hxf hbw hxr hfin
    obtain ⟨lB, b0, b1, b2, b3, b4, b5, b6, b7, b8, -⟩ := HHX.out.cells9
    obtain ⟨lR, r0, r1, r2, r3, r4, r5, r6, r7, r8, fr⟩ := HHR.out.cells9
    have y0 := fr 0; have y1 := fr 1; have y2 := fr 2; have y3 := fr 3; have y4 := fr 4; have y5 := fr 5; have y6 := fr 6; have y7 := fr 7; have y8 := fr 8
    clear fr
    go_wp2_with fail
    obtain ⟨wf, hwf⟩ : ∃ wf, wf = put9 wc R (.int .i64 5) (.int .i64 m) (.string (tx pa)) (.string ⟨#[]⟩) (.int .i64 0) (.int .i64 0) (.int .i64 0) (.int .i64 0) (.slice none 0 0) := ⟨_, rfl⟩
    have hf := HHR.out.put9 (.int .i64 5) (.int .i64 m) (.string (tx pa)) (.string ⟨#[]⟩) (.int .i64 0) (.int .i64 0) (.int .i64 0) (.int .i64 0) (.slice none 0 0)
    have hon : Only (fun k => k = R) wc wf := by rw [hwf]; exact only_put9 wc R (.int .i64 5) (.int .i64 m) (.string (tx pa)) (.string ⟨#[]⟩) (.int .i64 0) (.int .i64 0) (.int .i64 0) (.int .i64 0) (.slice none 0 0)
    have hbf : Below w.heap.size w wf := by rw [hwf]; exact below_put9 HHB.out (by have := HRV.out; omega) _ _ _ _ _ _ _ _ _
    rw [← hwf] at hf
    obtain ⟨-, q0, q1, q2, q3, q4, q5, q6, q7, q8, -⟩ := hf.cells9
    unfold put9 at hwf
    rw [← hwf]
    refine end_ret (v := .agg #[.int .i64 5, .int .i64 m, .string (tx pa), .string ⟨#[]⟩, .int .i64 0, .int .i64 0, .int .i64 0, .int .i64 0, .slice none 0 0]) (by simp [results, Tryz.results30, go_sem, q0, q1, q2, q3, q4, q5, q6, q7, q8]) ?_
    exact ⟨hbf, _, rfl, HHF.out.put HHR.out hon⟩
  · go_upto_region 21 with (go_at_call 48; (with_reducible refine (HPA.out _).mono ?_); clear lB b0 b1 b2 b3 b4 b5 b6 b7 b8 z2 z3 z4 z5 z6 z7 z8; rintro e w4 ⟨rfl, hb⟩; have HB4 := Lib.hid hb; have HX4 := Lib.hid (HX.out.below hb); obtain ⟨lB, b0, b1, b2, b3, b4, b5, b6, b7, b8, fr⟩ := HX4.out.cells9; have z2 := fr 2; have z3 := fr 3; have z4 := fr 4; have z5 := fr 5; have z6 := fr 6; have z7 := fr 7; have z8 := fr 8; clear fr; clear hb)
    have hxf : Bx 46 ((w4.setCell ⟨B, 2, none⟩ (.string (tx pa)))) B #[.int .i64 6, .int .i64 m, .string (tx pa), .string ⟨#[]⟩, .int .i64 0, .int .i64 0, .int .i64 0, .int .i64 0, .slice none 0 0] := (HX4.out.set 2 (.string (tx pa)))
    have hbw : Below w.heap.size w ((w4.setCell ⟨B, 2, none⟩ (.string (tx pa)))) := ((bthen HBB.out HB4.out).setCell HBV.out (.string (tx pa)))
    have hxr : Bx 46 ((w4.setCell ⟨B, 2, none⟩ (.string (tx pa)))) R #[.int .i64 0, .int .i64 0, .string ⟨#[]⟩, .string ⟨#[]⟩, .int .i64 0, .int .i64 0, .int .i64 0, .int .i64 0, .slice none 0 0] := ((HXR2.out.below HB4.out).other hRB (.string (tx pa)))
    have hfin := fine_p (bb := w.heap.size) (w := (w4.setCell ⟨B, 2, none⟩ (.string (tx pa)))) (kd := 6) (m := m) (p := pa) (by omega) (by omega) hm32 HLA.out
    obtain ⟨wc, hwc⟩ : ∃ wc, wc = (w4.setCell ⟨B, 2, none⟩ (.string (tx pa))) := ⟨_, rfl⟩
    rw [← hwc] at hxf hbw hxr hfin ⊢
    have HHX := Lib.hid hxf; have HHB := Lib.hid hbw; have HHR := Lib.hid hxr; have HHF := Lib.hid hfin
    clear hwc hxf hbw hxr hfin
    obtain ⟨lB, b0, b1, b2, b3, b4, b5, b6, b7, b8, -⟩ := HHX.out.cells9
    obtain ⟨lR, r0, r1, r2, r3, r4, r5, r6, r7, r8, fr⟩ := HHR.out.cells9
    have y0 := fr 0; have y1 := fr 1; have y2 := fr 2; have y3 := fr 3; have y4 := fr 4; have y5 := fr 5; have y6 := fr 6; have y7 := fr 7; have y8 := fr 8
    clear fr
    go_wp2_with fail
    obtain ⟨wf, hwf⟩ : ∃ wf, wf = put9 wc R (.int .i64 6) (.int .i64 m) (.string (tx pa)) (.string ⟨#[]⟩) (.int .i64 0) (.int .i64 0) (.int .i64 0) (.int .i64 0) (.slice none 0 0) := ⟨_, rfl⟩
    have hf := HHR.out.put9 (.int .i64 6) (.int .i64 m) (.string (tx pa)) (.string ⟨#[]⟩) (.int .i64 0) (.int .i64 0) (.int .i64 0) (.int .i64 0) (.slice none 0 0)
    have hon : Only (fun k => k = R) wc wf := by rw [hwf]; exact only_put9 wc R (.int .i64 6) (.int .i64 m) (.string (tx pa)) (.string ⟨#[]⟩) (.int .i64 0) (.int .i64 0) (.int .i64 0) (.int .i64 0) (.slice none 0 0)
    have hbf : Below w.heap.size w wf := by rw [hwf]; exact below_put9 HHB.out (by have := HRV.out; omega) _ _ _ _ _ _ _ _ _
    rw [← hwf] at hf
    obtain ⟨-, q0, q1, q2, q3, q4, q5, q6, q7, q8, -⟩ := hf.cells9
    unfold put9 at hwf
    rw [← hwf]
    refine end_ret (v := .agg #[.int .i64 6, .int .i64 m, .string (tx pa), .string ⟨#[]⟩, .int .i64 0, .int .i64 0, .int .i64 0, .int .i64 0, .slice none 0 0]) (by simp [results, Tryz.results30, go_sem, q0, q1, q2, q3, q4, q5, q6, q7, q8]) ?_
    exact ⟨hbf, _, rfl, HHF.out.put HHR.out hon⟩
  · go_upto_region 21 with (go_at_call 48; (with_reducible refine (HPA.out _).mono ?_); clear lB b0 b1 b2 b3 b4 b5 b6 b7 b8 z2 z3 z4 z5 z6 z7 z8; rintro e w4 ⟨rfl, hb⟩; have HB4 := Lib.hid hb; have HX4 := Lib.hid (HX.out.below hb); obtain ⟨lB, b0, b1, b2, b3, b4, b5, b6, b7, b8, fr⟩ := HX4.out.cells9; have z2 := fr 2; have z3 := fr 3; have z4 := fr 4; have z5 := fr 5; have z6 := fr 6; have z7 := fr 7; have z8 := fr 8; clear fr; clear hb)
    have hxf : Bx 46 ((w4.setCell ⟨B, 2, none⟩ (.string (tx pa)))) B #[.int .i64 7, .int .i64 m, .string (tx pa), .string ⟨#[]⟩, .int .i64 0, .int .i64 0, .int .i64 0, .int .i64 0, .slice none 0 0] := (HX4.out.set 2 (.string (tx pa)))
    have hbw : Below w.heap.size w ((w4.setCell ⟨B, 2, none⟩ (.string (tx pa)))) := ((bthen HBB.out HB4.out).setCell HBV.out (.string (tx pa)))
    have hxr : Bx 46 ((w4.setCell ⟨B, 2, none⟩ (.string (tx pa)))) R #[.int .i64 0, .int .i64 0, .string ⟨#[]⟩, .string ⟨#[]⟩, .int .i64 0, .int .i64 0, .int .i64 0, .int .i64 0, .slice none 0 0] := ((HXR2.out.below HB4.out).other hRB (.string (tx pa)))
    have hfin := fine_p (bb := w.heap.size) (w := (w4.setCell ⟨B, 2, none⟩ (.string (tx pa)))) (kd := 7) (m := m) (p := pa) (by omega) (by omega) hm32 HLA.out
    obtain ⟨wc, hwc⟩ : ∃ wc, wc = (w4.setCell ⟨B, 2, none⟩ (.string (tx pa))) := ⟨_, rfl⟩
    rw [← hwc] at hxf hbw hxr hfin ⊢
    have HHX := Lib.hid hxf; have HHB := Lib.hid hbw; have HHR := Lib.hid hxr; have HHF := Lib.hid hfin
    clear hwc hxf hbw hxr hfin
    obtain ⟨lB, b0, b1, b2, b3, b4, b5, b6, b7, b8, -⟩ := HHX.out.cells9
    obtain ⟨lR, r0, r1, r2, r3, r4, r5, r6, r7, r8, fr⟩ := HHR.out.cells9
    have y0 := fr 0; have y1 := fr 1; have y2 := fr 2; have y3 := fr 3; have y4 := fr 4; have y5 := fr 5; have y6 := fr 6; have y7 := fr 7; have y8 := fr 8
    clear fr
    go_wp2_with fail
    obtain ⟨wf, hwf⟩ : ∃ wf, wf = put9 wc R (.int .i64 7) (.int .i64 m) (.string (tx pa)) (.string ⟨#[]⟩) (.int .i64 0) (.int .i64 0) (.int .i64 0) (.int .i64 0) (.slice none 0 0) := ⟨_, rfl⟩
    have hf := HHR.out.put9 (.int .i64 7) (.int .i64 m) (.string (tx pa)) (.string ⟨#[]⟩) (.int .i64 0) (.int .i64 0) (.int .i64 0) (.int .i64 0) (.slice none 0 0)
    have hon : Only (fun k => k = R) wc wf := by rw [hwf]; exact only_put9 wc R (.int .i64 7) (.int .i64 m) (.string (tx pa)) (.string ⟨#[]⟩) (.int .i64 0) (.int .i64 0) (.int .i64 0) (.int .i64 0) (.slice none 0 0)
    have hbf : Below w.heap.size w wf := by rw [hwf]; exact below_put9 HHB.out (by have := HRV.out; omega) _ _ _ _ _ _ _ _ _
    rw [← hwf] at hf
    obtain ⟨-, q0, q1, q2, q3, q4, q5, q6, q7, q8, -⟩ := hf.cells9
    unfold put9 at hwf
    rw [← hwf]
    refine end_ret (v := .agg #[.int .i64 7, .int .i64 m, .string (tx pa), .string ⟨#[]⟩, .int .i64 0, .int .i64 0, .int .i64 0, .int .i64 0, .slice none 0 0]) (by simp [results, Tryz.results30, go_sem, q0, q1, q2, q3, q4, q5, q6, q7, q8]) ?_
    exact ⟨hbf, _, rfl, HHF.out.put HHR.out hon⟩
  · go_upto_region 21 with (go_at_call 48; (with_reducible refine (HPA.out _).mono ?_); clear lB b0 b1 b2 b3 b4 b5 b6 b7 b8 z2 z3 z4 z5 z6 z7 z8; rintro e w4 ⟨rfl, hb⟩; have HB4 := Lib.hid hb; have HX4 := Lib.hid (HX.out.below hb); obtain ⟨lB, b0, b1, b2, b3, b4, b5, b6, b7, b8, fr⟩ := HX4.out.cells9; have z2 := fr 2; have z3 := fr 3; have z4 := fr 4; have z5 := fr 5; have z6 := fr 6; have z7 := fr 7; have z8 := fr 8; clear fr; clear hb)
    have hxf : Bx 46 ((w4.setCell ⟨B, 2, none⟩ (.string (tx pa)))) B #[.int .i64 8, .int .i64 m, .string (tx pa), .string ⟨#[]⟩, .int .i64 0, .int .i64 0, .int .i64 0, .int .i64 0, .slice none 0 0] := (HX4.out.set 2 (.string (tx pa)))
    have hbw : Below w.heap.size w ((w4.setCell ⟨B, 2, none⟩ (.string (tx pa)))) := ((bthen HBB.out HB4.out).setCell HBV.out (.string (tx pa)))
    have hxr : Bx 46 ((w4.setCell ⟨B, 2, none⟩ (.string (tx pa)))) R #[.int .i64 0, .int .i64 0, .string ⟨#[]⟩, .string ⟨#[]⟩, .int .i64 0, .int .i64 0, .int .i64 0, .int .i64 0, .slice none 0 0] := ((HXR2.out.below HB4.out).other hRB (.string (tx pa)))
    have hfin := fine_p (bb := w.heap.size) (w := (w4.setCell ⟨B, 2, none⟩ (.string (tx pa)))) (kd := 8) (m := m) (p := pa) (by omega) (by omega) hm32 HLA.out
    obtain ⟨wc, hwc⟩ : ∃ wc, wc = (w4.setCell ⟨B, 2, none⟩ (.string (tx pa))) := ⟨_, rfl⟩
    rw [← hwc] at hxf hbw hxr hfin ⊢
    have HHX := Lib.hid hxf; have HHB := Lib.hid hbw; have HHR := Lib.hid hxr; have HHF := Lib.hid hfin
    clear hwc hxf hbw hxr hfin
    obtain ⟨lB, b0, b1, b2, b3, b4, b5, b6, b7, b8, -⟩ := HHX.out.cells9
    obtain ⟨lR, r0, r1, r2, r3, r4, r5, r6, r7, r8, fr⟩ := HHR.out.cells9
    have y0 := fr 0; have y1 := fr 1; have y2 := fr 2; have y3 := fr 3; have y4 := fr 4; have y5 := fr 5; have y6 := fr 6; have y7 := fr 7; have y8 := fr 8
    clear fr
    go_wp2_with fail
    obtain ⟨wf, hwf⟩ : ∃ wf, wf = put9 wc R (.int .i64 8) (.int .i64 m) (.string (tx pa)) (.string ⟨#[]⟩) (.int .i64 0) (.int .i64 0) (.int .i64 0) (.int .i64 0) (.slice none 0 0) := ⟨_, rfl⟩
    have hf := HHR.out.put9 (.int .i64 8) (.int .i64 m) (.string (tx pa)) (.string ⟨#[]⟩) (.int .i64 0) (.int .i64 0) (.int .i64 0) (.int .i64 0) (.slice none 0 0)
    have hon : Only (fun k => k = R) wc wf := by rw [hwf]; exact only_put9 wc R (.int .i64 8) (.int .i64 m) (.string (tx pa)) (.string ⟨#[]⟩) (.int .i64 0) (.int .i64 0) (.int .i64 0) (.int .i64 0) (.slice none 0 0)
    have hbf : Below w.heap.size w wf := by rw [hwf]; exact below_put9 HHB.out (by have := HRV.out; omega) _ _ _ _ _ _ _ _ _
    rw [← hwf] at hf
    obtain ⟨-, q0, q1, q2, q3, q4, q5, q6, q7, q8, -⟩ := hf.cells9
    unfold put9 at hwf
    rw [← hwf]
    refine end_ret (v := .agg #[.int .i64 8, .int .i64 m, .string (tx pa), .string ⟨#[]⟩, .int .i64 0, .int .i64 0, .int .i64 0, .int .i64 0, .slice none 0 0]) (by simp [results, Tryz.results30, go_sem, q0, q1, q2, q3, q4, q5, q6, q7, q8]) ?_
    exact ⟨hbf, _, rfl, HHF.out.put HHR.out hon⟩
  · go_upto_region 20 with (go_at_call 48; (with_reducible refine (HPA.out _).mono ?_); clear lB b0 b1 b2 b3 b4 b5 b6 b7 b8 z2 z3 z4 z5 z6 z7 z8; rintro e w4 ⟨rfl, hb⟩; have HB4 := Lib.hid hb; have HX4 := Lib.hid (HX.out.below hb); obtain ⟨lB, b0, b1, b2, b3, b4, b5, b6, b7, b8, fr⟩ := HX4.out.cells9; have z2 := fr 2; have z3 := fr 3; have z4 := fr 4; have z5 := fr 5; have z6 := fr 6; have z7 := fr 7; have z8 := fr 8; clear fr; clear hb)
    have HX5 := Lib.hid (HX4.out.set 2 (.string (tx pa)))
    go_upto_region 21 with (go_at_call 48; (with_reducible refine (HPB.out _).mono ?_); clear lB b0 b1 b2 b3 b4 b5 b6 b7 b8 z2 z3 z4 z5 z6 z7 z8; rintro e w6 ⟨rfl, hb⟩; have HB6 := Lib.hid hb; have HX6 := Lib.hid (HX5.out.below hb); obtain ⟨lB, b0, b1, b2, b3, b4, b5, b6, b7, b8, fr⟩ := HX6.out.cells9; have z2 := fr 2; have z3 := fr 3; have z4 := fr 4; have z5 := fr 5; have z6 := fr 6; have z7 := fr 7; have z8 := fr 8; clear fr; clear hb)
    have hxf : Bx 46 ((w6.setCell ⟨B, 3, none⟩ (.string (tx pb)))) B #[.int .i64 9, .int .i64 m, .string (tx pa), .string (tx pb), .int .i64 0, .int .i64 0, .int .i64 0, .int .i64 0, .slice none 0 0] := (HX6.out.set 3 (.string (tx pb)))
    have hbw : Below w.heap.size w ((w6.setCell ⟨B, 3, none⟩ (.string (tx pb)))) := ((bthen ((bthen HBB.out HB4.out).setCell HBV.out (.string (tx pa))) HB6.out).setCell HBV.out (.string (tx pb)))
    have hxr : Bx 46 ((w6.setCell ⟨B, 3, none⟩ (.string (tx pb)))) R #[.int .i64 0, .int .i64 0, .string ⟨#[]⟩, .string ⟨#[]⟩, .int .i64 0, .int .i64 0, .int .i64 0, .int .i64 0, .slice none 0 0] := ((((HXR2.out.below HB4.out).other hRB (.string (tx pa))).below HB6.out).other hRB (.string (tx pb)))
    have hfin := fine_pt (bb := w.heap.size) (w := (w6.setCell ⟨B, 3, none⟩ (.string (tx pb)))) (kd := 9) (m := m) (p := pa) (q := pb) (by omega) (by omega) hm32 HLA.out HLB.out
    obtain ⟨wc, hwc⟩ : ∃ wc, wc = (w6.setCell ⟨B, 3, none⟩ (.string (tx pb))) := ⟨_, rfl⟩
    rw [← hwc] at hxf hbw hxr hfin ⊢
    have HHX := Lib.hid hxf; have HHB := Lib.hid hbw; have HHR := Lib.hid hxr; have HHF := Lib.hid hfin
    clear hwc hxf hbw hxr hfin
    obtain ⟨lB, b0, b1, b2, b3, b4, b5, b6, b7, b8, -⟩ := HHX.out.cells9
    obtain ⟨lR, r0, r1, r2, r3, r4, r5, r6, r7, r8, fr⟩ := HHR.out.cells9
    have y0 := fr 0; have y1 := fr 1; have y2 := fr 2; have y3 := fr 3; have y4 := fr 4; have y5 := fr 5; have y6 := fr 6; have y7 := fr 7; have y8 := fr 8
    clear fr
    go_wp2_with fail
    obtain ⟨wf, hwf⟩ : ∃ wf, wf = put9 wc R (.int .i64 9) (.int .i64 m) (.string (tx pa)) (.string (tx pb)) (.int .i64 0) (.int .i64 0) (.int .i64 0) (.int .i64 0) (.slice none 0 0) := ⟨_, rfl⟩
    have hf := HHR.out.put9 (.int .i64 9) (.int .i64 m) (.string (tx pa)) (.string (tx pb)) (.int .i64 0) (.int .i64 0) (.int .i64 0) (.int .i64 0) (.slice none 0 0)
    have hon : Only (fun k => k = R) wc wf := by rw [hwf]; exact only_put9 wc R (.int .i64 9) (.int .i64 m) (.string (tx pa)) (.string (tx pb)) (.int .i64 0) (.int .i64 0) (.int .i64 0) (.int .i64 0) (.slice none 0 0)
    have hbf : Below w.heap.size w wf := by rw [hwf]; exact below_put9 HHB.out (by have := HRV.out; omega) _ _ _ _ _ _ _ _ _
    rw [← hwf] at hf
    obtain ⟨-, q0, q1, q2, q3, q4, q5, q6, q7, q8, -⟩ := hf.cells9
    unfold put9 at hwf
    rw [← hwf]
    refine end_ret (v := .agg #[.int .i64 9, .int .i64 m, .string (tx pa), .string (tx pb), .int .i64 0, .int .i64 0, .int .i64 0, .int .i64 0, .slice none 0 0]) (by simp [results, Tryz.results30, go_sem, q0, q1, q2, q3, q4, q5, q6, q7, q8]) ?_
    exact ⟨hbf, _, rfl, HHF.out.put HHR.out hon⟩
  · go_upto_region 20 with (go_at_call 48; (with_reducible refine (HPA.out _).mono ?_); clear lB b0 b1 b2 b3 b4 b5 b6 b7 b8 z2 z3 z4 z5 z6 z7 z8; rintro e w4 ⟨rfl, hb⟩; have HB4 := Lib.hid hb; have HX4 := Lib.hid (HX.out.below hb); obtain ⟨lB, b0, b1, b2, b3, b4, b5, b6, b7, b8, fr⟩ := HX4.out.cells9; have z2 := fr 2; have z3 := fr 3; have z4 := fr 4; have z5 := fr 5; have z6 := fr 6; have z7 := fr 7; have z8 := fr 8; clear fr; clear hb)
    have HX5 := Lib.hid (HX4.out.set 2 (.string (tx pa)))
    go_upto_region 21 with (go_at_call 48; (with_reducible refine (HPB.out _).mono ?_); clear lB b0 b1 b2 b3 b4 b5 b6 b7 b8 z2 z3 z4 z5 z6 z7 z8; rintro e w6 ⟨rfl, hb⟩; have HB6 := Lib.hid hb; have HX6 := Lib.hid (HX5.out.below hb); obtain ⟨lB, b0, b1, b2, b3, b4, b5, b6, b7, b8, fr⟩ := HX6.out.cells9; have z2 := fr 2; have z3 := fr 3; have z4 := fr 4; have z5 := fr 5; have z6 := fr 6; have z7 := fr 7; have z8 := fr 8; clear fr; clear hb)
    have hxf : Bx 46 ((w6.setCell ⟨B, 3, none⟩ (.string (tx pb)))) B #[.int .i64 10, .int .i64 m, .string (tx pa), .string (tx pb), .int .i64 0, .int .i64 0, .int .i64 0, .int .i64 0, .slice none 0 0] := (HX6.out.set 3 (.string (tx pb)))
    have hbw : Below w.heap.size w ((w6.setCell ⟨B, 3, none⟩ (.string (tx pb)))) := ((bthen ((bthen HBB.out HB4.out).setCell HBV.out (.string (tx pa))) HB6.out).setCell HBV.out (.string (tx pb)))
    have hxr : Bx 46 ((w6.setCell ⟨B, 3, none⟩ (.string (tx pb)))) R #[.int .i64 0, .int .i64 0, .string ⟨#[]⟩, .string ⟨#[]⟩, .int .i64 0, .int .i64 0, .int .i64 0, .int .i64 0, .slice none 0 0] := ((((HXR2.out.below HB4.out).other hRB (.string (tx pa))).below HB6.out).other hRB (.string (tx pb)))
    have hfin := fine_pt (bb := w.heap.size) (w := (w6.setCell ⟨B, 3, none⟩ (.string (tx pb)))) (kd := 10) (m := m) (p := pa) (q := pb) (by omega) (by omega) hm32 HLA.out HLB.out
    obtain ⟨wc, hwc⟩ : ∃ wc, wc = (w6.setCell ⟨B, 3, none⟩ (.string (tx pb))) := ⟨_, rfl⟩
    rw [← hwc] at hxf hbw hxr hfin ⊢
    have HHX := Lib.hid hxf; have HHB := Lib.hid hbw; have HHR := Lib.hid hxr; have HHF := Lib.hid hfin
    clear hwc hxf hbw hxr hfin
    obtain ⟨lB, b0, b1, b2, b3, b4, b5, b6, b7, b8, -⟩ := HHX.out.cells9
    obtain ⟨lR, r0, r1, r2, r3, r4, r5, r6, r7, r8, fr⟩ := HHR.out.cells9
    have y0 := fr 0; have y1 := fr 1; have y2 := fr 2; have y3 := fr 3; have y4 := fr 4; have y5 := fr 5; have y6 := fr 6; have y7 := fr 7; have y8 := fr 8
    clear fr
    go_wp2_with fail
    obtain ⟨wf, hwf⟩ : ∃ wf, wf = put9 wc R (.int .i64 10) (.int .i64 m) (.string (tx pa)) (.string (tx pb)) (.int .i64 0) (.int .i64 0) (.int .i64 0) (.int .i64 0) (.slice none 0 0) := ⟨_, rfl⟩
    have hf := HHR.out.put9 (.int .i64 10) (.int .i64 m) (.string (tx pa)) (.string (tx pb)) (.int .i64 0) (.int .i64 0) (.int .i64 0) (.int .i64 0) (.slice none 0 0)
    have hon : Only (fun k => k = R) wc wf := by rw [hwf]; exact only_put9 wc R (.int .i64 10) (.int .i64 m) (.string (tx pa)) (.string (tx pb)) (.int .i64 0) (.int .i64 0) (.int .i64 0) (.int .i64 0) (.slice none 0 0)
    have hbf : Below w.heap.size w wf := by rw [hwf]; exact below_put9 HHB.out (by have := HRV.out; omega) _ _ _ _ _ _ _ _ _
    rw [← hwf] at hf
    obtain ⟨-, q0, q1, q2, q3, q4, q5, q6, q7, q8, -⟩ := hf.cells9
    unfold put9 at hwf
    rw [← hwf]
    refine end_ret (v := .agg #[.int .i64 10, .int .i64 m, .string (tx pa), .string (tx pb), .int .i64 0, .int .i64 0, .int .i64 0, .int .i64 0, .slice none 0 0]) (by simp [results, Tryz.results30, go_sem, q0, q1, q2, q3, q4, q5, q6, q7, q8]) ?_
    exact ⟨hbf, _, rfl, HHF.out.put HHR.out hon⟩

end Go.Proofs.YthjpighlcalocaaGreatDoor

namespace Go.Proofs.YthjpighlcalocaaGreatDoor
open Go.RowKit
set_option linter.unusedVariables false
set_option linter.unusedSimpArgs false

/-- what a request is made of, with the address of its bytes -/
structure Cv where
  (kind a b : Int) (D : Option Addr) (m d : Nat) (data : List Int)
def cvS : Shape Cv := { cells := fun x => [.int .i64 x.kind, .int .i64 x.a, .int .i64 x.b, .slice x.D x.m x.d], size := 4, len := fun _ => rfl, pos := by decide, one := by intro x u hu; simp at hu; rcases hu with rfl | rfl | rfl | rfl <;> rfl }
def i64in' (a : Int) : Prop := -9223372036854775808 ≤ a ∧ a ≤ 9223372036854775807
def CvIn (w : World) (l : List Cv) : Prop := ∀ x ∈ l, (Ls byS w x.D x.data ∧ x.data.length = x.m ∧ x.m ≤ x.d ∧ x.d ≤ 140737488351232) ∧ Oct x.data ∧ i64in' x.kind ∧ i64in' x.a ∧ i64in' x.b
/-- a request that was made; its bytes lie in none of S -/
def SqI1 (w : World) (S : Nat → Prop) (y : Sqv) : Prop := (Ls byS w y.D y.x.data ∧ y.x.data.length = y.m ∧ (y.x.data = [] ∨ Clear (fun k => S k ∨ w.heap.size ≤ k) y.D)) ∧ Oct y.x.data ∧ y.m ≤ 100 ∧ (0 ≤ y.x.mrk ∧ y.x.mrk < 4294967296) ∧ Lo y.x.p ∧ Lo y.x.q ∧ 1 ≤ y.x.kd ∧ y.x.kd ≤ 10
def SqI (w : World) (S : Nat → Prop) (l : List Sqv) : Prop := ∀ y ∈ l, SqI1 w S y
theorem SqI1.only {w w' : World} {S S' T : Nat → Prop} {y : Sqv} (h : SqI1 w S y) (ho : Only S' w w') (hS : ∀ k, S' k → S k ∨ w.heap.size ≤ k) (hT : ∀ k, T k → S k ∨ w.heap.size ≤ k) : SqI1 w' T y := by
  obtain ⟨⟨h1, h2, h3⟩, h4⟩ := h
  refine ⟨⟨ls_put h1 (h3.imp_right (fun g => g.mono hS)) ho, h2, h3.imp_right (fun g => g.mono (fun k hk => ?_))⟩, h4⟩
  rcases hk with hk | hk
  · exact hT k hk
  · exact .inr (Nat.le_trans ho.size hk)
theorem SqI.only {w w' : World} {S S' T : Nat → Prop} {l : List Sqv} (h : SqI w S l) (ho : Only S' w w') (hS : ∀ k, S' k → S k ∨ w.heap.size ≤ k) (hT : ∀ k, T k → S k ∨ w.heap.size ≤ k) : SqI w' T l := fun y hy => (h y hy).only ho hS hT
theorem SqI.new {w w' : World} {S : Nat → Prop} {l : List Sqv} (h : SqI w S l) (hb : Below w.heap.size w w') : SqI w' S l := h.only (S' := fun _ => False) (only_new hb) (fun _ h => h.elim) (fun _ h => .inl h)
theorem SqI.app {w : World} {S : Nat → Prop} {l : List Sqv} {y : Sqv} (h : SqI w S l) (hy : SqI1 w S y) : SqI w S (l ++ [y]) := fun z hz => by
  rcases List.mem_append.1 hz with hz | hz
  · exact h z hz
  · simp at hz; subst hz; exact hy
theorem SqI.sqin {w : World} {S : Nat → Prop} {l : List Sqv} (h : SqI w S l) : SqIn w l := fun y hy => ⟨(h y hy).1.1, (h y hy).1.2.1, (h y hy).2.1⟩
/-- how far the requests are made -/
def RqX (w : World) (n m : Nat) (o i : Value) (wr : World) : Prop :=
  ∃ (k : Nat) (A : Option Addr) (c : Nat) (xs : List Sqv), k ≤ n ∧ k ≤ m ∧ i = .int .i64 k ∧ o = .slice A k c ∧ OwnL sqS 46 wr w.heap.size A k c xs ∧ SqI wr (fun j => (Value.slice A k c).ownBlock = some j) xs ∧ Below w.heap.size w wr
def RetRq (w : World) (m : Nat) (e : Ending) (w' : World) : Prop :=
  ∃ k A c xs, e = .returned (.slice A k c) ∧ k ≤ m ∧ OwnL sqS 46 w' w.heap.size A k c xs ∧ SqI w' (fun j => (Value.slice A k c).ownBlock = some j) xs ∧ Below w.heap.size w w'

set_option maxRecDepth 100000 in
set_option maxHeartbeats 8000000 in
theorem requests_any (L : Option Addr) (n c m : Nat) (l : List Cv) (w : World) (hb : Ls cvS w L l) (hl : l.length = n) (hin : CvIn w l) (hn : n ≤ 100000000000000) (hm : m ≤ 300) :
    Calls Tryz.prog 14 #[.slice L n c, .int .i64 m] w (RetRq w m) := by
  have HL := Lib.hid hb
  have HN := Lib.hid hl
  have HI := Lib.hid hin
  clear hb hl hin
  go_enter Tryz.func14, Tryz.ntmps14
  go_upto_region 3 with fail
  go_loopw [5, 6] (fun o i wr => RqX w n m o i wr) (fun _ i _ => n - (intOf i).toNat)
  case atStart => exact ⟨0, none, 0, [], Nat.zero_le _, Nat.zero_le _, rfl, rfl, OwnL.nil _ _, (fun y hy => by cases hy), Below.refl _ _⟩
  case round =>
    obtain ⟨k, A, c', xs, hk, hkm, rfl, rfl, hown, hsq, hbw⟩ := hrel
    have HOW := Lib.hid hown
    have HSQ := Lib.hid hsq
    have HBW := Lib.hid hbw
    clear hown hsq hbw
    by_cases hlt : k < n
    · by_cases hmt : k < m
      · obtain ⟨wo, rfl⟩ : ∃ wo, wo = wr := ⟨_, rfl⟩
        have hki : (k : Int) < (n : Int) := by omega
        have hkj : (k : Int) < (m : Int) := by omega
        obtain ⟨⟨kind, a, b, D, dm, dd, data⟩, hx⟩ : ∃ x, l[k]? = some x := ⟨_, List.getElem?_eq_getElem (by rw [HN.out]; exact hlt)⟩
        obtain ⟨bL, oL, rfl, hbl, hcc⟩ := (HL.out.below HBW.out).at k _ hx
        have g0 := hcc 0 (.int .i64 kind) rfl
        have g1 := hcc 1 (.int .i64 a) rfl
        have g2 := hcc 2 (.int .i64 b) rfl
        have g3 := hcc 3 (.slice D dm dd) rfl
        simp only [cvS, Nat.add_zero] at g0 g1 g2 g3
        obtain ⟨⟨i1, i2, i3, i4⟩, i5, i6, i7, i8⟩ := HI.out _ (List.mem_of_getElem? hx)
        simp only at i1 i2 i3 i4 i5 i6 i7 i8
        obtain ⟨qc, hqc⟩ : ∃ q, q = wo.heap.size := ⟨_, rfl⟩
        obtain ⟨w6, hw6⟩ : ∃ w6, w6 = wo.alloc (.cells #[.int .i64 kind, .int .i64 a, .int .i64 b, .slice D dm dd] 66) := ⟨_, rfl⟩
        have HB6 : Hid (Below wo.heap.size wo w6) := Lib.hid (by rw [hw6]; exact ba1 _ _)
        have HXC : Hid (Bx 66 w6 qc #[.int .i64 kind, .int .i64 a, .int .i64 b, .slice D dm dd]) := Lib.hid (by rw [hw6, hqc]; exact bx_new _ _ _)
        have HRQ := Lib.hid (reqOf_any kind ((k : Int) + 1) a b D dm dd data w6 i6.1 i6.2 (by omega) (by omega) i7.1 i7.2 i8.1 i8.2 ((i1.below HBW.out).below HB6.out) i2 i3 i4 i5)
        have HI7 := Lib.hid i7
        have hwk : IntKind.i64.wrap ((k : Int) + 1) = (k : Int) + 1 := by rw [IntKind.wrap_i64]; omega
        clear hcc hx i1 i2 i3 i4 i5 i6 i7 i8
        go_upto_region 6 with fail
        rw [← hw6, ← hqc]
        clear hw6 hqc g0 g1 g2 g3
        have p0 := HXC.out.cell 0 _ rfl
        have p1 := HXC.out.cell 1 _ rfl
        have p2 := HXC.out.cell 2 _ rfl
        have p3 := HXC.out.cell 3 _ rfl
        have pl := HXC.out.lt
        go_upto_region 7 with (go_at_call 30; (with_reducible refine HRQ.out.mono ?_); rintro e w7 ⟨hb7, ⟨kd, mrk, pp, qq, how, han, ra, rc, rD, rm, rd, rz⟩, rfl, hf7⟩; have HB7 := Lib.hid hb7; have HF7 := Lib.hid hf7; clear hb7 hf7)
        obtain ⟨q8, hq8⟩ : ∃ q, q = w7.heap.size := ⟨_, rfl⟩
        obtain ⟨w8, hw8⟩ : ∃ w8, w8 = w7.alloc (.cells #[.int .i64 kd, .int .i64 mrk, .string (tx pp), .string (tx qq), .int .i64 how, .int .i64 han, .int .i64 ra, .int .i64 rc, .slice rD rm rd] 46) := ⟨_, rfl⟩
        have HB8 : Hid (Below w7.heap.size w7 w8) := Lib.hid (by rw [hw8]; exact ba1 _ _)
        have HX8 : Hid (Bx 46 w8 q8 #[.int .i64 kd, .int .i64 mrk, .string (tx pp), .string (tx qq), .int .i64 how, .int .i64 han, .int .i64 ra, .int .i64 rc, .slice rD rm rd]) := Lib.hid (by rw [hw8, hq8]; exact bx_new _ _ _)
        have HQ8 : Hid (w7.heap.size ≤ q8) := Lib.hid (by rw [hq8]; exact Nat.le_refl _)
        have HXC8 := Lib.hid ((HXC.out.below HB7.out).below HB8.out)
        rw [← hw8, ← hq8]
        clear hw8 hq8 p0 p1 p2 p3 pl hwk
        -- what is appended, whatever was stored in the request's box
        have hend : ∀ (how' han' : Int) (w9 : World), Bx 46 w9 q8 #[.int .i64 kd, .int .i64 mrk, .string (tx pp), .string (tx qq), .int .i64 how', .int .i64 han', .int .i64 ra, .int .i64 rc, .slice rD rm rd] → Only (fun j => j = q8) w8 w9 →
            (SqI w9 (fun j => (Value.slice A k c').ownBlock = some j) (xs ++ [⟨⟨kd, mrk, pp, qq, how', han', ra, rc, rz⟩, rD, rm, rd⟩]) ∧ OwnL sqS 46 w9 w.heap.size A k c' xs ∧ Below w.heap.size w w9) := fun how' han' w9 h1 h2 => by
          obtain ⟨⟨f1, f2⟩, f3, f4, f5, f6, f7, f8, f9, f10⟩ := HF7.out
          simp only at f1 f2 f3 f4 f5 f6 f7 f8 f9 f10
          have z1 := HBW.out.size
          have z2 := HB6.out.size
          have z3 := HB7.out.size
          have z4 := HB8.out.size
          have z5 := HQ8.out
          have hrow := fun j (hj : (Value.slice A k c').ownBlock = some j) => HOW.out.lt j hj
          have hb8 : Below wo.heap.size wo w8 := bthen (bthen HB6.out HB7.out) HB8.out
          have o9 : Only (fun j => j = q8) wo w9 := (only_new hb8).trans h2 (fun j hj => .inl hj)
          refine ⟨SqI.app (HSQ.out.only o9 (fun j hj => .inr (by rw [hj]; omega)) (fun j hj => .inl hj)) ⟨⟨?_, f2, ?_⟩, f3, f4, f5, f6, f7, f8, f9⟩, (HOW.out.below hb8).only h2 (fun j hj e => by have := (hrow j hj).2; omega), (bthen HBW.out hb8).trans (h2.below (B := w.heap.size) (fun j hj => by omega) (by omega))⟩
          · exact ls_put (f1.below HB8.out) (ls_offB f1 HQ8.out) h2
          · rcases rz with _ | ⟨z, zt⟩
            · exact .inl rfl
            · refine .inr fun aD e hk => ?_
              have h9 := h2.size
              have hn := f10 aD e
              obtain ⟨bb, oo, e2, hlt2, -⟩ := f1.at 0 z rfl
              have e' : rD = some aD := e
              rw [e'] at e2
              injection e2 with e2
              subst e2
              rcases hk with hk | hk
              · have := (hrow _ hk).2; exact hn (by show bb < _; simp only at this; omega)
              · simp only at hk; omega
        have HEND := Lib.hid hend
        clear hend
        have r0 := HX8.out.cell 0 _ rfl
        have r4 := HX8.out.cell 4 _ rfl
        have r5 := HX8.out.cell 5 _ rfl
        have f4 := HX8.out.soft 4
        have f5 := HX8.out.soft 5
        have rl := HX8.out.lt
        have p1 := HXC8.out.cell 1 _ rfl
        have p2 := HXC8.out.cell 2 _ rfl
        have pl := HXC8.out.lt
        obtain ⟨t12, HT12, ht12⟩ := pick_nat a 12 (by omega)
        have HP12 := Lib.hid (fun wx => picked_n a 12 t12 wx HT12 HI7.out.1 HI7.out.2 (by omega) (by omega))
        obtain ⟨hk1, hk10⟩ : 1 ≤ kd ∧ kd ≤ 10 := HF7.out.2.2.2.2.2.2.imp id (fun g => g.1)
        have hkk : (kd = 1 ∧ b.tmod 2 = 0) ∨ (kd = 1 ∧ ¬ b.tmod 2 = 0) ∨ (2 ≤ kd ∧ kd ≤ 4) ∨ (5 ≤ kd) := by omega
        rcases hkk with ⟨rfl, hb2⟩ | ⟨rfl, hb2⟩ | ⟨h2, h4⟩ | h5
        -- leaves
        · go_upto_region 9 with fail
          obtain ⟨w9, hw9⟩ : ∃ w9, w9 = w8.setCell ⟨q8, 4, none⟩ (.int .i64 7) := ⟨_, rfl⟩
          have HX9 : Hid (Bx 46 w9 q8 #[.int .i64 1, .int .i64 mrk, .string (tx pp), .string (tx qq), .int .i64 7, .int .i64 han, .int .i64 ra, .int .i64 rc, .slice rD rm rd]) := Lib.hid (by rw [hw9]; exact HX8.out.set 4 _)
          have HO9 : Hid (Only (fun j => j = q8) w8 w9) := Lib.hid (by rw [hw9]; exact (Only.refl (fun j => j = q8) w8).setCell (.inl rfl) _)
          rw [← hw9]
          clear hw9
          have HEE := Lib.hid (HEND.out 7 han w9 HX9.out HO9.out)
          clear r0 r4 r5 f4 f5 rl p1 p2 pl
          obtain ⟨rl, r0, r1, r2, r3, r4, r5, r6, r7, r8, -⟩ := HX9.out.cells9
          go_wp2_with (at_builtin; refine wpList_appL (F := sqS) rfl _ (.tmp 57) (.tmp 59) 33 rfl _ 104 Tryz.underlying33 sqInfo rfl w.heap.size A k c' xs rfl (HEE.out.2.1.below (ba1 _ _)) (some ⟨w9.heap.size, 0, none⟩) 1 1 [⟨⟨1, mrk, pp, qq, 7, han, ra, rc, rz⟩, rD, rm, rd⟩] rfl (ls_new w9 _ _ _ rfl _ rfl) rfl (k + 1) rfl (by omega) (by omega) (by have := HEE.out.2.2.size; simp; omega) ?_; intro A10 c10 w10 ho8 hb8 hs8; have O10 := Lib.hid ho8; have B10 := Lib.hid hb8; have S10 := Lib.hid hs8; clear ho8 hb8 hs8)
          refine ⟨⟨k + 1, A10, c10, _, by omega, by omega, by go_num, rfl, O10.out, ?_, ?_⟩, by simp [intOf]; omega⟩
          · refine HEE.out.1.only ((only_new (ba1 w9 _)).trans (T := fun j => (Value.slice A k c').ownBlock = some j) (S := fun j => (Value.slice A k c').ownBlock = some j) (S10.out.only B10.out) (fun j hj => .inl hj)) (fun j hj => .inl hj) (fun j hj => ?_)
            rcases S10.out.own j hj with g | g
            · exact .inl g
            · exact .inr (by simp at g; omega)
          · have hz := HEE.out.2.2.size
            exact (HEE.out.2.2.trans ((ba1 w9 _).mono hz)).trans (B10.out.mono (by omega))
        · go_upto_region 11 with fail
          have HX9 := HX8
          have HO9 : Hid (Only (fun j => j = q8) w8 w8) := Lib.hid (Only.refl _ _)
          have hqq := HX8.out
          have HEE := Lib.hid (HEND.out how han w8 HX9.out HO9.out)
          clear r0 r4 r5 f4 f5 rl p1 p2 pl
          obtain ⟨rl, r0, r1, r2, r3, r4, r5, r6, r7, r8, -⟩ := HX9.out.cells9
          go_wp2_with (at_builtin; refine wpList_appL (F := sqS) rfl _ (.tmp 57) (.tmp 59) 33 rfl _ 104 Tryz.underlying33 sqInfo rfl w.heap.size A k c' xs rfl (HEE.out.2.1.below (ba1 _ _)) (some ⟨w8.heap.size, 0, none⟩) 1 1 [⟨⟨1, mrk, pp, qq, how, han, ra, rc, rz⟩, rD, rm, rd⟩] rfl (ls_new w8 _ _ _ rfl _ rfl) rfl (k + 1) rfl (by omega) (by omega) (by have := HEE.out.2.2.size; simp; omega) ?_; intro A10 c10 w10 ho8 hb8 hs8; have O10 := Lib.hid ho8; have B10 := Lib.hid hb8; have S10 := Lib.hid hs8; clear ho8 hb8 hs8)
          refine ⟨⟨k + 1, A10, c10, _, by omega, by omega, by go_num, rfl, O10.out, ?_, ?_⟩, by simp [intOf]; omega⟩
          · refine HEE.out.1.only ((only_new (ba1 w8 _)).trans (T := fun j => (Value.slice A k c').ownBlock = some j) (S := fun j => (Value.slice A k c').ownBlock = some j) (S10.out.only B10.out) (fun j hj => .inl hj)) (fun j hj => .inl hj) (fun j hj => ?_)
            rcases S10.out.own j hj with g | g
            · exact .inl g
            · exact .inr (by simp at g; omega)
          · have hz := HEE.out.2.2.size
            exact (HEE.out.2.2.trans ((ba1 w8 _).mono hz)).trans (B10.out.mono (by omega))
        · have y1 : ¬ kd = 1 := by omega
          have z3 : (kd == 1) = false := by simpa using y1
          have z4 : decide (kd = 1) = false := by simpa using y1
          go_upto_region 11 with (go_at_call 16; (with_reducible refine (HP12.out _).mono ?_); rintro e w9 ⟨rfl, rfl⟩)
          obtain ⟨w9, hw9⟩ : ∃ w9, w9 = w8.setCell ⟨q8, 5, none⟩ (.int .i64 t12) := ⟨_, rfl⟩
          have HX9 : Hid (Bx 46 w9 q8 #[.int .i64 kd, .int .i64 mrk, .string (tx pp), .string (tx qq), .int .i64 how, .int .i64 t12, .int .i64 ra, .int .i64 rc, .slice rD rm rd]) := Lib.hid (by rw [hw9]; exact HX8.out.set 5 _)
          have HO9 : Hid (Only (fun j => j = q8) w8 w9) := Lib.hid (by rw [hw9]; exact (Only.refl (fun j => j = q8) w8).setCell (.inl rfl) _)
          rw [← hw9]
          clear hw9
          have HEE := Lib.hid (HEND.out how t12 w9 HX9.out HO9.out)
          clear r0 r4 r5 f4 f5 rl p1 p2 pl
          obtain ⟨rl, r0, r1, r2, r3, r4, r5, r6, r7, r8, -⟩ := HX9.out.cells9
          go_wp2_with (at_builtin; refine wpList_appL (F := sqS) rfl _ (.tmp 57) (.tmp 59) 33 rfl _ 104 Tryz.underlying33 sqInfo rfl w.heap.size A k c' xs rfl (HEE.out.2.1.below (ba1 _ _)) (some ⟨w9.heap.size, 0, none⟩) 1 1 [⟨⟨kd, mrk, pp, qq, how, t12, ra, rc, rz⟩, rD, rm, rd⟩] rfl (ls_new w9 _ _ _ rfl _ rfl) rfl (k + 1) rfl (by omega) (by omega) (by have := HEE.out.2.2.size; simp; omega) ?_; intro A10 c10 w10 ho8 hb8 hs8; have O10 := Lib.hid ho8; have B10 := Lib.hid hb8; have S10 := Lib.hid hs8; clear ho8 hb8 hs8)
          refine ⟨⟨k + 1, A10, c10, _, by omega, by omega, by go_num, rfl, O10.out, ?_, ?_⟩, by simp [intOf]; omega⟩
          · refine HEE.out.1.only ((only_new (ba1 w9 _)).trans (T := fun j => (Value.slice A k c').ownBlock = some j) (S := fun j => (Value.slice A k c').ownBlock = some j) (S10.out.only B10.out) (fun j hj => .inl hj)) (fun j hj => .inl hj) (fun j hj => ?_)
            rcases S10.out.own j hj with g | g
            · exact .inl g
            · exact .inr (by simp at g; omega)
          · have hz := HEE.out.2.2.size
            exact (HEE.out.2.2.trans ((ba1 w9 _).mono hz)).trans (B10.out.mono (by omega))
        · have y1 : ¬ kd = 1 := by omega
          have y4 : ¬ kd ≤ 4 := by omega
          have y2 : 2 ≤ kd := by omega
          have z3 : (kd == 1) = false := by simpa using y1
          have z4 : decide (kd = 1) = false := by simpa using y1
          go_upto_region 11 with fail
          have HX9 := HX8
          have HO9 : Hid (Only (fun j => j = q8) w8 w8) := Lib.hid (Only.refl _ _)
          have hqq := HX8.out
          have HEE := Lib.hid (HEND.out how han w8 HX9.out HO9.out)
          clear r0 r4 r5 f4 f5 rl p1 p2 pl
          obtain ⟨rl, r0, r1, r2, r3, r4, r5, r6, r7, r8, -⟩ := HX9.out.cells9
          go_wp2_with (at_builtin; refine wpList_appL (F := sqS) rfl _ (.tmp 57) (.tmp 59) 33 rfl _ 104 Tryz.underlying33 sqInfo rfl w.heap.size A k c' xs rfl (HEE.out.2.1.below (ba1 _ _)) (some ⟨w8.heap.size, 0, none⟩) 1 1 [⟨⟨kd, mrk, pp, qq, how, han, ra, rc, rz⟩, rD, rm, rd⟩] rfl (ls_new w8 _ _ _ rfl _ rfl) rfl (k + 1) rfl (by omega) (by omega) (by have := HEE.out.2.2.size; simp; omega) ?_; intro A10 c10 w10 ho8 hb8 hs8; have O10 := Lib.hid ho8; have B10 := Lib.hid hb8; have S10 := Lib.hid hs8; clear ho8 hb8 hs8)
          refine ⟨⟨k + 1, A10, c10, _, by omega, by omega, by go_num, rfl, O10.out, ?_, ?_⟩, by simp [intOf]; omega⟩
          · refine HEE.out.1.only ((only_new (ba1 w8 _)).trans (T := fun j => (Value.slice A k c').ownBlock = some j) (S := fun j => (Value.slice A k c').ownBlock = some j) (S10.out.only B10.out) (fun j hj => .inl hj)) (fun j hj => .inl hj) (fun j hj => ?_)
            rcases S10.out.own j hj with g | g
            · exact .inl g
            · exact .inr (by simp at g; omega)
          · have hz := HEE.out.2.2.size
            exact (HEE.out.2.2.trans ((ba1 w8 _).mono hz)).trans (B10.out.mono (by omega))
      · have hmk : ¬ (k : Int) < (m : Int) := by omega
        have hki : (k : Int) < (n : Int) := by omega
        go_wp2_with fail
        go_ret
        exact ⟨k, A, c', xs, rfl, hkm, HOW.out, HSQ.out, HBW.out⟩
    · have hki : ¬ (k : Int) < (n : Int) := by omega
      go_wp2_with fail
      go_ret
      exact ⟨k, A, c', xs, rfl, hkm, HOW.out, HSQ.out, HBW.out⟩

end Go.Proofs.YthjpighlcalocaaGreatDoor

namespace Go.Proofs.YthjpighlcalocaaGreatDoor
open Go.RowKit
set_option linter.unusedVariables false
set_option linter.unusedSimpArgs false

def one1 : Sq := ⟨1, 0, [47, 120], [], 7, 0, 0, 0, []⟩
def one2 : Sq := ⟨4, 0, [], [], 0, 0, 0, 0, [5]⟩
def one3 : Sq := ⟨3, 4, [], [], 0, 0, 0, 9, []⟩
theorem one_ok : (repS sd0 [one1, one2, one3]).map (fun r => (r.mrk, r.data)) = [(0, []), (0, []), (4, [5])] := by kernel_rfl
theorem one_third {l : List Rv} (h : l.map Rv.r = repS sd0 [one1, one2, one3]) : ∃ x : Rv, l[2]? = some x ∧ x.r.mrk = 4 ∧ x.r.data = [5] := by
  have h1 := one_ok
  rw [← h, List.map_map] at h1
  have h2 := congrArg (fun l => l[2]?) h1
  simp only [List.getElem?_map] at h2
  rcases hx : l[2]? with _ | x
  · rw [hx] at h2; simp at h2
  · rw [hx] at h2
    simp at h2
    exact ⟨x, rfl, h2.1, h2.2⟩
theorem TabAt.below {w w' : World} (h : TabAt w) (hb : Below w.heap.size w w') (hl : 0 < w.heap.size) : TabAt w' := h.only (S := fun _ => False) (only_new hb) (fun h => h) hl
/-- what served answers -/
def RetSd (w : World) (ts : List Sr) (e : Ending) (w' : World) : Prop :=
  ∃ A c l, e = .returned (.tuple #[.slice A ts.length c, .bool true]) ∧ OwnL rvS 39 w' w.heap.size A ts.length c l ∧ l.map Rv.r = ts ∧ RvI w' (fun _ => False) l ∧ Below w.heap.size w w'
theorem RvI.new {w w' : World} {S : Nat → Prop} {l : List Rv} (h : RvI w S l) (hb : Below w.heap.size w w') : RvI w' S l := h.only (S' := fun _ => False) (only_new hb) (fun _ h => h.elim) (fun _ h => .inl h)

set_option maxRecDepth 100000 in
set_option maxHeartbeats 8000000 in
theorem served_any (L : Option Addr) (n c : Nat) (l : List Sqv) (w : World) (ht : TabAt w) (h0w : 0 < w.heap.size) (hn : n ≤ 300) (hb : Ls sqS w L l) (hl : l.length = n) (hin : SqIn w l) :
    Calls Tryz.prog 15 #[.slice L n c] w (RetSd w (repS sd0 (l.map Sqv.x))) := by
  have HL := Lib.hid hb
  have HN := Lib.hid hl
  have HI := Lib.hid hin
  have HT := Lib.hid ht
  obtain ⟨ts, hts⟩ : ∃ ts, ts = repS sd0 (l.map Sqv.x) := ⟨_, rfl⟩
  have HTL : Hid (ts.length = n) := Lib.hid (by rw [hts, repS_len, List.length_map, HN.out])
  have HPL : Hid (∀ (A : Option Addr) (c : Nat) wx, Below w.heap.size w wx → Ls sqS wx A l → Calls Tryz.prog 11 #[.slice A n c] wx (RetRp wx ts)) := Lib.hid (fun A c wx hw hx => by rw [hts]; exact svplay_ok A n c l wx (HT.out.below hw h0w) (Nat.lt_of_lt_of_le h0w hw.size) hn hx HN.out (HI.out.below hw))
  have HP3 : Hid (∀ (q b : Nat) wx, Below w.heap.size w wx → Ls byS wx (some ⟨b, 0, none⟩) [5] → Ls sqS wx (some ⟨q, 0, none⟩) [⟨one1, none, 0, 0⟩, ⟨one2, some ⟨b, 0, none⟩, 1, 1⟩, ⟨one3, none, 0, 0⟩] → Calls Tryz.prog 11 #[.slice (some ⟨q, 0, none⟩) 3 3] wx (RetRp wx (repS sd0 [one1, one2, one3]))) := Lib.hid (fun q b wx hw hb hx =>
    svplay_ok (some ⟨q, 0, none⟩) 3 3 [⟨one1, none, 0, 0⟩, ⟨one2, some ⟨b, 0, none⟩, 1, 1⟩, ⟨one3, none, 0, 0⟩] wx (HT.out.below hw h0w) (Nat.lt_of_lt_of_le h0w hw.size) (by omega) hx rfl (fun y hy => by
      simp at hy
      rcases hy with rfl | rfl | rfl
      · exact ⟨Ls.nil _ _, rfl, fun z hz => by cases hz⟩
      · refine ⟨hb, rfl, fun z hz => ?_⟩
        have : z = 5 := by simpa [one2] using hz
        omega
      · exact ⟨Ls.nil _ _, rfl, fun z hz => by cases hz⟩))
  rw [← hts]
  clear hb hl hin ht hts
  go_enter Tryz.func15, Tryz.ntmps15
  go_upto_region 2 with (first
    | (at_builtin; refine wpList_appL (F := sqS) rfl _ (.const (.slice none 0 0)) (.tmp 9) 33 rfl _ 104 Tryz.underlying33 sqInfo rfl w.heap.size none 0 0 [] rfl (OwnL.nil _ _) L n c l rfl HL.out HN.out n (by omega) (by omega) (by omega) (Nat.le_refl _) ?_; intro A1 c1 w1 ho1 hb1 _; rw [List.nil_append] at ho1; have HO1 := Lib.hid ho1; have HB1 := Lib.hid hb1; clear ho1 hb1)
    | (go_at_call 11; (with_reducible refine (HPL.out _ _ _ HB1.out HO1.out.ls).mono ?_); rintro e w2 ⟨A2, c2, l2, rfl, ho2, hm2, hi2, hb2⟩; have HO2 := Lib.hid ho2; have HM2 := Lib.hid hm2; have HI2 := Lib.hid hi2; have HB2 := Lib.hid hb2; clear ho2 hm2 hi2 hb2))
  rw [HTL.out] at HO2 ⊢
  have HB12 : Hid (Below w.heap.size w w2) := Lib.hid (bthen HB1.out HB2.out)
  go_upto_region 3 with (go_at_call 11; (refine (HP3.out (w2.heap.size + 1) w2.heap.size _ (bthen HB12.out (ba2 _ _ _)) ((ls_new w2 _ _ _ rfl _ rfl).below (ba1 _ _)) (ls_new (w2.alloc _) _ _ _ rfl _ (by simp))).mono ?_); rintro e w4 ⟨A4, c4, l4, rfl, ho4, hm4, hi4, hb4⟩; have HO4 := Lib.hid ho4; have HM4 := Lib.hid hm4; have HI4 := Lib.hid hi4; have HB4 : Hid (Below w2.heap.size w2 w4) := Lib.hid (bthen (ba2 _ _ _) hb4); clear ho4 hm4 hi4 hb4)
  have h3l : (repS sd0 [one1, one2, one3]).length = 3 := repS_len _ _
  rw [h3l] at HO4 ⊢
  obtain ⟨x, hx, hmk, hdt⟩ := one_third HM4.out
  obtain ⟨b4, o4, rfl, hl4, hc4⟩ := HO4.out.ls.at 2 x hx
  obtain ⟨⟨k1, k2, -⟩, -⟩ := HI4.out x (List.mem_of_getElem? hx)
  obtain ⟨⟨xm, xcode, xhan, xkd, xsz, xdata, xnames⟩, XA, xn, xc, XN, xnm, xnc⟩ := x
  simp only at hmk hdt k1 k2
  subst hmk; subst hdt
  obtain rfl : xn = 1 := k1.symm
  have v0 := hc4 0 (.int .i64 4) rfl
  have v5 := hc4 5 (.slice XA 1 xc) rfl
  simp only [rvS, Nat.add_zero] at v0 v5
  have HD := Lib.hid k2
  have HO2b := Lib.hid (HO2.out.below HB4.out)
  have HI2b := Lib.hid (HI2.out.new HB4.out)
  have HB14 : Hid (Below w.heap.size w w4) := Lib.hid (bthen HB12.out HB4.out)
  have HSB : Hid (Calls Tryz.prog 19 #[.slice XA 1 xc, .slice (some ⟨w4.heap.size, 0, none⟩) 1 1] (w4.alloc (.cells #[.int .u8 5] 5)) fun e w' => e = .returned (.bool true) ∧ Below (w4.alloc (.cells #[.int .u8 5] 5)).heap.size (w4.alloc (.cells #[.int .u8 5] 5)) w') := Lib.hid (same_keep XA 1 xc (some ⟨w4.heap.size, 0, none⟩) 1 [5] _ (HD.out.below (ba1 _ _)) (ls_new w4 _ _ _ rfl _ rfl) rfl (by omega))
  clear hc4 hx k2 h3l
  go_wp2_with (go_at_call 19; (with_reducible refine HSB.out.mono ?_); rintro e w5 ⟨rfl, hb5⟩; have HB5 : Hid (Below w4.heap.size w4 w5) := Lib.hid (bthen (ba1 _ _) hb5); clear hb5)
  go_ret2
  exact ⟨A2, c2, l2, by rw [HTL.out]; rfl, by rw [HTL.out]; exact (HO2b.out.below HB5.out).base HB1.out.size, HM2.out, HI2b.out.new HB5.out, bthen HB14.out HB5.out⟩

end Go.Proofs.YthjpighlcalocaaGreatDoor
