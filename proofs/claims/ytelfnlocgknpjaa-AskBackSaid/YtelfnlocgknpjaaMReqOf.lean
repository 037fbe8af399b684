/-
  packthreadkeep.RequestOf: a request by numbers.
-/
import Derived.Test.YtelfnlocgknpjaaMFace
import Derived.Test.YtelfnlocgknpjaaPathBy
import Derived.Test.YtelfnlocgknpjaaOct2
namespace Go.Proofs.Ytelfnlocgknpjaa
open Go.RowKit
set_option linter.unusedVariables false
set_option linter.unusedSimpArgs false

theorem pathBy_len (n : Int) : (pathBy n).length ≤ 6 := by
  show (joinP (pbk n (pbN n))).length ≤ 6
  rw [pbk_len]
  unfold pbN
  have := Int.emod_lt_of_pos n (show (0 : Int) < 3 by decide)
  omega
theorem parts_five (B : Nat) (kd : Int) : (partsOf B kd).length ≤ 5 := by
  unfold partsOf namedBy
  repeat' split
  all_goals simp
/-- a request is no longer than a frame -/
theorem askC_len {g : Nat → PC} {kd : Int} (hg : PTyped g) (hf : faultC g kd = 0) : (askC g kd).length ≤ 1010 := by
  have h5 := parts_five 0 kd
  have := flat_le ((partsOf 0 kd).map fun p => layC p (g p.adr.off)) 202 (fun x hx => by
    obtain ⟨p, hp, rfl⟩ := List.mem_map.1 hx
    have hc := (faultC_zero hf).2.2 p hp
    have hw := parts_wide 0 kd p hp
    obtain ⟨j, hj⟩ := List.getElem?_of_mem hp
    obtain ⟨o, h1, h2, h3⟩ := (good_parts 0 kd).loc j p hj
    have h4 : p.adr.off = o := by rw [h2]
    rw [h4] at hc ⊢
    rcases p with ⟨a, k⟩ | a | a
    · obtain ⟨v, hv⟩ := hg.num o h3
      rw [hv]
      show (be k v).length ≤ 202
      rw [be_len]
      have := hw a k rfl
      omega
    · obtain ⟨v, hv⟩ := hg.txt o h3
      rw [hv] at hc ⊢
      have hc' : (if 200 < v.length then (1 : Int) else 0) = 0 := hc
      show (enc (ofT v)).length ≤ 202
      unfold enc
      rw [List.length_append, be_len, ofT_len]
      split at hc' <;> omega
    · obtain ⟨v, hv⟩ := hg.dat
      have hk' : o = 8 := h3
      subst hk'
      rw [hv] at hc ⊢
      have hc' : (if 100 < v.length then (1 : Int) else 0) = 0 := hc
      show (enc v).length ≤ 202
      unfold enc
      rw [List.length_append, be_len]
      split at hc' <;> omega)
  rw [List.length_map] at this
  unfold askC
  omega
theorem askC_oct {g : Nat → PC} {kd : Int} (hg : PTyped g) (ho : ∀ zs, g 8 = .d zs → Oct zs) : Oct (askC g kd) := fun z hz => by
  unfold askC at hz
  obtain ⟨l, hl, hz⟩ := List.mem_flatten.1 hz
  obtain ⟨p, hp, rfl⟩ := List.mem_map.1 hl
  obtain ⟨j, hj⟩ := List.getElem?_of_mem hp
  obtain ⟨o, h1, h2, h3⟩ := (good_parts 0 kd).loc j p hj
  have h4 : p.adr.off = o := by rw [h2]
  rw [h4] at hz
  rcases p with ⟨a, k⟩ | a | a
  · obtain ⟨v, hv⟩ := hg.num o h3
    rw [hv] at hz
    exact be_oct k v z hz
  · obtain ⟨v, hv⟩ := hg.txt o h3
    rw [hv] at hz
    have hz' : z ∈ be 2 ((ofT v).length : Int) ++ ofT v := hz
    rcases List.mem_append.1 hz' with h | h
    · exact be_oct _ _ z h
    · unfold ofT at h
      obtain ⟨x, -, rfl⟩ := List.mem_map.1 h
      have := x.toNat_lt
      omega
  · obtain ⟨v, hv⟩ := hg.dat
    have hk' : o = 8 := h3
    subst hk'
    have ho' := ho v hv
    rw [hv] at hz
    have hz' : z ∈ be 2 (v.length : Int) ++ v := hz
    rcases List.mem_append.1 hz' with h | h
    · exact be_oct _ _ z h
    · exact ho' z h
/-- a request that may be -/
def Fine (x : Rqv) (w : World) : Prop := (x.In w ∧ Oct x.zs) ∧ faultC x.G x.kd = 0
theorem oct_nil : Oct [] := fun z h => by cases h
theorem fine_1 {m : Int} {p : Byt} {how : Int} {w : World} (h0 : 0 ≤ m) (h1 : m < 4294967296) (h2 : p.length ≤ 6) (h3 : 0 ≤ how) (h4 : how < 32) : Fine ⟨1, m, p, [], how, 0, 0, 0, none, 0, 0, []⟩ w := by
  refine ⟨⟨⟨Ls.nil _ _, rfl⟩, oct_nil⟩, ?_⟩
  have e1 : (if m < 0 ∨ 256 ^ 4 ≤ m then (2 : Int) else 0) = 0 := if_neg (by omega)
  have e2 : (if 200 < p.length then (1 : Int) else 0) = 0 := if_neg (by omega)
  have e3 : (if how < 0 ∨ 256 ^ 1 ≤ how then (2 : Int) else 0) = 0 := if_neg (by omega)
  show chkT [0, if m < 0 ∨ 256 ^ 4 ≤ m then (2 : Int) else 0, if 200 < p.length then (1 : Int) else 0, if how < 0 ∨ 256 ^ 1 ≤ how then (2 : Int) else 0] = 0
  rw [e1, e2, e3]; rfl
theorem fine_2 {m : Int} {n : Int} {w : World} (h0 : 0 ≤ m) (h1 : m < 4294967296) (h3 : 0 ≤ n) (h4 : n < 30) : Fine ⟨2, m, [], [], 0, n, 0, 0, none, 0, 0, []⟩ w := by
  refine ⟨⟨⟨Ls.nil _ _, rfl⟩, oct_nil⟩, ?_⟩
  have e1 : (if m < 0 ∨ 256 ^ 4 ≤ m then (2 : Int) else 0) = 0 := if_neg (by omega)
  have e3 : (if n < 0 ∨ 256 ^ 4 ≤ n then (2 : Int) else 0) = 0 := if_neg (by omega)
  show chkT [0, if m < 0 ∨ 256 ^ 4 ≤ m then (2 : Int) else 0, if n < 0 ∨ 256 ^ 4 ≤ n then (2 : Int) else 0] = 0
  rw [e1, e3]; rfl
theorem fine_3 {m n a c : Int} {w : World} (h0 : 0 ≤ m) (h1 : m < 4294967296) (h3 : 0 ≤ n) (h4 : n < 30) (h5 : 0 ≤ a) (h6 : a < 300) (h7 : 0 ≤ c) (h8 : c < 102) : Fine ⟨3, m, [], [], 0, n, a, c, none, 0, 0, []⟩ w := by
  refine ⟨⟨⟨Ls.nil _ _, rfl⟩, oct_nil⟩, ?_⟩
  have e1 : (if m < 0 ∨ 256 ^ 4 ≤ m then (2 : Int) else 0) = 0 := if_neg (by omega)
  have e3 : (if n < 0 ∨ 256 ^ 4 ≤ n then (2 : Int) else 0) = 0 := if_neg (by omega)
  have e4 : (if a < 0 ∨ 256 ^ 4 ≤ a then (2 : Int) else 0) = 0 := if_neg (by omega)
  have e5 : (if c < 0 ∨ 256 ^ 2 ≤ c then (2 : Int) else 0) = 0 := if_neg (by omega)
  show chkT [0, if m < 0 ∨ 256 ^ 4 ≤ m then (2 : Int) else 0, if n < 0 ∨ 256 ^ 4 ≤ n then (2 : Int) else 0, if a < 0 ∨ 256 ^ 4 ≤ a then (2 : Int) else 0, if c < 0 ∨ 256 ^ 2 ≤ c then (2 : Int) else 0] = 0
  rw [e1, e3, e4, e5]; rfl
theorem fine_4 {m n a : Int} {D : Option Addr} {k d : Nat} {zs : List Int} {w : World} (h0 : 0 ≤ m) (h1 : m < 4294967296) (h3 : 0 ≤ n) (h4 : n < 30) (h5 : 0 ≤ a) (h6 : a < 300) (h7 : Ls byS w D zs) (h8 : zs.length = k) (h9 : k ≤ 100) (h10 : Oct zs) : Fine ⟨4, m, [], [], 0, n, a, 0, D, k, d, zs⟩ w := by
  refine ⟨⟨⟨h7, h8⟩, h10⟩, ?_⟩
  have e1 : (if m < 0 ∨ 256 ^ 4 ≤ m then (2 : Int) else 0) = 0 := if_neg (by omega)
  have e3 : (if n < 0 ∨ 256 ^ 4 ≤ n then (2 : Int) else 0) = 0 := if_neg (by omega)
  have e4 : (if a < 0 ∨ 256 ^ 4 ≤ a then (2 : Int) else 0) = 0 := if_neg (by omega)
  have e5 : (if 100 < zs.length then (1 : Int) else 0) = 0 := if_neg (by omega)
  show chkT [0, if m < 0 ∨ 256 ^ 4 ≤ m then (2 : Int) else 0, if n < 0 ∨ 256 ^ 4 ≤ n then (2 : Int) else 0, if a < 0 ∨ 256 ^ 4 ≤ a then (2 : Int) else 0, if 100 < zs.length then (1 : Int) else 0] = 0
  rw [e1, e3, e4, e5]; rfl
theorem fine_p {kd m : Int} {p : Byt} {w : World} (hk : kd = 5 ∨ kd = 6 ∨ kd = 7 ∨ kd = 8) (h0 : 0 ≤ m) (h1 : m < 4294967296) (h2 : p.length ≤ 6) : Fine ⟨kd, m, p, [], 0, 0, 0, 0, none, 0, 0, []⟩ w := by
  refine ⟨⟨⟨Ls.nil _ _, rfl⟩, oct_nil⟩, ?_⟩
  have e1 : (if m < 0 ∨ 256 ^ 4 ≤ m then (2 : Int) else 0) = 0 := if_neg (by omega)
  have e2 : (if 200 < p.length then (1 : Int) else 0) = 0 := if_neg (by omega)
  rcases hk with rfl | rfl | rfl | rfl
  all_goals
    show chkT [0, if m < 0 ∨ 256 ^ 4 ≤ m then (2 : Int) else 0, if 200 < p.length then (1 : Int) else 0] = 0
    rw [e1, e2]; rfl
theorem fine_pt {kd m : Int} {p q : Byt} {w : World} (hk : kd = 9 ∨ kd = 10) (h0 : 0 ≤ m) (h1 : m < 4294967296) (h2 : p.length ≤ 6) (h3 : q.length ≤ 6) : Fine ⟨kd, m, p, q, 0, 0, 0, 0, none, 0, 0, []⟩ w := by
  refine ⟨⟨⟨Ls.nil _ _, rfl⟩, oct_nil⟩, ?_⟩
  have e1 : (if m < 0 ∨ 256 ^ 4 ≤ m then (2 : Int) else 0) = 0 := if_neg (by omega)
  have e2 : (if 200 < p.length then (1 : Int) else 0) = 0 := if_neg (by omega)
  have e3 : (if 200 < q.length then (1 : Int) else 0) = 0 := if_neg (by omega)
  rcases hk with rfl | rfl
  all_goals
    show chkT [0, if m < 0 ∨ 256 ^ 4 ≤ m then (2 : Int) else 0, if 200 < p.length then (1 : Int) else 0, if 200 < q.length then (1 : Int) else 0] = 0
    rw [e1, e2, e3]; rfl
/-- the box of a request that may be -/
def FineBox (B T : Nat) (w wc : World) : Prop := ∃ x : Rqv, Bx 24 wc B #[.int .i64 x.kd, .int .i64 x.mrk, .string (tx x.p), .string (tx x.q), .int .i64 x.how, .int .i64 x.han, .int .i64 x.a, .int .i64 x.c, .slice x.D x.m x.d] ∧ Fine x wc ∧ Only (fun k => k = B) w wc

theorem ls_put {S : Nat → Prop} {w w' : World} {D : Option Addr} {zs : List Int} (h : Ls byS w D zs) (hc : zs = [] ∨ Clear S D) (ho : Only S w w') : Ls byS w' D zs := by
  rcases hc with rfl | hc
  · exact Ls.nil _ _
  · exact h.only ho hc
theorem ls_offB {w : World} {D : Option Addr} {zs : List Int} {B : Nat} (h : Ls byS w D zs) (hB : w.heap.size ≤ B) : zs = [] ∨ Clear (fun k => k = B) D := by
  rcases zs with _ | ⟨x, r⟩
  · exact .inl rfl
  · obtain ⟨b, o, rfl, hlt, -⟩ := h.at 0 x rfl
    right
    intro a ha e
    injection ha with ha
    subst ha
    have e : b = B := e
    omega
theorem clear_own {w : World} {base : Nat} {A : Option Addr} {n c : Nat} {l : List Int} {e : TypeId} {B : Nat} (h : OwnL byS e w base A n c l) (hB : B < base) : Clear (fun k => k = B) A := fun a ha hb => by
  have h1 := (h.lt a.block (by rw [ha]; rfl)).1
  have hb : a.block = B := hb
  omega
theorem Fine.put {x : Rqv} {w w' : World} {R : Nat} (h : Fine x w) (hx : Bx 24 w R #[.int .i64 0, .int .i64 0, .string ⟨#[]⟩, .string ⟨#[]⟩, .int .i64 0, .int .i64 0, .int .i64 0, .int .i64 0, .slice none 0 0]) (ho : Only (fun k => k = R) w w') : Fine x w' :=
  ⟨⟨⟨ls_put h.1.1.1 (ls_off9 h.1.1.1 hx) ho, h.1.1.2⟩, h.1.2⟩, h.2⟩

set_option maxRecDepth 100000 in
set_option maxHeartbeats 16000000 in
theorem reqOf_any (kind mark a b : Int) (A : Option Addr) (n c : Nat) (zs : List Int) (w : World) (hk0 : -9223372036854775808 ≤ kind) (hk1 : kind ≤ 9223372036854775807) (hm0 : -9223372036854775808 ≤ mark) (hm1 : mark ≤ 9223372036854775807) (ha0 : -9223372036854775808 ≤ a) (ha1 : a ≤ 9223372036854775807) (hb0 : -9223372036854775808 ≤ b) (hb1 : b ≤ 9223372036854775807)
    (hs : Ls byS w A zs) (hn : zs.length = n) (hc : n ≤ c) (hr : c ≤ 140737488351232) (hoc : Oct zs) :
    Calls Try.prog 21 #[.int .i64 kind, .int .i64 mark, .int .i64 a, .int .i64 b, .slice A n c] w fun e w' => Below w.heap.size w w' ∧ ∃ x : Rqv, e = .returned (.agg #[.int .i64 x.kd, .int .i64 x.mrk, .string (tx x.p), .string (tx x.q), .int .i64 x.how, .int .i64 x.han, .int .i64 x.a, .int .i64 x.c, .slice x.D x.m x.d]) ∧ Fine x w' := by
  obtain ⟨k, HK, hk10⟩ := pick_nat kind 10 (by omega)
  obtain ⟨m, HM, hm32⟩ := pick_nat mark 4294967296 (by omega)
  obtain ⟨u32, HU, hu⟩ := pick_nat b 32 (by omega)
  obtain ⟨n30, HN30, hn30⟩ := pick_nat a 30 (by omega)
  obtain ⟨t300, HT3, ht3⟩ := pick_nat b 300 (by omega)
  obtain ⟨t102, HT1, ht1⟩ := pick_nat (b.tdiv 300) 102 (by omega)
  have hbd := tdiv_b b 300 (by omega) hb0 hb1 (by omega)
  have HPK := Lib.hid (fun wx => picked_n kind 10 k wx HK hk0 hk1 (by omega) (by omega))
  have HPM := Lib.hid (fun wx => picked_n mark 4294967296 m wx HM hm0 hm1 (by omega) (by omega))
  have HPU := Lib.hid (fun wx => picked_n b 32 u32 wx HU hb0 hb1 (by omega) (by omega))
  have HP30 := Lib.hid (fun wx => picked_n a 30 n30 wx HN30 ha0 ha1 (by omega) (by omega))
  have HP300 := Lib.hid (fun wx => picked_n b 300 t300 wx HT3 hb0 hb1 (by omega) (by omega))
  have HP102 := Lib.hid (fun wx => picked_n (b.tdiv 300) 102 t102 wx HT1 hbd.1 hbd.2 (by omega) (by omega))
  have HPA := Lib.hid (fun wx => pathBy_any a wx ha0 ha1)
  have HPB := Lib.hid (fun wx => pathBy_any b wx hb0 hb1)
  have HLA := Lib.hid (pathBy_len a)
  have HLB := Lib.hid (pathBy_len b)
  obtain ⟨pa, hpa⟩ : ∃ s, s = pathBy a := ⟨_, rfl⟩
  obtain ⟨pb, hpb⟩ : ∃ s, s = pathBy b := ⟨_, rfl⟩
  rw [← hpa] at HPA HLA
  rw [← hpb] at HPB HLB
  have HS := Lib.hid hs
  have HN := Lib.hid hn
  have HOC := Lib.hid hoc
  clear hpa hpb hs hn hoc
  go_enter Try.func21, Try.ntmps21
  go_upto_region 1 with fail
  obtain ⟨wR, hwR⟩ : ∃ wR, wR = w.alloc (.cells #[.int .i64 0, .int .i64 0, .string ⟨#[]⟩, .string ⟨#[]⟩, .int .i64 0, .int .i64 0, .int .i64 0, .int .i64 0, .slice none 0 0] 24) := ⟨_, rfl⟩
  obtain ⟨R, hR⟩ : ∃ R, R = w.heap.size := ⟨_, rfl⟩
  have HBR : Hid (Below w.heap.size w wR) := Lib.hid (by rw [hwR]; exact ba1 _ _)
  have HXR : Hid (Bx 24 wR R #[.int .i64 0, .int .i64 0, .string ⟨#[]⟩, .string ⟨#[]⟩, .int .i64 0, .int .i64 0, .int .i64 0, .int .i64 0, .slice none 0 0]) := Lib.hid (by rw [hwR, hR]; exact bx_new _ _ _)
  have HRV := Lib.hid hR
  have hRl := HXR.out.lt
  rw [← hwR, ← hR]
  clear hwR hR
  go_upto_region 2 with (first
    | (go_at_call 23; (with_reducible refine (HPK.out _).mono ?_); rintro e w1 ⟨rfl, rfl⟩)
    | (go_at_call 23; (with_reducible refine (HPM.out _).mono ?_); rintro e w1 ⟨rfl, rfl⟩))
  obtain ⟨wB, hwB⟩ : ∃ wB, wB = wR.alloc (.cells #[.int .i64 (1 + (k : Int)), .int .i64 m, .string ⟨#[]⟩, .string ⟨#[]⟩, .int .i64 0, .int .i64 0, .int .i64 0, .int .i64 0, .slice none 0 0] 24) := ⟨_, rfl⟩
  obtain ⟨B, hB⟩ : ∃ B, B = wR.heap.size := ⟨_, rfl⟩
  obtain ⟨kd, hkd⟩ : ∃ kd : Int, kd = 1 + (k : Int) := ⟨_, rfl⟩
  rw [← hkd] at hwB
  have HBB : Hid (Below w.heap.size w wB) := Lib.hid (bthen HBR.out (by rw [hwB]; exact ba1 _ _))
  have hx : Bx 24 wB B #[.int .i64 kd, .int .i64 m, .string ⟨#[]⟩, .string ⟨#[]⟩, .int .i64 0, .int .i64 0, .int .i64 0, .int .i64 0, .slice none 0 0] := by rw [hwB, hB]; exact bx_new _ _ _
  have HXR2 : Hid (Bx 24 wB R #[.int .i64 0, .int .i64 0, .string ⟨#[]⟩, .string ⟨#[]⟩, .int .i64 0, .int .i64 0, .int .i64 0, .int .i64 0, .slice none 0 0]) := Lib.hid (HXR.out.below (by rw [hwB]; exact ba1 _ _))
  have HBV : Hid (w.heap.size ≤ B) := Lib.hid (by rw [hB]; exact HBR.out.size)
  have hRB : ¬ R = B := by omega
  have hBR : ¬ B = R := by omega
  obtain ⟨lB, b0, b1, b2, b3, b4, b5, b6, b7, b8, fr⟩ := hx.cells9
  have z2 := fr 2; have z3 := fr 3; have z4 := fr 4; have z5 := fr 5; have z6 := fr 6; have z7 := fr 7; have z8 := fr 8
  have HX := Lib.hid hx
  have hkk : kd = 1 ∨ kd = 2 ∨ kd = 3 ∨ kd = 4 ∨ kd = 5 ∨ kd = 6 ∨ kd = 7 ∨ kd = 8 ∨ kd = 9 ∨ kd = 10 := by omega
  have HS2 := Lib.hid (HS.out.below HBB.out)
  rw [← hkd, ← hwB, ← hB]
  clear hwB hB hkd hk10 hx fr HK
  rcases hkk with rfl | rfl | rfl | rfl | rfl | rfl | rfl | rfl | rfl | rfl
  · go_upto_region 21 with (first | (go_at_call 43; (with_reducible refine (HPA.out _).mono ?_); clear lB b0 b1 b2 b3 b4 b5 b6 b7 b8 z2 z3 z4 z5 z6 z7 z8; rintro e w4 ⟨rfl, hb⟩; have HB4 := Lib.hid hb; have HX4 := Lib.hid (HX.out.below hb); obtain ⟨lB, b0, b1, b2, b3, b4, b5, b6, b7, b8, fr⟩ := HX4.out.cells9; have z2 := fr 2; have z3 := fr 3; have z4 := fr 4; have z5 := fr 5; have z6 := fr 6; have z7 := fr 7; have z8 := fr 8; clear fr; clear hb) | (go_at_call 23; (with_reducible refine (HPU.out _).mono ?_); rintro e w9 ⟨rfl, rfl⟩))
    have hxf : Bx 24 (((w4.setCell ⟨B, 2, none⟩ (.string (tx pa))).setCell ⟨B, 4, none⟩ (.int .i64 u32))) B #[.int .i64 1, .int .i64 m, .string (tx pa), .string ⟨#[]⟩, .int .i64 u32, .int .i64 0, .int .i64 0, .int .i64 0, .slice none 0 0] := ((HX4.out.set 2 (.string (tx pa))).set 4 (.int .i64 u32))
    have hbw : Below w.heap.size w (((w4.setCell ⟨B, 2, none⟩ (.string (tx pa))).setCell ⟨B, 4, none⟩ (.int .i64 u32))) := (((bthen HBB.out HB4.out).setCell HBV.out (.string (tx pa))).setCell HBV.out (.int .i64 u32))
    have hxr : Bx 24 (((w4.setCell ⟨B, 2, none⟩ (.string (tx pa))).setCell ⟨B, 4, none⟩ (.int .i64 u32))) R #[.int .i64 0, .int .i64 0, .string ⟨#[]⟩, .string ⟨#[]⟩, .int .i64 0, .int .i64 0, .int .i64 0, .int .i64 0, .slice none 0 0] := (((HXR2.out.below HB4.out).other hRB (.string (tx pa))).other hRB (.int .i64 u32))
    have hfin := fine_1 (w := ((w4.setCell ⟨B, 2, none⟩ (.string (tx pa))).setCell ⟨B, 4, none⟩ (.int .i64 u32))) (m := m) (p := pa) (how := u32) (by omega) hm32 HLA.out (by omega) hu
    obtain ⟨wc, hwc⟩ : ∃ wc, wc = ((w4.setCell ⟨B, 2, none⟩ (.string (tx pa))).setCell ⟨B, 4, none⟩ (.int .i64 u32)) := ⟨_, rfl⟩
    rw [← hwc] at hxf hbw hxr hfin ⊢
    have HHX := Lib.hid hxf; have HHB := Lib.hid hbw; have HHR := Lib.hid hxr; have HHF := Lib.hid hfin
    clear hwc hxf hbw hxr hfin
    obtain ⟨lB, b0, b1, b2, b3, b4, b5, b6, b7, b8, -⟩ := HHX.out.cells9
    obtain ⟨lR, r0, r1, r2, r3, r4, r5, r6, r7, r8, fr⟩ := HHR.out.cells9
    have y0 := fr 0; have y1 := fr 1; have y2 := fr 2; have y3 := fr 3; have y4 := fr 4; have y5 := fr 5; have y6 := fr 6; have y7 := fr 7; have y8 := fr 8
    clear fr
    go_wp2_with fail
    obtain ⟨wf, hwf⟩ : ∃ wf, wf = put9 wc R (.int .i64 1) (.int .i64 m) (.string (tx pa)) (.string ⟨#[]⟩) (.int .i64 u32) (.int .i64 0) (.int .i64 0) (.int .i64 0) (.slice none 0 0) := ⟨_, rfl⟩
    have hf := HHR.out.put9 (.int .i64 1) (.int .i64 m) (.string (tx pa)) (.string ⟨#[]⟩) (.int .i64 u32) (.int .i64 0) (.int .i64 0) (.int .i64 0) (.slice none 0 0)
    have hon : Only (fun k => k = R) wc wf := by rw [hwf]; exact only_put9 wc R (.int .i64 1) (.int .i64 m) (.string (tx pa)) (.string ⟨#[]⟩) (.int .i64 u32) (.int .i64 0) (.int .i64 0) (.int .i64 0) (.slice none 0 0)
    have hbf : Below w.heap.size w wf := by rw [hwf]; exact below_put9 HHB.out (by have := HRV.out; omega) _ _ _ _ _ _ _ _ _
    rw [← hwf] at hf
    obtain ⟨-, q0, q1, q2, q3, q4, q5, q6, q7, q8, -⟩ := hf.cells9
    unfold put9 at hwf
    rw [← hwf]
    refine end_ret (v := .agg #[.int .i64 1, .int .i64 m, .string (tx pa), .string ⟨#[]⟩, .int .i64 u32, .int .i64 0, .int .i64 0, .int .i64 0, .slice none 0 0]) (by simp [results, Try.results21, go_sem, q0, q1, q2, q3, q4, q5, q6, q7, q8]) ?_
    exact ⟨hbf, _, rfl, HHF.out.put HHR.out hon⟩
  · go_upto_region 21 with (go_at_call 23; (with_reducible refine (HP30.out _).mono ?_); rintro e w9 ⟨rfl, rfl⟩)
    have hxf : Bx 24 ((wB.setCell ⟨B, 5, none⟩ (.int .i64 n30))) B #[.int .i64 2, .int .i64 m, .string ⟨#[]⟩, .string ⟨#[]⟩, .int .i64 0, .int .i64 n30, .int .i64 0, .int .i64 0, .slice none 0 0] := (HX.out.set 5 (.int .i64 n30))
    have hbw : Below w.heap.size w ((wB.setCell ⟨B, 5, none⟩ (.int .i64 n30))) := (HBB.out.setCell HBV.out (.int .i64 n30))
    have hxr : Bx 24 ((wB.setCell ⟨B, 5, none⟩ (.int .i64 n30))) R #[.int .i64 0, .int .i64 0, .string ⟨#[]⟩, .string ⟨#[]⟩, .int .i64 0, .int .i64 0, .int .i64 0, .int .i64 0, .slice none 0 0] := (HXR2.out.other hRB (.int .i64 n30))
    have hfin := fine_2 (w := (wB.setCell ⟨B, 5, none⟩ (.int .i64 n30))) (m := m) (n := n30) (by omega) hm32 (by omega) hn30
    obtain ⟨wc, hwc⟩ : ∃ wc, wc = (wB.setCell ⟨B, 5, none⟩ (.int .i64 n30)) := ⟨_, rfl⟩
    rw [← hwc] at hxf hbw hxr hfin ⊢
    have HHX := Lib.hid hxf; have HHB := Lib.hid hbw; have HHR := Lib.hid hxr; have HHF := Lib.hid hfin
    clear hwc hxf hbw hxr hfin
    obtain ⟨lB, b0, b1, b2, b3, b4, b5, b6, b7, b8, -⟩ := HHX.out.cells9
    obtain ⟨lR, r0, r1, r2, r3, r4, r5, r6, r7, r8, fr⟩ := HHR.out.cells9
    have y0 := fr 0; have y1 := fr 1; have y2 := fr 2; have y3 := fr 3; have y4 := fr 4; have y5 := fr 5; have y6 := fr 6; have y7 := fr 7; have y8 := fr 8
    clear fr
    go_wp2_with fail
    obtain ⟨wf, hwf⟩ : ∃ wf, wf = put9 wc R (.int .i64 2) (.int .i64 m) (.string ⟨#[]⟩) (.string ⟨#[]⟩) (.int .i64 0) (.int .i64 n30) (.int .i64 0) (.int .i64 0) (.slice none 0 0) := ⟨_, rfl⟩
    have hf := HHR.out.put9 (.int .i64 2) (.int .i64 m) (.string ⟨#[]⟩) (.string ⟨#[]⟩) (.int .i64 0) (.int .i64 n30) (.int .i64 0) (.int .i64 0) (.slice none 0 0)
    have hon : Only (fun k => k = R) wc wf := by rw [hwf]; exact only_put9 wc R (.int .i64 2) (.int .i64 m) (.string ⟨#[]⟩) (.string ⟨#[]⟩) (.int .i64 0) (.int .i64 n30) (.int .i64 0) (.int .i64 0) (.slice none 0 0)
    have hbf : Below w.heap.size w wf := by rw [hwf]; exact below_put9 HHB.out (by have := HRV.out; omega) _ _ _ _ _ _ _ _ _
    rw [← hwf] at hf
    obtain ⟨-, q0, q1, q2, q3, q4, q5, q6, q7, q8, -⟩ := hf.cells9
    unfold put9 at hwf
    rw [← hwf]
    refine end_ret (v := .agg #[.int .i64 2, .int .i64 m, .string ⟨#[]⟩, .string ⟨#[]⟩, .int .i64 0, .int .i64 n30, .int .i64 0, .int .i64 0, .slice none 0 0]) (by simp [results, Try.results21, go_sem, q0, q1, q2, q3, q4, q5, q6, q7, q8]) ?_
    exact ⟨hbf, _, rfl, HHF.out.put HHR.out hon⟩
  · go_upto_region 21 with (first | (go_at_call 23; (with_reducible refine (HP30.out _).mono ?_); rintro e w9 ⟨rfl, rfl⟩) | (go_at_call 23; (with_reducible refine (HP300.out _).mono ?_); rintro e w9 ⟨rfl, rfl⟩) | (go_at_call 23; (with_reducible refine (HP102.out _).mono ?_); rintro e w9 ⟨rfl, rfl⟩))
    have hxf : Bx 24 ((((wB.setCell ⟨B, 5, none⟩ (.int .i64 n30)).setCell ⟨B, 6, none⟩ (.int .i64 t300)).setCell ⟨B, 7, none⟩ (.int .i64 t102))) B #[.int .i64 3, .int .i64 m, .string ⟨#[]⟩, .string ⟨#[]⟩, .int .i64 0, .int .i64 n30, .int .i64 t300, .int .i64 t102, .slice none 0 0] := (((HX.out.set 5 (.int .i64 n30)).set 6 (.int .i64 t300)).set 7 (.int .i64 t102))
    have hbw : Below w.heap.size w ((((wB.setCell ⟨B, 5, none⟩ (.int .i64 n30)).setCell ⟨B, 6, none⟩ (.int .i64 t300)).setCell ⟨B, 7, none⟩ (.int .i64 t102))) := (((HBB.out.setCell HBV.out (.int .i64 n30)).setCell HBV.out (.int .i64 t300)).setCell HBV.out (.int .i64 t102))
    have hxr : Bx 24 ((((wB.setCell ⟨B, 5, none⟩ (.int .i64 n30)).setCell ⟨B, 6, none⟩ (.int .i64 t300)).setCell ⟨B, 7, none⟩ (.int .i64 t102))) R #[.int .i64 0, .int .i64 0, .string ⟨#[]⟩, .string ⟨#[]⟩, .int .i64 0, .int .i64 0, .int .i64 0, .int .i64 0, .slice none 0 0] := (((HXR2.out.other hRB (.int .i64 n30)).other hRB (.int .i64 t300)).other hRB (.int .i64 t102))
    have hfin := fine_3 (w := (((wB.setCell ⟨B, 5, none⟩ (.int .i64 n30)).setCell ⟨B, 6, none⟩ (.int .i64 t300)).setCell ⟨B, 7, none⟩ (.int .i64 t102))) (m := m) (n := n30) (a := t300) (c := t102) (by omega) hm32 (by omega) hn30 (by omega) ht3 (by omega) ht1
    obtain ⟨wc, hwc⟩ : ∃ wc, wc = (((wB.setCell ⟨B, 5, none⟩ (.int .i64 n30)).setCell ⟨B, 6, none⟩ (.int .i64 t300)).setCell ⟨B, 7, none⟩ (.int .i64 t102)) := ⟨_, rfl⟩
    rw [← hwc] at hxf hbw hxr hfin ⊢
    have HHX := Lib.hid hxf; have HHB := Lib.hid hbw; have HHR := Lib.hid hxr; have HHF := Lib.hid hfin
    clear hwc hxf hbw hxr hfin
    obtain ⟨lB, b0, b1, b2, b3, b4, b5, b6, b7, b8, -⟩ := HHX.out.cells9
    obtain ⟨lR, r0, r1, r2, r3, r4, r5, r6, r7, r8, fr⟩ := HHR.out.cells9
    have y0 := fr 0; have y1 := fr 1; have y2 := fr 2; have y3 := fr 3; have y4 := fr 4; have y5 := fr 5; have y6 := fr 6; have y7 := fr 7; have y8 := fr 8
    clear fr
    go_wp2_with fail
    obtain ⟨wf, hwf⟩ : ∃ wf, wf = put9 wc R (.int .i64 3) (.int .i64 m) (.string ⟨#[]⟩) (.string ⟨#[]⟩) (.int .i64 0) (.int .i64 n30) (.int .i64 t300) (.int .i64 t102) (.slice none 0 0) := ⟨_, rfl⟩
    have hf := HHR.out.put9 (.int .i64 3) (.int .i64 m) (.string ⟨#[]⟩) (.string ⟨#[]⟩) (.int .i64 0) (.int .i64 n30) (.int .i64 t300) (.int .i64 t102) (.slice none 0 0)
    have hon : Only (fun k => k = R) wc wf := by rw [hwf]; exact only_put9 wc R (.int .i64 3) (.int .i64 m) (.string ⟨#[]⟩) (.string ⟨#[]⟩) (.int .i64 0) (.int .i64 n30) (.int .i64 t300) (.int .i64 t102) (.slice none 0 0)
    have hbf : Below w.heap.size w wf := by rw [hwf]; exact below_put9 HHB.out (by have := HRV.out; omega) _ _ _ _ _ _ _ _ _
    rw [← hwf] at hf
    obtain ⟨-, q0, q1, q2, q3, q4, q5, q6, q7, q8, -⟩ := hf.cells9
    unfold put9 at hwf
    rw [← hwf]
    refine end_ret (v := .agg #[.int .i64 3, .int .i64 m, .string ⟨#[]⟩, .string ⟨#[]⟩, .int .i64 0, .int .i64 n30, .int .i64 t300, .int .i64 t102, .slice none 0 0]) (by simp [results, Try.results21, go_sem, q0, q1, q2, q3, q4, q5, q6, q7, q8]) ?_
    exact ⟨hbf, _, rfl, HHF.out.put HHR.out hon⟩
  · obtain ⟨mn, hmn⟩ : ∃ mn : Nat, mn = min n 100 := ⟨_, rfl⟩
    have hmn1 : mn ≤ 100 := by omega
    have HMN := Lib.hid hmn
    clear hmn
    have HSQ : Hid (Ls byS (((wB.setCell ⟨B, 5, none⟩ (.int .i64 n30)).setCell ⟨B, 6, none⟩ (.int .i64 t300))) A zs) := Lib.hid (by
        have hc0 := (HS.out.below HBB.out)
        exact ls_put hc0 (ls_offB HS.out HBV.out) (((Only.refl (fun k => k = B) wB).setCell (.inl rfl) _).setCell (.inl rfl) _))
    have HXQ : Hid (Bx 24 (((wB.setCell ⟨B, 5, none⟩ (.int .i64 n30)).setCell ⟨B, 6, none⟩ (.int .i64 t300))) B _) := Lib.hid ((HX.out.set 5 (.int .i64 n30)).set 6 (.int .i64 t300))
    have HOQ : Hid (∀ wq, wq = ((wB.setCell ⟨B, 5, none⟩ (.int .i64 n30)).setCell ⟨B, 6, none⟩ (.int .i64 t300)) → Calls Try.prog 25 #[.slice A n c, .int .i64 100] wq (RetY wq mn (zs.take mn))) := Lib.hid (fun wq (h : wq = ((wB.setCell ⟨B, 5, none⟩ (.int .i64 n30)).setCell ⟨B, 6, none⟩ (.int .i64 t300))) => octets_any A n c 100 mn zs wq (by rw [h]; exact HSQ.out) HN.out hc (by omega) (by omega) HMN.out)
    go_upto_region 21 with (first | (go_at_call 23; (with_reducible refine (HP30.out _).mono ?_); rintro e w9 ⟨rfl, rfl⟩) | (go_at_call 23; (with_reducible refine (HP300.out _).mono ?_); rintro e w9 ⟨rfl, rfl⟩) | (go_at_call 25; ((with_reducible refine (HOQ.out _ rfl).mono ?_); clear lB b0 b1 b2 b3 b4 b5 b6 b7 b8 z2 z3 z4 z5 z6 z7 z8; rintro e w4 ⟨A4, c4, rfl, ho4, hb⟩; have HO4 := Lib.hid ho4; have HB4 := Lib.hid hb; have HX4 := Lib.hid (HXQ.out.below hb); obtain ⟨lB, b0, b1, b2, b3, b4, b5, b6, b7, b8, fr⟩ := HX4.out.cells9; have z2 := fr 2; have z3 := fr 3; have z4 := fr 4; have z5 := fr 5; have z6 := fr 6; have z7 := fr 7; have z8 := fr 8; clear fr; clear hb ho4)))
    have hxf : Bx 24 ((w4.setCell ⟨B, 8, none⟩ (.slice A4 mn c4))) B #[.int .i64 4, .int .i64 m, .string ⟨#[]⟩, .string ⟨#[]⟩, .int .i64 0, .int .i64 n30, .int .i64 t300, .int .i64 0, .slice A4 mn c4] := (HX4.out.set 8 (.slice A4 mn c4))
    have hbw : Below w.heap.size w ((w4.setCell ⟨B, 8, none⟩ (.slice A4 mn c4))) := ((bthen ((HBB.out.setCell HBV.out (.int .i64 n30)).setCell HBV.out (.int .i64 t300)) HB4.out).setCell HBV.out (.slice A4 mn c4))
    have hxr : Bx 24 ((w4.setCell ⟨B, 8, none⟩ (.slice A4 mn c4))) R #[.int .i64 0, .int .i64 0, .string ⟨#[]⟩, .string ⟨#[]⟩, .int .i64 0, .int .i64 0, .int .i64 0, .int .i64 0, .slice none 0 0] := (((((HXR2.out.other hRB (.int .i64 n30)).other hRB (.int .i64 t300))).below HB4.out).other hRB (.slice A4 mn c4))
    have hfin := fine_4 (w := (w4.setCell ⟨B, 8, none⟩ (.slice A4 mn c4))) (m := m) (n := n30) (a := t300) (D := A4) (k := mn) (d := c4) (zs := zs.take mn) (by omega) hm32 (by omega) hn30 (by omega) ht3 (ls_put HO4.out.ls (.inr (clear_own HO4.out (by show B < (((wB.setCell ⟨B, 5, none⟩ (.int .i64 n30)).setCell ⟨B, 6, none⟩ (.int .i64 t300))).heap.size; simp only [World.size_setCell]; exact HX.out.lt))) ((Only.refl (fun k => k = B) w4).setCell (.inl rfl) _)) (by rw [List.length_take, HN.out]; have := HMN.out; omega) hmn1 (fun z hz => HOC.out z (List.mem_of_mem_take hz))
    obtain ⟨wc, hwc⟩ : ∃ wc, wc = (w4.setCell ⟨B, 8, none⟩ (.slice A4 mn c4)) := ⟨_, rfl⟩
    rw [← hwc] at hxf hbw hxr hfin ⊢
    have HHX := Lib.hid hxf; have HHB := Lib.hid hbw; have HHR := Lib.hid hxr; have HHF := Lib.hid hfin
    clear hwc hxf hbw hxr hfin
    obtain ⟨lB, b0, b1, b2, b3, b4, b5, b6, b7, b8, -⟩ := HHX.out.cells9
    obtain ⟨lR, r0, r1, r2, r3, r4, r5, r6, r7, r8, fr⟩ := HHR.out.cells9
    have y0 := fr 0; have y1 := fr 1; have y2 := fr 2; have y3 := fr 3; have y4 := fr 4; have y5 := fr 5; have y6 := fr 6; have y7 := fr 7; have y8 := fr 8
    clear fr
    go_wp2_with fail
    obtain ⟨wf, hwf⟩ : ∃ wf, wf = put9 wc R (.int .i64 4) (.int .i64 m) (.string ⟨#[]⟩) (.string ⟨#[]⟩) (.int .i64 0) (.int .i64 n30) (.int .i64 t300) (.int .i64 0) (.slice A4 mn c4) := ⟨_, rfl⟩
    have hf := HHR.out.put9 (.int .i64 4) (.int .i64 m) (.string ⟨#[]⟩) (.string ⟨#[]⟩) (.int .i64 0) (.int .i64 n30) (.int .i64 t300) (.int .i64 0) (.slice A4 mn c4)
    have hon : Only (fun k => k = R) wc wf := by rw [hwf]; exact only_put9 wc R (.int .i64 4) (.int .i64 m) (.string ⟨#[]⟩) (.string ⟨#[]⟩) (.int .i64 0) (.int .i64 n30) (.int .i64 t300) (.int .i64 0) (.slice A4 mn c4)
    have hbf : Below w.heap.size w wf := by rw [hwf]; exact below_put9 HHB.out (by have := HRV.out; omega) _ _ _ _ _ _ _ _ _
    rw [← hwf] at hf
    obtain ⟨-, q0, q1, q2, q3, q4, q5, q6, q7, q8, -⟩ := hf.cells9
    unfold put9 at hwf
    rw [← hwf]
    refine end_ret (v := .agg #[.int .i64 4, .int .i64 m, .string ⟨#[]⟩, .string ⟨#[]⟩, .int .i64 0, .int .i64 n30, .int .i64 t300, .int .i64 0, .slice A4 mn c4]) (by simp [results, Try.results21, go_sem, q0, q1, q2, q3, q4, q5, q6, q7, q8]) ?_
    exact ⟨hbf, _, rfl, HHF.out.put HHR.out hon⟩
  · go_upto_region 21 with (go_at_call 43; (with_reducible refine (HPA.out _).mono ?_); clear lB b0 b1 b2 b3 b4 b5 b6 b7 b8 z2 z3 z4 z5 z6 z7 z8; rintro e w4 ⟨rfl, hb⟩; have HB4 := Lib.hid hb; have HX4 := Lib.hid (HX.out.below hb); obtain ⟨lB, b0, b1, b2, b3, b4, b5, b6, b7, b8, fr⟩ := HX4.out.cells9; have z2 := fr 2; have z3 := fr 3; have z4 := fr 4; have z5 := fr 5; have z6 := fr 6; have z7 := fr 7; have z8 := fr 8; clear fr; clear hb)
    have hxf : Bx 24 ((w4.setCell ⟨B, 2, none⟩ (.string (tx pa)))) B #[.int .i64 5, .int .i64 m, .string (tx pa), .string ⟨#[]⟩, .int .i64 0, .int .i64 0, .int .i64 0, .int .i64 0, .slice none 0 0] := (HX4.out.set 2 (.string (tx pa)))
    have hbw : Below w.heap.size w ((w4.setCell ⟨B, 2, none⟩ (.string (tx pa)))) := ((bthen HBB.out HB4.out).setCell HBV.out (.string (tx pa)))
    have hxr : Bx 24 ((w4.setCell ⟨B, 2, none⟩ (.string (tx pa)))) R #[.int .i64 0, .int .i64 0, .string ⟨#[]⟩, .string ⟨#[]⟩, .int .i64 0, .int .i64 0, .int .i64 0, .int .i64 0, .slice none 0 0] := ((HXR2.out.below HB4.out).other hRB (.string (tx pa)))
    have hfin := fine_p (w := (w4.setCell ⟨B, 2, none⟩ (.string (tx pa)))) (kd := 5) (m := m) (p := pa) (by omega) (by omega) hm32 HLA.out
    obtain ⟨wc, hwc⟩ : ∃ wc, wc = (w4.setCell ⟨B, 2, none⟩ (.string (tx pa))) := ⟨_, rfl⟩
    rw [← hwc] at hxf hbw hxr hfin ⊢
    have HHX := Lib.hid hxf; have HHB := Lib.hid hbw; have HHR := Lib.hid hxr; have HHF := Lib.hid hfin
    clear hwc hxf hbw hxr hfin
    obtain ⟨lB, b0, b1, b2, b3, b4, b5, b6, b7, b8, -⟩ := HHX.out.cells9
    obtain ⟨lR, r0, r1, r2, r3, r4, r5, r6, r7, r8, fr⟩ := HHR.out.cells9
    have y0 := fr 0; have y1 := fr 1; have y2 := fr 2; have y3 := fr 3; have y4 := fr 4; have y5 := fr 5; have y6 := fr 6; have y7 := fr 7; have y8 := fr 8
    clear fr
    go_wp2_with fail
    obtain ⟨wf, hwf⟩ : ∃ wf, wf = put9 wc R (.int .i64 5) (.int .i64 m) (.string (tx pa)) (.string ⟨#[]⟩) (.int .i64 0) (.int .i64 0) (.int .i64 0) (.int .i64 0) (.slice none 0 0) := ⟨_, rfl⟩
    have hf := HHR.out.put9 (.int .i64 5) (.int .i64 m) (.string (tx pa)) (.string ⟨#[]⟩) (.int .i64 0) (.int .i64 0) (.int .i64 0) (.int .i64 0) (.slice none 0 0)
    have hon : Only (fun k => k = R) wc wf := by rw [hwf]; exact only_put9 wc R (.int .i64 5) (.int .i64 m) (.string (tx pa)) (.string ⟨#[]⟩) (.int .i64 0) (.int .i64 0) (.int .i64 0) (.int .i64 0) (.slice none 0 0)
    have hbf : Below w.heap.size w wf := by rw [hwf]; exact below_put9 HHB.out (by have := HRV.out; omega) _ _ _ _ _ _ _ _ _
    rw [← hwf] at hf
    obtain ⟨-, q0, q1, q2, q3, q4, q5, q6, q7, q8, -⟩ := hf.cells9
    unfold put9 at hwf
    rw [← hwf]
    refine end_ret (v := .agg #[.int .i64 5, .int .i64 m, .string (tx pa), .string ⟨#[]⟩, .int .i64 0, .int .i64 0, .int .i64 0, .int .i64 0, .slice none 0 0]) (by simp [results, Try.results21, go_sem, q0, q1, q2, q3, q4, q5, q6, q7, q8]) ?_
    exact ⟨hbf, _, rfl, HHF.out.put HHR.out hon⟩
  · go_upto_region 21 with (go_at_call 43; (with_reducible refine (HPA.out _).mono ?_); clear lB b0 b1 b2 b3 b4 b5 b6 b7 b8 z2 z3 z4 z5 z6 z7 z8; rintro e w4 ⟨rfl, hb⟩; have HB4 := Lib.hid hb; have HX4 := Lib.hid (HX.out.below hb); obtain ⟨lB, b0, b1, b2, b3, b4, b5, b6, b7, b8, fr⟩ := HX4.out.cells9; have z2 := fr 2; have z3 := fr 3; have z4 := fr 4; have z5 := fr 5; have z6 := fr 6; have z7 := fr 7; have z8 := fr 8; clear fr; clear hb)
    have hxf : Bx 24 ((w4.setCell ⟨B, 2, none⟩ (.string (tx pa)))) B #[.int .i64 6, .int .i64 m, .string (tx pa), .string ⟨#[]⟩, .int .i64 0, .int .i64 0, .int .i64 0, .int .i64 0, .slice none 0 0] := (HX4.out.set 2 (.string (tx pa)))
    have hbw : Below w.heap.size w ((w4.setCell ⟨B, 2, none⟩ (.string (tx pa)))) := ((bthen HBB.out HB4.out).setCell HBV.out (.string (tx pa)))
    have hxr : Bx 24 ((w4.setCell ⟨B, 2, none⟩ (.string (tx pa)))) R #[.int .i64 0, .int .i64 0, .string ⟨#[]⟩, .string ⟨#[]⟩, .int .i64 0, .int .i64 0, .int .i64 0, .int .i64 0, .slice none 0 0] := ((HXR2.out.below HB4.out).other hRB (.string (tx pa)))
    have hfin := fine_p (w := (w4.setCell ⟨B, 2, none⟩ (.string (tx pa)))) (kd := 6) (m := m) (p := pa) (by omega) (by omega) hm32 HLA.out
    obtain ⟨wc, hwc⟩ : ∃ wc, wc = (w4.setCell ⟨B, 2, none⟩ (.string (tx pa))) := ⟨_, rfl⟩
    rw [← hwc] at hxf hbw hxr hfin ⊢
    have HHX := Lib.hid hxf; have HHB := Lib.hid hbw; have HHR := Lib.hid hxr; have HHF := Lib.hid hfin
    clear hwc hxf hbw hxr hfin
    obtain ⟨lB, b0, b1, b2, b3, b4, b5, b6, b7, b8, -⟩ := HHX.out.cells9
    obtain ⟨lR, r0, r1, r2, r3, r4, r5, r6, r7, r8, fr⟩ := HHR.out.cells9
    have y0 := fr 0; have y1 := fr 1; have y2 := fr 2; have y3 := fr 3; have y4 := fr 4; have y5 := fr 5; have y6 := fr 6; have y7 := fr 7; have y8 := fr 8
    clear fr
    go_wp2_with fail
    obtain ⟨wf, hwf⟩ : ∃ wf, wf = put9 wc R (.int .i64 6) (.int .i64 m) (.string (tx pa)) (.string ⟨#[]⟩) (.int .i64 0) (.int .i64 0) (.int .i64 0) (.int .i64 0) (.slice none 0 0) := ⟨_, rfl⟩
    have hf := HHR.out.put9 (.int .i64 6) (.int .i64 m) (.string (tx pa)) (.string ⟨#[]⟩) (.int .i64 0) (.int .i64 0) (.int .i64 0) (.int .i64 0) (.slice none 0 0)
    have hon : Only (fun k => k = R) wc wf := by rw [hwf]; exact only_put9 wc R (.int .i64 6) (.int .i64 m) (.string (tx pa)) (.string ⟨#[]⟩) (.int .i64 0) (.int .i64 0) (.int .i64 0) (.int .i64 0) (.slice none 0 0)
    have hbf : Below w.heap.size w wf := by rw [hwf]; exact below_put9 HHB.out (by have := HRV.out; omega) _ _ _ _ _ _ _ _ _
    rw [← hwf] at hf
    obtain ⟨-, q0, q1, q2, q3, q4, q5, q6, q7, q8, -⟩ := hf.cells9
    unfold put9 at hwf
    rw [← hwf]
    refine end_ret (v := .agg #[.int .i64 6, .int .i64 m, .string (tx pa), .string ⟨#[]⟩, .int .i64 0, .int .i64 0, .int .i64 0, .int .i64 0, .slice none 0 0]) (by simp [results, Try.results21, go_sem, q0, q1, q2, q3, q4, q5, q6, q7, q8]) ?_
    exact ⟨hbf, _, rfl, HHF.out.put HHR.out hon⟩
  · go_upto_region 21 with (go_at_call 43; (with_reducible refine (HPA.out _).mono ?_); clear lB b0 b1 b2 b3 b4 b5 b6 b7 b8 z2 z3 z4 z5 z6 z7 z8; rintro e w4 ⟨rfl, hb⟩; have HB4 := Lib.hid hb; have HX4 := Lib.hid (HX.out.below hb); obtain ⟨lB, b0, b1, b2, b3, b4, b5, b6, b7, b8, fr⟩ := HX4.out.cells9; have z2 := fr 2; have z3 := fr 3; have z4 := fr 4; have z5 := fr 5; have z6 := fr 6; have z7 := fr 7; have z8 := fr 8; clear fr; clear hb)
    have hxf : Bx 24 ((w4.setCell ⟨B, 2, none⟩ (.string (tx pa)))) B #[.int .i64 7, .int .i64 m, .string (tx pa), .string ⟨#[]⟩, .int .i64 0, .int .i64 0, .int .i64 0, .int .i64 0, .slice none 0 0] := (HX4.out.set 2 (.string (tx pa)))
    have hbw : Below w.heap.size w ((w4.setCell ⟨B, 2, none⟩ (.string (tx pa)))) := ((bthen HBB.out HB4.out).setCell HBV.out (.string (tx pa)))
    have hxr : Bx 24 ((w4.setCell ⟨B, 2, none⟩ (.string (tx pa)))) R #[.int .i64 0, .int .i64 0, .string ⟨#[]⟩, .string ⟨#[]⟩, .int .i64 0, .int .i64 0, .int .i64 0, .int .i64 0, .slice none 0 0] := ((HXR2.out.below HB4.out).other hRB (.string (tx pa)))
    have hfin := fine_p (w := (w4.setCell ⟨B, 2, none⟩ (.string (tx pa)))) (kd := 7) (m := m) (p := pa) (by omega) (by omega) hm32 HLA.out
    obtain ⟨wc, hwc⟩ : ∃ wc, wc = (w4.setCell ⟨B, 2, none⟩ (.string (tx pa))) := ⟨_, rfl⟩
    rw [← hwc] at hxf hbw hxr hfin ⊢
    have HHX := Lib.hid hxf; have HHB := Lib.hid hbw; have HHR := Lib.hid hxr; have HHF := Lib.hid hfin
    clear hwc hxf hbw hxr hfin
    obtain ⟨lB, b0, b1, b2, b3, b4, b5, b6, b7, b8, -⟩ := HHX.out.cells9
    obtain ⟨lR, r0, r1, r2, r3, r4, r5, r6, r7, r8, fr⟩ := HHR.out.cells9
    have y0 := fr 0; have y1 := fr 1; have y2 := fr 2; have y3 := fr 3; have y4 := fr 4; have y5 := fr 5; have y6 := fr 6; have y7 := fr 7; have y8 := fr 8
    clear fr
    go_wp2_with fail
    obtain ⟨wf, hwf⟩ : ∃ wf, wf = put9 wc R (.int .i64 7) (.int .i64 m) (.string (tx pa)) (.string ⟨#[]⟩) (.int .i64 0) (.int .i64 0) (.int .i64 0) (.int .i64 0) (.slice none 0 0) := ⟨_, rfl⟩
    have hf := HHR.out.put9 (.int .i64 7) (.int .i64 m) (.string (tx pa)) (.string ⟨#[]⟩) (.int .i64 0) (.int .i64 0) (.int .i64 0) (.int .i64 0) (.slice none 0 0)
    have hon : Only (fun k => k = R) wc wf := by rw [hwf]; exact only_put9 wc R (.int .i64 7) (.int .i64 m) (.string (tx pa)) (.string ⟨#[]⟩) (.int .i64 0) (.int .i64 0) (.int .i64 0) (.int .i64 0) (.slice none 0 0)
    have hbf : Below w.heap.size w wf := by rw [hwf]; exact below_put9 HHB.out (by have := HRV.out; omega) _ _ _ _ _ _ _ _ _
    rw [← hwf] at hf
    obtain ⟨-, q0, q1, q2, q3, q4, q5, q6, q7, q8, -⟩ := hf.cells9
    unfold put9 at hwf
    rw [← hwf]
    refine end_ret (v := .agg #[.int .i64 7, .int .i64 m, .string (tx pa), .string ⟨#[]⟩, .int .i64 0, .int .i64 0, .int .i64 0, .int .i64 0, .slice none 0 0]) (by simp [results, Try.results21, go_sem, q0, q1, q2, q3, q4, q5, q6, q7, q8]) ?_
    exact ⟨hbf, _, rfl, HHF.out.put HHR.out hon⟩
  · go_upto_region 21 with (go_at_call 43; (with_reducible refine (HPA.out _).mono ?_); clear lB b0 b1 b2 b3 b4 b5 b6 b7 b8 z2 z3 z4 z5 z6 z7 z8; rintro e w4 ⟨rfl, hb⟩; have HB4 := Lib.hid hb; have HX4 := Lib.hid (HX.out.below hb); obtain ⟨lB, b0, b1, b2, b3, b4, b5, b6, b7, b8, fr⟩ := HX4.out.cells9; have z2 := fr 2; have z3 := fr 3; have z4 := fr 4; have z5 := fr 5; have z6 := fr 6; have z7 := fr 7; have z8 := fr 8; clear fr; clear hb)
    have hxf : Bx 24 ((w4.setCell ⟨B, 2, none⟩ (.string (tx pa)))) B #[.int .i64 8, .int .i64 m, .string (tx pa), .string ⟨#[]⟩, .int .i64 0, .int .i64 0, .int .i64 0, .int .i64 0, .slice none 0 0] := (HX4.out.set 2 (.string (tx pa)))
    have hbw : Below w.heap.size w ((w4.setCell ⟨B, 2, none⟩ (.string (tx pa)))) := ((bthen HBB.out HB4.out).setCell HBV.out (.string (tx pa)))
    have hxr : Bx 24 ((w4.setCell ⟨B, 2, none⟩ (.string (tx pa)))) R #[.int .i64 0, .int .i64 0, .string ⟨#[]⟩, .string ⟨#[]⟩, .int .i64 0, .int .i64 0, .int .i64 0, .int .i64 0, .slice none 0 0] := ((HXR2.out.below HB4.out).other hRB (.string (tx pa)))
    have hfin := fine_p (w := (w4.setCell ⟨B, 2, none⟩ (.string (tx pa)))) (kd := 8) (m := m) (p := pa) (by omega) (by omega) hm32 HLA.out
    obtain ⟨wc, hwc⟩ : ∃ wc, wc = (w4.setCell ⟨B, 2, none⟩ (.string (tx pa))) := ⟨_, rfl⟩
    rw [← hwc] at hxf hbw hxr hfin ⊢
    have HHX := Lib.hid hxf; have HHB := Lib.hid hbw; have HHR := Lib.hid hxr; have HHF := Lib.hid hfin
    clear hwc hxf hbw hxr hfin
    obtain ⟨lB, b0, b1, b2, b3, b4, b5, b6, b7, b8, -⟩ := HHX.out.cells9
    obtain ⟨lR, r0, r1, r2, r3, r4, r5, r6, r7, r8, fr⟩ := HHR.out.cells9
    have y0 := fr 0; have y1 := fr 1; have y2 := fr 2; have y3 := fr 3; have y4 := fr 4; have y5 := fr 5; have y6 := fr 6; have y7 := fr 7; have y8 := fr 8
    clear fr
    go_wp2_with fail
    obtain ⟨wf, hwf⟩ : ∃ wf, wf = put9 wc R (.int .i64 8) (.int .i64 m) (.string (tx pa)) (.string ⟨#[]⟩) (.int .i64 0) (.int .i64 0) (.int .i64 0) (.int .i64 0) (.slice none 0 0) := ⟨_, rfl⟩
    have hf := HHR.out.put9 (.int .i64 8) (.int .i64 m) (.string (tx pa)) (.string ⟨#[]⟩) (.int .i64 0) (.int .i64 0) (.int .i64 0) (.int .i64 0) (.slice none 0 0)
    have hon : Only (fun k => k = R) wc wf := by rw [hwf]; exact only_put9 wc R (.int .i64 8) (.int .i64 m) (.string (tx pa)) (.string ⟨#[]⟩) (.int .i64 0) (.int .i64 0) (.int .i64 0) (.int .i64 0) (.slice none 0 0)
    have hbf : Below w.heap.size w wf := by rw [hwf]; exact below_put9 HHB.out (by have := HRV.out; omega) _ _ _ _ _ _ _ _ _
    rw [← hwf] at hf
    obtain ⟨-, q0, q1, q2, q3, q4, q5, q6, q7, q8, -⟩ := hf.cells9
    unfold put9 at hwf
    rw [← hwf]
    refine end_ret (v := .agg #[.int .i64 8, .int .i64 m, .string (tx pa), .string ⟨#[]⟩, .int .i64 0, .int .i64 0, .int .i64 0, .int .i64 0, .slice none 0 0]) (by simp [results, Try.results21, go_sem, q0, q1, q2, q3, q4, q5, q6, q7, q8]) ?_
    exact ⟨hbf, _, rfl, HHF.out.put HHR.out hon⟩
  · go_upto_region 20 with (go_at_call 43; (with_reducible refine (HPA.out _).mono ?_); clear lB b0 b1 b2 b3 b4 b5 b6 b7 b8 z2 z3 z4 z5 z6 z7 z8; rintro e w4 ⟨rfl, hb⟩; have HB4 := Lib.hid hb; have HX4 := Lib.hid (HX.out.below hb); obtain ⟨lB, b0, b1, b2, b3, b4, b5, b6, b7, b8, fr⟩ := HX4.out.cells9; have z2 := fr 2; have z3 := fr 3; have z4 := fr 4; have z5 := fr 5; have z6 := fr 6; have z7 := fr 7; have z8 := fr 8; clear fr; clear hb)
    have HX5 := Lib.hid (HX4.out.set 2 (.string (tx pa)))
    go_upto_region 21 with (go_at_call 43; (with_reducible refine (HPB.out _).mono ?_); clear lB b0 b1 b2 b3 b4 b5 b6 b7 b8 z2 z3 z4 z5 z6 z7 z8; rintro e w6 ⟨rfl, hb⟩; have HB6 := Lib.hid hb; have HX6 := Lib.hid (HX5.out.below hb); obtain ⟨lB, b0, b1, b2, b3, b4, b5, b6, b7, b8, fr⟩ := HX6.out.cells9; have z2 := fr 2; have z3 := fr 3; have z4 := fr 4; have z5 := fr 5; have z6 := fr 6; have z7 := fr 7; have z8 := fr 8; clear fr; clear hb)
    have hxf : Bx 24 ((w6.setCell ⟨B, 3, none⟩ (.string (tx pb)))) B #[.int .i64 9, .int .i64 m, .string (tx pa), .string (tx pb), .int .i64 0, .int .i64 0, .int .i64 0, .int .i64 0, .slice none 0 0] := (HX6.out.set 3 (.string (tx pb)))
    have hbw : Below w.heap.size w ((w6.setCell ⟨B, 3, none⟩ (.string (tx pb)))) := ((bthen ((bthen HBB.out HB4.out).setCell HBV.out (.string (tx pa))) HB6.out).setCell HBV.out (.string (tx pb)))
    have hxr : Bx 24 ((w6.setCell ⟨B, 3, none⟩ (.string (tx pb)))) R #[.int .i64 0, .int .i64 0, .string ⟨#[]⟩, .string ⟨#[]⟩, .int .i64 0, .int .i64 0, .int .i64 0, .int .i64 0, .slice none 0 0] := ((((HXR2.out.below HB4.out).other hRB (.string (tx pa))).below HB6.out).other hRB (.string (tx pb)))
    have hfin := fine_pt (w := (w6.setCell ⟨B, 3, none⟩ (.string (tx pb)))) (kd := 9) (m := m) (p := pa) (q := pb) (by omega) (by omega) hm32 HLA.out HLB.out
    obtain ⟨wc, hwc⟩ : ∃ wc, wc = (w6.setCell ⟨B, 3, none⟩ (.string (tx pb))) := ⟨_, rfl⟩
    rw [← hwc] at hxf hbw hxr hfin ⊢
    have HHX := Lib.hid hxf; have HHB := Lib.hid hbw; have HHR := Lib.hid hxr; have HHF := Lib.hid hfin
    clear hwc hxf hbw hxr hfin
    obtain ⟨lB, b0, b1, b2, b3, b4, b5, b6, b7, b8, -⟩ := HHX.out.cells9
    obtain ⟨lR, r0, r1, r2, r3, r4, r5, r6, r7, r8, fr⟩ := HHR.out.cells9
    have y0 := fr 0; have y1 := fr 1; have y2 := fr 2; have y3 := fr 3; have y4 := fr 4; have y5 := fr 5; have y6 := fr 6; have y7 := fr 7; have y8 := fr 8
    clear fr
    go_wp2_with fail
    obtain ⟨wf, hwf⟩ : ∃ wf, wf = put9 wc R (.int .i64 9) (.int .i64 m) (.string (tx pa)) (.string (tx pb)) (.int .i64 0) (.int .i64 0) (.int .i64 0) (.int .i64 0) (.slice none 0 0) := ⟨_, rfl⟩
    have hf := HHR.out.put9 (.int .i64 9) (.int .i64 m) (.string (tx pa)) (.string (tx pb)) (.int .i64 0) (.int .i64 0) (.int .i64 0) (.int .i64 0) (.slice none 0 0)
    have hon : Only (fun k => k = R) wc wf := by rw [hwf]; exact only_put9 wc R (.int .i64 9) (.int .i64 m) (.string (tx pa)) (.string (tx pb)) (.int .i64 0) (.int .i64 0) (.int .i64 0) (.int .i64 0) (.slice none 0 0)
    have hbf : Below w.heap.size w wf := by rw [hwf]; exact below_put9 HHB.out (by have := HRV.out; omega) _ _ _ _ _ _ _ _ _
    rw [← hwf] at hf
    obtain ⟨-, q0, q1, q2, q3, q4, q5, q6, q7, q8, -⟩ := hf.cells9
    unfold put9 at hwf
    rw [← hwf]
    refine end_ret (v := .agg #[.int .i64 9, .int .i64 m, .string (tx pa), .string (tx pb), .int .i64 0, .int .i64 0, .int .i64 0, .int .i64 0, .slice none 0 0]) (by simp [results, Try.results21, go_sem, q0, q1, q2, q3, q4, q5, q6, q7, q8]) ?_
    exact ⟨hbf, _, rfl, HHF.out.put HHR.out hon⟩
  · go_upto_region 20 with (go_at_call 43; (with_reducible refine (HPA.out _).mono ?_); clear lB b0 b1 b2 b3 b4 b5 b6 b7 b8 z2 z3 z4 z5 z6 z7 z8; rintro e w4 ⟨rfl, hb⟩; have HB4 := Lib.hid hb; have HX4 := Lib.hid (HX.out.below hb); obtain ⟨lB, b0, b1, b2, b3, b4, b5, b6, b7, b8, fr⟩ := HX4.out.cells9; have z2 := fr 2; have z3 := fr 3; have z4 := fr 4; have z5 := fr 5; have z6 := fr 6; have z7 := fr 7; have z8 := fr 8; clear fr; clear hb)
    have HX5 := Lib.hid (HX4.out.set 2 (.string (tx pa)))
    go_upto_region 21 with (go_at_call 43; (with_reducible refine (HPB.out _).mono ?_); clear lB b0 b1 b2 b3 b4 b5 b6 b7 b8 z2 z3 z4 z5 z6 z7 z8; rintro e w6 ⟨rfl, hb⟩; have HB6 := Lib.hid hb; have HX6 := Lib.hid (HX5.out.below hb); obtain ⟨lB, b0, b1, b2, b3, b4, b5, b6, b7, b8, fr⟩ := HX6.out.cells9; have z2 := fr 2; have z3 := fr 3; have z4 := fr 4; have z5 := fr 5; have z6 := fr 6; have z7 := fr 7; have z8 := fr 8; clear fr; clear hb)
    have hxf : Bx 24 ((w6.setCell ⟨B, 3, none⟩ (.string (tx pb)))) B #[.int .i64 10, .int .i64 m, .string (tx pa), .string (tx pb), .int .i64 0, .int .i64 0, .int .i64 0, .int .i64 0, .slice none 0 0] := (HX6.out.set 3 (.string (tx pb)))
    have hbw : Below w.heap.size w ((w6.setCell ⟨B, 3, none⟩ (.string (tx pb)))) := ((bthen ((bthen HBB.out HB4.out).setCell HBV.out (.string (tx pa))) HB6.out).setCell HBV.out (.string (tx pb)))
    have hxr : Bx 24 ((w6.setCell ⟨B, 3, none⟩ (.string (tx pb)))) R #[.int .i64 0, .int .i64 0, .string ⟨#[]⟩, .string ⟨#[]⟩, .int .i64 0, .int .i64 0, .int .i64 0, .int .i64 0, .slice none 0 0] := ((((HXR2.out.below HB4.out).other hRB (.string (tx pa))).below HB6.out).other hRB (.string (tx pb)))
    have hfin := fine_pt (w := (w6.setCell ⟨B, 3, none⟩ (.string (tx pb)))) (kd := 10) (m := m) (p := pa) (q := pb) (by omega) (by omega) hm32 HLA.out HLB.out
    obtain ⟨wc, hwc⟩ : ∃ wc, wc = (w6.setCell ⟨B, 3, none⟩ (.string (tx pb))) := ⟨_, rfl⟩
    rw [← hwc] at hxf hbw hxr hfin ⊢
    have HHX := Lib.hid hxf; have HHB := Lib.hid hbw; have HHR := Lib.hid hxr; have HHF := Lib.hid hfin
    clear hwc hxf hbw hxr hfin
    obtain ⟨lB, b0, b1, b2, b3, b4, b5, b6, b7, b8, -⟩ := HHX.out.cells9
    obtain ⟨lR, r0, r1, r2, r3, r4, r5, r6, r7, r8, fr⟩ := HHR.out.cells9
    have y0 := fr 0; have y1 := fr 1; have y2 := fr 2; have y3 := fr 3; have y4 := fr 4; have y5 := fr 5; have y6 := fr 6; have y7 := fr 7; have y8 := fr 8
    clear fr
    go_wp2_with fail
    obtain ⟨wf, hwf⟩ : ∃ wf, wf = put9 wc R (.int .i64 10) (.int .i64 m) (.string (tx pa)) (.string (tx pb)) (.int .i64 0) (.int .i64 0) (.int .i64 0) (.int .i64 0) (.slice none 0 0) := ⟨_, rfl⟩
    have hf := HHR.out.put9 (.int .i64 10) (.int .i64 m) (.string (tx pa)) (.string (tx pb)) (.int .i64 0) (.int .i64 0) (.int .i64 0) (.int .i64 0) (.slice none 0 0)
    have hon : Only (fun k => k = R) wc wf := by rw [hwf]; exact only_put9 wc R (.int .i64 10) (.int .i64 m) (.string (tx pa)) (.string (tx pb)) (.int .i64 0) (.int .i64 0) (.int .i64 0) (.int .i64 0) (.slice none 0 0)
    have hbf : Below w.heap.size w wf := by rw [hwf]; exact below_put9 HHB.out (by have := HRV.out; omega) _ _ _ _ _ _ _ _ _
    rw [← hwf] at hf
    obtain ⟨-, q0, q1, q2, q3, q4, q5, q6, q7, q8, -⟩ := hf.cells9
    unfold put9 at hwf
    rw [← hwf]
    refine end_ret (v := .agg #[.int .i64 10, .int .i64 m, .string (tx pa), .string (tx pb), .int .i64 0, .int .i64 0, .int .i64 0, .int .i64 0, .slice none 0 0]) (by simp [results, Try.results21, go_sem, q0, q1, q2, q3, q4, q5, q6, q7, q8]) ?_
    exact ⟨hbf, _, rfl, HHF.out.put HHR.out hon⟩

end Go.Proofs.Ytelfnlocgknpjaa
