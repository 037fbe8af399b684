/-
  Answer.
-/
import Derived.Test.YtelfnlocgknpjaaMReply
namespace Go.Proofs.Ytelfnlocgknpjaa
open Go.RowKit
set_option linter.unusedVariables false
set_option linter.unusedSimpArgs false

/-- a reply's bytes -/
def headL (mrk code han kd sz : Int) (zs : List Int) : List Int := be 4 mrk ++ (be 1 code ++ (be 4 han ++ (be 1 kd ++ (be 4 sz ++ enc zs))))
def nmL (ns : List Byt) : List Int := (ns.map fun s => enc (ofT s)).flatten
def ansL (mrk code han kd sz : Int) (zs : List Int) (ns : List Byt) : List Int := headL mrk code han kd sz zs ++ be 1 ns.length ++ nmL ns
def Rpv.bytes (x : Rpv) : List Int := ansL x.mrk x.code x.han x.kd x.sz x.zs x.ns
def nmQ (b o : Nat) (ns : List Byt) : List (Pt × List Int) := (List.range ns.length).map fun i => (.txt (at_ b (o + i)), enc (ofT (ns.getD i [])))
theorem nmQ_fst (b o : Nat) (ns : List Byt) : (nmQ b o ns).map Prod.fst = nmP b o ns.length := by unfold nmQ nmP; rw [List.map_map]; rfl
theorem nmQ_snd (b o : Nat) (ns : List Byt) : ((nmQ b o ns).map Prod.snd).flatten = nmL ns := by
  unfold nmQ nmL
  rw [List.map_map]
  congr 1
  refine List.ext_getElem (by simp) fun i h1 h2 => ?_
  simp only [List.length_map, List.length_range] at h1
  simp [List.getD_eq_getElem?_getD, List.getElem?_eq_getElem h1]
theorem ck_range {k : Nat} {v : Int} (h : ckN k v = 0) : 0 ≤ v ∧ v < 256 ^ k := by
  unfold ckN at h
  split at h <;> omega
theorem head_zero {mrk code han kd sz : Int} {m : Nat} (h : headR mrk code han kd sz m = 0) : (0 ≤ mrk ∧ mrk < 4294967296) ∧ (0 ≤ code ∧ code < 256) ∧ (0 ≤ han ∧ han < 4294967296) ∧ (0 ≤ kd ∧ kd < 256) ∧ (0 ≤ sz ∧ sz < 4294967296) ∧ m ≤ 100 := by
  unfold headR at h
  have hv : ∀ k v, ckN k v = 0 ∨ ckN k v = 1 ∨ ckN k v = 2 := fun k v => by unfold ckN; split <;> simp
  have hz := chk_zero h (fun e he => by
    simp only [List.mem_cons, List.not_mem_nil, or_false] at he
    rcases he with rfl | rfl | rfl | rfl | rfl | rfl
    · exact hv _ _
    · exact hv _ _
    · exact hv _ _
    · exact hv _ _
    · exact hv _ _
    · split <;> simp)
  have a0 := ck_range (hz (ckN 4 mrk) (by simp))
  have a1 := ck_range (hz (ckN 1 code) (by simp))
  have a2 := ck_range (hz (ckN 4 han) (by simp))
  have a3 := ck_range (hz (ckN 1 kd) (by simp))
  have a4 := ck_range (hz (ckN 4 sz) (by simp))
  have a5 := hz (if 100 < m then 1 else 0) (by simp)
  refine ⟨by omega, by omega, by omega, by omega, by omega, ?_⟩
  split at a5 <;> omega
theorem fault_zeroR {mrk code han kd sz : Int} {m : Nat} {ns : List Byt} (h : faultR mrk code han kd sz m ns = 0) : headR mrk code han kd sz m = 0 ∧ ns.length ≤ 40 ∧ ns.all nameB = true := by
  unfold faultR at h
  by_cases h0 : headR mrk code han kd sz m = 0
  · rw [if_neg (by simpa using h0)] at h
    by_cases h4 : 40 < ns.length
    · rw [if_pos h4] at h; omega
    · rw [if_neg h4] at h
      refine ⟨h0, by omega, ?_⟩
      rcases hn : ns.all nameB with _ | _
      · rw [hn] at h; simp at h
      · rfl
  · rw [if_pos h0] at h; omega
theorem name_len {l : Byt} (h : nameB l = true) : l.length ≤ 16 := by
  rcases nameB_cases l true h with ⟨_, h⟩ | ⟨_, _, h⟩ | ⟨_, h⟩ | ⟨_, h⟩ | ⟨_, h, _⟩
  · cases h
  · cases h
  · cases h
  · cases h
  · exact h
theorem nmL_len {ns : List Byt} (h : ns.all nameB = true) : (nmL ns).length ≤ 18 * ns.length := by
  unfold nmL
  have := flat_le (ns.map fun s => enc (ofT s)) 18 (fun x hx => by
    obtain ⟨s, hs, rfl⟩ := List.mem_map.1 hx
    have := name_len (List.all_eq_true.1 h s hs)
    unfold enc
    rw [List.length_append, be_len, ofT_len]
    omega)
  rw [List.length_map] at this
  omega
theorem headL_len (mrk code han kd sz : Int) (zs : List Int) : (headL mrk code han kd sz zs).length = 16 + zs.length := by
  unfold headL enc
  simp only [List.length_append, be_len]
  omega

/-- what Answer answers -/
def RetAns (w : World) (x : Rpv) (e : Ending) (w' : World) : Prop :=
  Below w.heap.size w w' ∧
  if x.fault = 0 then ∃ A n c, e = .returned (.tuple #[.slice A n c, .int .i64 0]) ∧ OwnL byS 5 w' w.heap.size A n c x.bytes
  else e = .returned (.tuple #[.slice none 0 0, .int .i64 x.fault])
theorem Fre.low {w : World} {base : Nat} {A : Option Addr} {n c : Nat} {l : List Int} {e : TypeId} {p : Option Addr} (h : OwnL byS e w base A n c l) (hp : ∀ q, p = some q → q.block < base) : Fre (.slice A n c) p := fun q hq k hk e => by
  have h1 := (h.lt k hk).1
  have h2 := hp q hq
  omega
theorem Fre.high {w : World} {base : Nat} {A : Option Addr} {n c : Nat} {l : List Int} {e : TypeId} {p : Option Addr} (h : OwnL byS e w base A n c l) (hp : ∀ q, p = some q → w.heap.size ≤ q.block) : Fre (.slice A n c) p := fun q hq k hk e => by
  have h1 := (h.lt k hk).2
  have h2 := hp q hq
  omega
theorem lay1_any (B C : Nat) (P : Option Addr) (mrk code han kd sz : Int) (D : Option Addr) (m d : Nat) (zs : List Int) (N : Option Addr) (n c : Nat) (w : World) (r0 : 0 ≤ mrk ∧ mrk < 4294967296) (r1 : 0 ≤ code ∧ code < 256) (r2 : 0 ≤ han ∧ han < 4294967296) (r3 : 0 ≤ kd ∧ kd < 256) (r4 : 0 ≤ sz ∧ sz < 4294967296) (r5 : m ≤ 100)
    (hx : Bx 36 w B #[.int .i64 mrk, .int .i64 code, .int .i64 han, .int .i64 kd, .int .i64 sz, .slice D m d, .slice N n c]) (hc : Bx 3 w C #[.int .i64 code]) (hp : Ls ptS w P (rpParts B C)) (hd : Ls byS w D zs) (hdl : zs.length = m) (base : Nat) (hbase : base ≤ w.heap.size) :
    Calls Try.prog 28 #[.slice none 0 0, .slice P 6 6] w fun e w' => ∃ A N c, e = .returned (.slice A N c) ∧ OwnL byS 5 w' base A N c (headL mrk code han kd sz zs) ∧ Below base w w' := by
  have hfl : (([(.num (at_ B 0) 4, be 4 mrk), (.num (at_ C 0) 1, be 1 code), (.num (at_ B 2) 4, be 4 han), (.num (at_ B 3) 1, be 1 kd), (.num (at_ B 4) 4, be 4 sz), (.dat (at_ B 5), enc zs)] : List (Pt × List Int)).map Prod.snd).flatten = headL mrk code han kd sz zs := by
    simp [headL]
  refine (lay_any P 6 6 [(.num (at_ B 0) 4, be 4 mrk), (.num (at_ C 0) 1, be 1 code), (.num (at_ B 2) 4, be 4 han), (.num (at_ B 3) 1, be 1 kd), (.num (at_ B 4) 4, be 4 sz), (.dat (at_ B 5), enc zs)] base none 0 0 [] w hp rfl (by omega) (.inr (Fre.nil _ _ _)) ?_ (OwnL.nil _ _) hbase (by rw [hfl, List.nil_append, headL_len]; omega)).mono ?_
  · intro q hq
    simp only [List.mem_cons, List.not_mem_nil, or_false] at hq
    rcases hq with rfl | rfl | rfl | rfl | rfl | rfl
    · exact ⟨mrk, by omega, by omega, hx.lt, Fre.nil _ _ _, hx.cell 0 _ rfl, rfl⟩
    · exact ⟨code, by omega, by omega, hc.lt, Fre.nil _ _ _, hc.cell 0 _ rfl, rfl⟩
    · exact ⟨han, by omega, by omega, hx.lt, Fre.nil _ _ _, hx.cell 2 _ rfl, rfl⟩
    · exact ⟨kd, by omega, by omega, hx.lt, Fre.nil _ _ _, hx.cell 3 _ rfl, rfl⟩
    · exact ⟨sz, by omega, by omega, hx.lt, Fre.nil _ _ _, hx.cell 4 _ rfl, rfl⟩
    · exact ⟨D, m, d, zs, by omega, hx.lt, Fre.nil _ _ _, hx.cell 5 _ rfl, hd, hdl, .inr (Fre.nil _ _ _), rfl⟩
  · rintro e w' ⟨A, N, c, rfl, ho, hb, -⟩
    rw [hfl, List.nil_append] at ho
    exact ⟨A, N, c, rfl, ho, hb⟩
theorem lay2_any (K q : Nat) (v : Int) (base : Nat) (A : Option Addr) (n c : Nat) (l : List Int) (w : World) (h0 : 0 ≤ v) (h1 : v < 256) (hx : Bx 3 w K #[.int .i64 v]) (hK : K < base) (ho : OwnL byS 5 w base A n c l) (hbase : base ≤ w.heap.size) (hn : n ≤ 10000) (hq : w.heap.size ≤ q)
    (w1 : World) (hb1 : Below w.heap.size w w1) (hp : Ls ptS w1 (some ⟨q, 0, none⟩) [.num (at_ K 0) 1]) :
    Calls Try.prog 28 #[.slice A n c, .slice (some ⟨q, 0, none⟩) 1 1] w1 fun e w' => ∃ A N c, e = .returned (.slice A N c) ∧ OwnL byS 5 w' base A N c (l ++ be 1 v) ∧ Below base w1 w' := by
  have hl : l.length = n := ho.1
  refine (lay_any (some ⟨q, 0, none⟩) 1 1 [(.num (at_ K 0) 1, be 1 v)] base A n c l w1 hp rfl (by omega) (.inr (Fre.high ho fun x hx => by injection hx with hx; subst hx; exact hq)) ?_ (ho.below hb1) (Nat.le_trans hbase hb1.size) (by simp only [List.map_cons, List.map_nil, List.flatten_cons, List.flatten_nil, List.append_nil, List.length_append, be_len]; omega)).mono ?_
  · intro y hy
    simp only [List.mem_cons, List.not_mem_nil, or_false] at hy
    subst hy
    exact ⟨v, by omega, by omega, Nat.lt_of_lt_of_le hx.lt hb1.size, Fre.low ho (fun x hx => by injection hx with hx; subst hx; exact hK), (hx.below hb1).cell 0 _ rfl, rfl⟩
  · rintro e w' ⟨A, N, c, rfl, ho, hb, -⟩
    simp only [List.map_cons, List.map_nil, List.flatten_cons, List.flatten_nil, List.append_nil] at ho
    exact ⟨A, N, c, rfl, ho, hb⟩
theorem lay3_any (N : Option Addr) (b o : Nat) (ns : List Byt) (k d : Nat) (P : Option Addr) (base : Nat) (A : Option Addr) (n c : Nat) (l : List Int) (w : World) (hk : ns.length = k) (hk4 : k ≤ 40) (hall : ns.all nameB = true) (hN : Ls stS w N ns) (hNa : N = some ⟨b, o, none⟩ ∨ k = 0) (hNb : b < base ∨ k = 0) (ho : OwnL byS 5 w base A n c l) (hbase : base ≤ w.heap.size) (hn : n ≤ 10000)
    (w1 : World) (hb1 : Below w.heap.size w w1) (hp : OwnL ptS 74 w1 w.heap.size P k d (nmP b o k)) :
    Calls Try.prog 28 #[.slice A n c, .slice P k d] w1 fun e w' => ∃ A N c, e = .returned (.slice A N c) ∧ OwnL byS 5 w' base A N c (l ++ nmL ns) ∧ Below base w1 w' := by
  have hl : l.length = n := ho.1
  have hlen := nmL_len hall
  subst hk
  refine (lay_any P ns.length d (nmQ b o ns) base A n c l w1 (by rw [nmQ_fst]; exact hp.ls) (by unfold nmQ; simp) (by omega) (.inr (Fre.high ho fun x hx => by
    have h := hp.lt x.block (by rw [hx]; rfl)
    exact h.1)) ?_ (ho.below hb1) (Nat.le_trans hbase hb1.size) (by rw [nmQ_snd, List.length_append]; omega)).mono ?_
  · intro y hy
    unfold nmQ at hy
    obtain ⟨i, hi, rfl⟩ := List.mem_map.1 hy
    have hi' := List.mem_range.1 hi
    obtain ⟨b', o', hN', hlt, hc⟩ := hN.text i hi'
    have hNs := hNa.resolve_right (by omega)
    rw [hNs] at hN'
    injection hN' with hN'; injection hN' with e1 e2
    subst e1; subst e2
    refine ⟨ns.getD i [], ?_, Nat.lt_of_lt_of_le hlt hb1.size, Fre.low ho (fun x hx => by injection hx with hx; subst hx; exact hNb.resolve_right (by omega)), (hb1.cell (p := ⟨b, o + i, none⟩) hlt).trans hc, rfl⟩
    have := name_len (List.all_eq_true.1 hall (ns.getD i []) (getD_mem hi'))
    omega
  · rintro e w' ⟨A, N, c, rfl, ho, hb, -⟩
    rw [nmQ_snd] at ho
    exact ⟨A, N, c, rfl, ho, hb⟩
set_option maxRecDepth 100000 in
set_option maxHeartbeats 8000000 in
theorem answer_any (x : Rpv) (w : World) (hin : x.In w) (hn : x.n ≤ 140737488355328) :
    Calls Try.prog 16 #[.agg #[.int .i64 x.mrk, .int .i64 x.code, .int .i64 x.han, .int .i64 x.kd, .int .i64 x.sz, .slice x.D x.m x.d, .slice x.N x.n x.c]] w (RetAns w x) := by
  obtain ⟨w1, hw1⟩ : ∃ w1, w1 = w.alloc (.cells #[.int .i64 x.mrk, .int .i64 x.code, .int .i64 x.han, .int .i64 x.kd, .int .i64 x.sz, .slice x.D x.m x.d, .slice x.N x.n x.c] 36) := ⟨_, rfl⟩
  obtain ⟨B, hB⟩ : ∃ B, B = w.heap.size := ⟨_, rfl⟩
  have HB1 : Hid (Below w.heap.size w w1) := Lib.hid (by rw [hw1]; exact ba1 _ _)
  have HX : Hid (Bx 36 w1 B #[.int .i64 x.mrk, .int .i64 x.code, .int .i64 x.han, .int .i64 x.kd, .int .i64 x.sz, .slice x.D x.m x.d, .slice x.N x.n x.c]) := Lib.hid (by rw [hw1, hB]; exact bx_new _ _ _)
  have HBV : Hid (w.heap.size ≤ B) := Lib.hid (by omega)
  have HIN1 := Lib.hid (hin.below HB1.out)
  have HFT := Lib.hid (repFault_any x w1 HIN1.out hn)
  obtain ⟨v, hv⟩ : ∃ v, v = x.fault := ⟨_, rfl⟩
  rw [← hv] at HFT
  have HV := Lib.hid hv
  have lb := HX.out.lt
  have b0 : w1.cell? ⟨B, 0, none⟩ = some (.int .i64 x.mrk) := HX.out.cell 0 _ rfl
  have b1 : w1.cell? ⟨B, 1, none⟩ = some (.int .i64 x.code) := HX.out.cell 1 _ rfl
  have b2 : w1.cell? ⟨B, 2, none⟩ = some (.int .i64 x.han) := HX.out.cell 2 _ rfl
  have b3 : w1.cell? ⟨B, 3, none⟩ = some (.int .i64 x.kd) := HX.out.cell 3 _ rfl
  have b4 : w1.cell? ⟨B, 4, none⟩ = some (.int .i64 x.sz) := HX.out.cell 4 _ rfl
  have b5 : w1.cell? ⟨B, 5, none⟩ = some (.slice x.D x.m x.d) := HX.out.cell 5 _ rfl
  have b6 : w1.cell? ⟨B, 6, none⟩ = some (.slice x.N x.n x.c) := HX.out.cell 6 _ rfl
  clear hin hv
  go_enter Try.func16, Try.ntmps16
  go_upto_region 1 with fail
  rw [← hw1, ← hB]
  clear hw1 hB
  by_cases hv0 : v = 0
  · subst hv0
    have HF : Hid (x.fault = 0) := Lib.hid HV.out.symm
    obtain ⟨hh, h40, hall⟩ := fault_zeroR HF.out
    obtain ⟨r0, r1, r2, r3, r4, r5⟩ := head_zero hh
    have HALL := Lib.hid hall
    have HNL : Hid (x.ns.length = x.n) := Lib.hid HIN1.out.2.2
    have HML : Hid (x.zs.length = x.m) := Lib.hid HIN1.out.1.2
    clear hh hall
    go_upto_region 4 with (go_at_call 37; (with_reducible refine HFT.out.mono ?_); rintro e w2 ⟨rfl, hb2⟩; have HB2 := Lib.hid hb2; clear hb2)
    have HX2 := Lib.hid (HX.out.below HB2.out)
    have HIN2 := Lib.hid (HIN1.out.below HB2.out)
    have lb2 := HX2.out.lt
    have d1 : w2.cell? ⟨B, 1, none⟩ = some (.int .i64 x.code) := HX2.out.cell 1 _ rfl
    have d6 : w2.cell? ⟨B, 6, none⟩ = some (.slice x.N x.n x.c) := HX2.out.cell 6 _ rfl
    clear lb b0 b1 b2 b3 b4 b5 b6
    go_upto_region 5 with fail
    obtain ⟨w3, hw3⟩ : ∃ w3, w3 = (w2.alloc (.cells #[.int .i64 x.code] 3)).alloc (.cells #[.int .i64 (x.n : Int)] 3) := ⟨_, rfl⟩
    obtain ⟨K, hK⟩ : ∃ K, K = w2.heap.size + 1 := ⟨_, rfl⟩
    obtain ⟨C, hC⟩ : ∃ C, C = w2.heap.size := ⟨_, rfl⟩
    have HB3 : Hid (Below w2.heap.size w2 w3) := Lib.hid (by rw [hw3]; exact ba2 _ _ _)
    have HC3 : Hid (Bx 3 w3 C #[.int .i64 x.code]) := Lib.hid (by rw [hw3, hC]; exact (bx_new w2 _ _).below (ba1 _ _))
    have HK3 : Hid (Bx 3 w3 K #[.int .i64 (x.n : Int)]) := Lib.hid (by
      have := bx_new (w2.alloc (.cells #[.int .i64 x.code] 3)) 3 #[.int .i64 (x.n : Int)]
      rw [World.size_alloc] at this
      rw [hw3, hK]; exact this)
    have HX3 := Lib.hid (HX2.out.below HB3.out)
    have HIN3 := Lib.hid (HIN2.out.below HB3.out)
    have HBW3 : Hid (Below w.heap.size w w3) := Lib.hid (bthen HB1.out (bthen HB2.out HB3.out))
    rw [← hw3, ← hK, ← hC]
    obtain ⟨base, hbs⟩ : ∃ base, base = w3.heap.size := ⟨_, rfl⟩
    have HBS := Lib.hid hbs
    have HOF := Lib.hid (ofRep_any B C w3 HX3.out.lt HC3.out.lt)
    have hn4 : x.n ≤ 40 := by have := HNL.out; omega
    clear hw3 hC hK hbs d1 d6 lb2
    go_upto_region 6 with (first
      | (go_at_call 38; (with_reducible refine HOF.out.mono ?_); rintro e w4 ⟨hb4, P, rfl, ho4⟩; have HB4 := Lib.hid hb4; have HLY := Lib.hid (lay1_any B C P x.mrk x.code x.han x.kd x.sz x.D x.m x.d x.zs x.N x.n x.c w4 r0 r1 r2 r3 r4 r5 (HX3.out.below hb4) (HC3.out.below hb4) ho4.ls (HIN3.out.below hb4).1.1 HML.out base (by have := hb4.size; have := HBS.out; omega)); clear hb4 ho4)
      | (go_at_call 28; (with_reducible refine HLY.out.mono ?_); rintro e w5 ⟨A5, N5, c5, rfl, ho5, hb5⟩; have HO5 := Lib.hid ho5; have HB5 := Lib.hid hb5; clear ho5 hb5))
    have hN5 : N5 ≤ 116 := by
      have h := HO5.out.1
      rw [headL_len, HML.out] at h
      omega
    have HB35 : Hid (Below base w3 w5) := Lib.hid ((HB4.out.mono (by rw [HBS.out]; exact Nat.le_refl _)).trans HB5.out)
    have HK5 := Lib.hid (HK3.out.below (by rw [← HBS.out]; exact HB35.out))
    have hsz5 : base ≤ w5.heap.size := by have := HB35.out.size; have := HBS.out; omega
    have HKB : Hid (K < base) := Lib.hid (by have := HK3.out.lt; have := HBS.out; omega)
    obtain ⟨w6, hw6⟩ : ∃ w6, w6 = w5.alloc (.cells #[.iface 68 (.agg #[.pointer (some ⟨K, 0, none⟩), .int .i64 1])] 74) := ⟨_, rfl⟩
    have HB6 : Hid (Below w5.heap.size w5 w6) := Lib.hid (by rw [hw6]; exact ba1 _ _)
    have HLP : Hid (Ls ptS w6 (some ⟨w5.heap.size, 0, none⟩) [.num (at_ K 0) 1]) := Lib.hid (by rw [hw6]; exact ls_new w5 74 ([.num (at_ K 0) 1] : List Pt) _ rfl _ rfl)
    have HLY2 := Lib.hid (lay2_any K w5.heap.size (x.n : Int) base A5 N5 c5 _ w5 (by omega) (by omega) HK5.out HKB.out HO5.out hsz5 (by omega) (Nat.le_refl _) w6 HB6.out HLP.out)
    go_upto_region 7 with (rw [← hw6]; go_at_call 28; (with_reducible refine HLY2.out.mono ?_); rintro e w7 ⟨A7, N7, c7, rfl, ho7, hb7⟩; have HO7 := Lib.hid ho7; have HB7 := Lib.hid hb7; clear ho7 hb7)
    have hN7 : N7 ≤ 117 := by
      have h := HO7.out.1
      rw [List.length_append, headL_len, HML.out, be_len] at h
      omega
    have HB37 : Hid (Below base w3 w7) := Lib.hid (HB35.out.trans ((HB6.out.mono hsz5).trans HB7.out))
    have hsz7 : base ≤ w7.heap.size := by have := HB37.out.size; have := HBS.out; omega
    have hx7 := HX3.out.below (w' := w7) (by rw [← HBS.out]; exact HB37.out)
    have b6 : w7.cell? ⟨B, 6, none⟩ = some (.slice x.N x.n x.c) := hx7.cell 6 _ rfl
    have lb7 := hx7.lt
    have HIN7 := Lib.hid (HIN3.out.below (w' := w7) (by rw [← HBS.out]; exact HB37.out))
    obtain ⟨bN, oN, hNa, hNb⟩ : ∃ bN oN, (x.N = some ⟨bN, oN, none⟩ ∨ x.n = 0) ∧ (bN < base ∨ x.n = 0) := by
      by_cases h0 : x.n = 0
      · exact ⟨0, 0, .inr h0, .inr h0⟩
      · obtain ⟨b, o, h1, h2, -⟩ := HIN3.out.2.1.text 0 (by rw [HNL.out]; omega)
        exact ⟨b, o, .inl h1, .inl (by rw [HBS.out]; exact h2)⟩
    have HNA := Lib.hid hNa
    have HNB := Lib.hid hNb
    have HON := Lib.hid (ofNm_any x.N bN oN x.n x.c x.ns w7 HIN7.out.2.1 HNL.out (by omega) hNa)
    clear hNa hNb hx7 hw6
    go_wp2_with (first
      | (go_at_call 39; (with_reducible refine HON.out.mono ?_); rintro e w8 ⟨hb8, P8, d8, rfl, ho8⟩; have HB8 := Lib.hid hb8; have HLY3 := Lib.hid (lay3_any x.N bN oN x.ns x.n d8 P8 base A7 N7 c7 _ w7 HNL.out hn4 HALL.out HIN7.out.2.1 HNA.out HNB.out HO7.out hsz7 (by omega) w8 hb8 ho8); clear hb8 ho8)
      | (go_at_call 28; (with_reducible refine HLY3.out.mono ?_); rintro e w9 ⟨A9, N9, c9, rfl, ho9, hb9⟩; have HO9 := Lib.hid ho9; have HB9 := Lib.hid hb9; clear ho9 hb9))
    go_ret2
    have hbs : w.heap.size ≤ base := by have := HBW3.out.size; have := HBS.out; omega
    refine ⟨HBW3.out.trans ((HB37.out.mono hbs).trans ((HB8.out.mono (Nat.le_trans hbs hsz7)).trans (HB9.out.mono hbs))), ?_⟩
    rw [if_pos HF.out]
    refine ⟨A9, N9, c9, rfl, ?_⟩
    have h := HO9.out.base hbs
    unfold Rpv.bytes ansL
    rw [HNL.out]
    exact h
  · have hv1 : (v == 0) = false := by simpa using hv0
    have hv2 : (v != 0) = true := by simpa using hv0
    have HNZ : Hid (¬ x.fault = 0) := Lib.hid (by rw [← HV.out]; exact hv0)
    go_wp2_with (go_at_call 37; (with_reducible refine HFT.out.mono ?_); rintro e w2 ⟨rfl, hb2⟩; have HB2 := Lib.hid hb2; clear hb2)
    go_ret2
    refine ⟨bthen HB1.out HB2.out, ?_⟩
    rw [if_neg HNZ.out, ← HV.out]; rfl

end Go.Proofs.Ytelfnlocgknpjaa
