/-
  How parts are laid: a length, a text, bytes.
-/
import Derived.Test.YtelfnlocgknpjaaMPart
import Derived.Test.YtelfnlocgknpjaaMText
import Derived.Deep.RegionHeld3
import Derived.Deep.DeepCutAuto
namespace Go.Proofs.Ytelfnlocgknpjaa
open Go.RowKit
set_option linter.unusedVariables false
set_option linter.unusedSimpArgs false

theorem RetLay.new {base : Nat} {u : Value} {w w1 w' : World} {l : List Int} {e : Ending} (h : RetLay base u w1 l e w') (hb : Below w.heap.size w w1) (hbase : base ≤ w.heap.size) : RetLay base u w l e w' := by
  obtain ⟨A, N, c, h1, h2, h3, h4⟩ := h
  exact ⟨A, N, c, h1, h2, (hb.mono hbase).trans h3, (Beside.new hb).trans h4 hb.size⟩

theorem layLen_any (m : Nat) (base : Nat) (A : Option Addr) (n c : Nat) (l : List Int) (w : World) (hm : m ≤ 1000000) (ho : OwnL byS 5 w base A n c l) (hbase : base ≤ w.heap.size) (hn : n ≤ 100000) :
    Calls Try.prog 104 #[.slice A n c, .int .i64 m] w (RetLay base (.slice A n c) w (l ++ be 2 m)) := by
  obtain ⟨w1, hw1⟩ : ∃ w1, w1 = w.alloc (.cells #[.int .i64 m] 3) := ⟨_, rfl⟩
  have HB1 : Hid (Below w.heap.size w w1) := Lib.hid (by rw [hw1]; exact ba1 _ _)
  have HX : Hid (Bx 3 w1 w.heap.size #[.int .i64 m]) := Lib.hid (by rw [hw1]; exact bx_new _ _ _)
  have HO := Lib.hid (ho.below HB1.out)
  have HL := Lib.hid ho.lt
  clear ho
  go_enter Try.func104, Try.ntmps104
  go_wp2_with (rw [← hw1]; go_at_call 97; refine (numLay_any ⟨w.heap.size, 0, none⟩ 2 m base A n c l w1 (by omega) (by omega) (by omega) HX.out.lt (HX.out.cell 0 _ rfl) (fun q hq k hk e => by injection hq with hq; subst hq; have := (HL.out k hk).2; simp at e; omega) HO.out (Nat.le_trans hbase HB1.out.size) hn).mono ?_; intro e w2 h2; obtain ⟨A2, N2, c2, rfl, h3, h4, h5⟩ := h2.new HB1.out hbase; clear h2; have H3 := Lib.hid h3; have H4 := Lib.hid h4; have H5 := Lib.hid h5; clear h3 h4 h5)
  go_ret
  exact ⟨A2, N2, c2, rfl, H3.out, H4.out, H5.out⟩


/-- a text's bytes in a message, and those of bytes -/
def enc (l : List Int) : List Int := be 2 l.length ++ l
set_option maxHeartbeats 2000000 in
theorem txtLay_any (a : Addr) (s : Byt) (base : Nat) (A : Option Addr) (n c : Nat) (l : List Int) (w : World) (hs : s.length ≤ 100000) (ha : a.block < w.heap.size) (hc : w.cell? a = some (.string (tx s))) (hf : Fre (.slice A n c) (some a)) (ho : OwnL byS 5 w base A n c l) (hbase : base ≤ w.heap.size) (hn : n ≤ 100000) :
    Calls Try.prog 101 #[.agg #[.pointer (some a)], .slice A n c] w (RetLay base (.slice A n c) w (l ++ enc (ofT s))) := by
  obtain ⟨w1, hw1⟩ : ∃ w1, w1 = w.alloc (.cells #[.pointer (some a)] 78) := ⟨_, rfl⟩
  obtain ⟨B, hB⟩ : ∃ B, B = w.heap.size := ⟨_, rfl⟩
  have HB1 : Hid (Below w.heap.size w w1) := Lib.hid (by rw [hw1]; exact ba1 _ _)
  have HX : Hid (Bx 78 w1 B #[.pointer (some a)]) := Lib.hid (by rw [hw1, hB]; exact bx_new _ _ _)
  have HBV := Lib.hid hB
  have hln : l.length = n := ho.1
  have HO := Lib.hid (ho.below HB1.out)
  have HL := Lib.hid ho.lt
  have HF := Lib.hid hf
  have HSZ := Lib.hid (tx_size s)
  have h1 : w1.cell? a = some (.string (tx s)) := (HB1.out.cell (p := a) ha).trans hc
  have b0 : w1.cell? ⟨B, 0, none⟩ = some (.pointer (some a)) := HX.out.cell 0 _ rfl
  have hsz : (tx s).size = s.length := tx_size s
  have HE : Hid (l ++ be 2 (s.length : Nat) ++ ofT s = l ++ enc (ofT s)) := Lib.hid (by unfold enc; rw [ofT_len, List.append_assoc])
  have HLE : Hid ((l ++ be 2 (s.length : Nat)).length = n + 2) := Lib.hid (by rw [List.length_append, be_len, hln])
  have hlb := HX.out.lt
  clear ho hf hc hB
  go_enter Try.func101, Try.ntmps101
  go_upto_region 1 with fail
  rw [← hw1, ← HBV.out]
  clear hw1
  have HFB : Hid (Fre (.slice A n c) (some ⟨B, 0, none⟩)) := Lib.hid (fun q hq k hk e => by injection hq with hq; subst hq; have := (HL.out k hk).2; have := HBV.out; simp at e; omega)
  have HAZ : Hid (a.block < w1.heap.size) := Lib.hid (Nat.lt_of_lt_of_le ha HB1.out.size)
  go_region_held3 (fun w' => w'.cell? ⟨B, 0, none⟩ = some (.pointer (some a)) ∧ w'.cell? a = some (.string (tx s))) (first | (with_reducible exact ⟨m2, m3⟩) | (with_reducible exact ⟨m0, m1⟩) | (with_reducible exact ⟨b0, h1⟩) | go_keep) (first
    | (go_at_call 104; (refine (layLen_any s.length base A n c l w1.drew (by omega) (HO.out.below (Below.refl _ _).drew) (Nat.le_trans hbase HB1.out.size) hn).mono ?_); rintro e w2 ⟨A2, N2, c2, rfl, ho2, hb2, hs2⟩; obtain rfl : N2 = n + 2 := ho2.1.symm.trans HLE.out; have m0 := (hs2.cell ⟨B, 0, none⟩ hlb (HFB.out _ rfl)).trans b0; have m1 := (hs2.cell a HAZ.out (HF.out a rfl)).trans h1; have HO2 := Lib.hid ho2; have HB2 := Lib.hid hb2; have HS2 := Lib.hid hs2; have HFA2 := Lib.hid (HF.out.grow hs2 (fun q hq => by injection hq with hq; subst hq; exact HAZ.out)); have HFB2 := Lib.hid (HFB.out.grow hs2 (fun q hq => by injection hq with hq; subst hq; exact hlb)); clear ho2 hb2 hs2)
    | (refine wp_appT _ (.tmp 11) (.tmp 15) 22 9 5 rfl Try.underlying22 Try.underlying9 byInfo base A2 (n + 2) c2 _ (by simp [Act.eval, Act.put]) HO2.out s (by simp [Act.eval, Act.put]) (n + 2 + s.length) rfl (by omega) (Nat.le_trans hbase (Nat.le_trans HB1.out.size HB2.out.size)) ?_; intro A3 c3 w3 ho3 hb3 hs3; have m2 := (hs3.cell ⟨B, 0, none⟩ (Nat.lt_of_lt_of_le hlb HB2.out.size) (HFB2.out _ rfl)).trans m0; have m3 := (hs3.cell a (Nat.lt_of_lt_of_le HAZ.out HB2.out.size) (HFA2.out a rfl)).trans m1; have HO3 := Lib.hid ho3; have HB3 := Lib.hid hb3; have HS3 := Lib.hid hs3; clear ho3 hb3 hs3))
  go_wp2
  go_ret
  have h9 := HO3.out
  rw [HE.out] at h9
  have hz := HB1.out.size
  exact ⟨A3, _, c3, rfl, h9, ((HB1.out.mono hbase).trans ((Below.refl _ _).drew.trans HB2.out)).trans HB3.out, ((Beside.new HB1.out).trans ((Beside.new (Below.refl _ _).drew).trans HS2.out (Nat.le_refl _)) hz).trans HS3.out (Nat.le_trans hz HB2.out.size)⟩

set_option maxHeartbeats 2000000 in
theorem datLay_any (a : Addr) (D : Option Addr) (m d : Nat) (zs : List Int) (base : Nat) (A : Option Addr) (n c : Nat) (l : List Int) (w : World) (hm : m ≤ 100000) (ha : a.block < w.heap.size) (hc : w.cell? a = some (.slice D m d)) (hf : Fre (.slice A n c) (some a)) (hd : Ls byS w D zs) (hzl : zs.length = m) (hfd : zs = [] ∨ Fre (.slice A n c) D) (ho : OwnL byS 5 w base A n c l) (hbase : base ≤ w.heap.size) (hn : n ≤ 100000) :
    Calls Try.prog 107 #[.agg #[.pointer (some a)], .slice A n c] w (RetLay base (.slice A n c) w (l ++ enc zs)) := by
  obtain ⟨w1, hw1⟩ : ∃ w1, w1 = w.alloc (.cells #[.pointer (some a)] 81) := ⟨_, rfl⟩
  obtain ⟨B, hB⟩ : ∃ B, B = w.heap.size := ⟨_, rfl⟩
  have HB1 : Hid (Below w.heap.size w w1) := Lib.hid (by rw [hw1]; exact ba1 _ _)
  have HX : Hid (Bx 81 w1 B #[.pointer (some a)]) := Lib.hid (by rw [hw1, hB]; exact bx_new _ _ _)
  have HBV := Lib.hid hB
  have hln : l.length = n := ho.1
  have HO := Lib.hid (ho.below HB1.out)
  have HL := Lib.hid ho.lt
  have HF := Lib.hid hf
  have HD := Lib.hid (hd.below HB1.out)
  have HZL := Lib.hid hzl
  have HFD := Lib.hid hfd
  have h1 : w1.cell? a = some (.slice D m d) := (HB1.out.cell (p := a) ha).trans hc
  have b0 : w1.cell? ⟨B, 0, none⟩ = some (.pointer (some a)) := HX.out.cell 0 _ rfl
  have HE : Hid (l ++ be 2 (m : Nat) ++ zs = l ++ enc zs) := Lib.hid (by unfold enc; rw [hzl, List.append_assoc])
  have HLE : Hid ((l ++ be 2 (m : Nat)).length = n + 2) := Lib.hid (by rw [List.length_append, be_len, hln])
  have hlb := HX.out.lt
  have hsmall : n ≤ 100000 := hn
  clear ho hf hc hB hd hzl hfd
  go_enter Try.func107, Try.ntmps107
  go_upto_region 1 with fail
  rw [← hw1, ← HBV.out]
  clear hw1
  have HFB : Hid (Fre (.slice A n c) (some ⟨B, 0, none⟩)) := Lib.hid (fun q hq k hk e => by injection hq with hq; subst hq; have := (HL.out k hk).2; have := HBV.out; simp at e; omega)
  have HAZ : Hid (a.block < w1.heap.size) := Lib.hid (Nat.lt_of_lt_of_le ha HB1.out.size)
  go_region_held3 (fun w' => w'.cell? ⟨B, 0, none⟩ = some (.pointer (some a)) ∧ w'.cell? a = some (.slice D m d)) (first | (with_reducible exact ⟨m2, m3⟩) | (with_reducible exact ⟨m0, m1⟩) | (with_reducible exact ⟨b0, h1⟩) | go_keep) (first
    | (go_at_call 104; (refine (layLen_any m base A n c l w1.drew (by omega) (HO.out.below (Below.refl _ _).drew) (Nat.le_trans hbase HB1.out.size) hn).mono ?_); rintro e w2 ⟨A2, N2, c2, rfl, ho2, hb2, hs2⟩; obtain rfl : N2 = n + 2 := ho2.1.symm.trans HLE.out; have m0 := (hs2.cell ⟨B, 0, none⟩ hlb (HFB.out _ rfl)).trans b0; have m1 := (hs2.cell a HAZ.out (HF.out a rfl)).trans h1; have HO2 := Lib.hid ho2; have HB2 := Lib.hid hb2; have HS2 := Lib.hid hs2; have HFA2 := Lib.hid (HF.out.grow hs2 (fun q hq => by injection hq with hq; subst hq; exact HAZ.out)); have HFB2 := Lib.hid (HFB.out.grow hs2 (fun q hq => by injection hq with hq; subst hq; exact hlb)); have HD2 := Lib.hid ((HD.out.below (Below.refl _ _).drew).aside hs2 HFD.out hb2.size); clear ho2 hb2 hs2)
    | (refine wp_appL (F := byS) _ (.tmp 11) (.tmp 15) 22 rfl _ 1 Try.underlying22 byInfo rfl base A2 (n + 2) c2 _ (by simp [Act.eval, Act.put]) HO2.out D m d zs (by simp [Act.eval, Act.put]) HD2.out HZL.out (n + 2 + m) rfl (by omega) (by omega) (Nat.le_trans hbase (Nat.le_trans HB1.out.size HB2.out.size)) ?_; intro A3 c3 w3 ho3 hb3 hs3; have m2 := (hs3.cell ⟨B, 0, none⟩ (Nat.lt_of_lt_of_le hlb HB2.out.size) (HFB2.out _ rfl)).trans m0; have m3 := (hs3.cell a (Nat.lt_of_lt_of_le HAZ.out HB2.out.size) (HFA2.out a rfl)).trans m1; have HO3 := Lib.hid ho3; have HB3 := Lib.hid hb3; have HS3 := Lib.hid hs3; clear ho3 hb3 hs3))
  go_wp2
  go_ret
  have h9 := HO3.out
  rw [HE.out] at h9
  have hz := HB1.out.size
  exact ⟨A3, _, c3, rfl, h9, ((HB1.out.mono hbase).trans ((Below.refl _ _).drew.trans HB2.out)).trans HB3.out, ((Beside.new HB1.out).trans ((Beside.new (Below.refl _ _).drew).trans HS2.out (Nat.le_refl _)) hz).trans HS3.out (Nat.le_trans hz HB2.out.size)⟩

/-- a part whose bytes these are; it stands in no block of the row's -/
def PtAt (w : World) (u : Value) (l : List Int) : Pt → Prop
  | .num a k => ∃ v, k ≤ 4 ∧ (-9223372036854775808 ≤ v ∧ v ≤ 9223372036854775807) ∧ a.block < w.heap.size ∧ Fre u (some a) ∧ w.cell? a = some (.int .i64 v) ∧ l = be k v
  | .txt a => ∃ s : Byt, s.length ≤ 100000 ∧ a.block < w.heap.size ∧ Fre u (some a) ∧ w.cell? a = some (.string (tx s)) ∧ l = enc (ofT s)
  | .dat a => ∃ D m d zs, m ≤ 100000 ∧ a.block < w.heap.size ∧ Fre u (some a) ∧ w.cell? a = some (.slice D m d) ∧ Ls byS w D zs ∧ zs.length = m ∧ (zs = [] ∨ Fre u D) ∧ l = enc zs
theorem PtAt.aside {w w' : World} {u u' : Value} {l : List Int} {p : Pt} (h : PtAt w u l p) (hb : Beside u u' w w') (hs : w.heap.size ≤ w'.heap.size) : PtAt w' u' l p := by
  rcases p with ⟨a, k⟩ | a | a
  · obtain ⟨v, h1, h2, h3, h4, h5, h6⟩ := h
    exact ⟨v, h1, h2, Nat.lt_of_lt_of_le h3 hs, h4.grow hb (fun q hq => by injection hq with hq; subst hq; exact h3), (hb.cell a h3 (h4 a rfl)).trans h5, h6⟩
  · obtain ⟨s, h1, h3, h4, h5, h6⟩ := h
    exact ⟨s, h1, Nat.lt_of_lt_of_le h3 hs, h4.grow hb (fun q hq => by injection hq with hq; subst hq; exact h3), (hb.cell a h3 (h4 a rfl)).trans h5, h6⟩
  · obtain ⟨D, m, d, zs, h1, h3, h4, h5, h6, h7, h8, h9⟩ := h
    exact ⟨D, m, d, zs, h1, Nat.lt_of_lt_of_le h3 hs, h4.grow hb (fun q hq => by injection hq with hq; subst hq; exact h3), (hb.cell a h3 (h4 a rfl)).trans h5, h6.aside hb h8 hs, h7, h6.asideF hb h8, h9⟩
theorem PtAt.new {w w' : World} {u : Value} {l : List Int} {p : Pt} (h : PtAt w u l p) (hb : Below w.heap.size w w') : PtAt w' u l p := h.aside (Beside.new hb) hb.size
/-- the method of a part -/
def ptF : Pt → Nat
  | .num _ _ => 97
  | .txt _ => 101
  | .dat _ => 107
def ptT : Pt → Nat
  | .num _ _ => 68
  | .txt _ => 78
  | .dat _ => 81
def ptG : Pt → Value
  | .num a k => .agg #[.pointer (some a), .int .i64 k]
  | .txt a => .agg #[.pointer (some a)]
  | .dat a => .agg #[.pointer (some a)]
theorem ptV_is (p : Pt) : ptV p = .iface (ptT p) (ptG p) := by cases p <;> rfl
theorem lay_method (p : Pt) (w : World) : (method 200 (ptT p) (ptG p) "packthread/msg.lay").run Try.prog w = .ok (ptF p, ptG p) w := by
  cases p <;> kernel_rfl
/-- one part is laid -/
theorem ptLay_any (p : Pt) (y : List Int) (base : Nat) (A : Option Addr) (n c : Nat) (l : List Int) (w : World) (hp : PtAt w (.slice A n c) y p) (ho : OwnL byS 5 w base A n c l) (hbase : base ≤ w.heap.size) (hn : n ≤ 100000) :
    Calls Try.prog (ptF p) #[ptG p, .slice A n c] w (RetLay base (.slice A n c) w (l ++ y)) := by
  rcases p with ⟨a, k⟩ | a | a
  · obtain ⟨v, h1, h2, h3, h4, h5, rfl⟩ := hp
    exact numLay_any a k v base A n c l w h1 h2.1 h2.2 h3 h5 h4 ho hbase hn
  · obtain ⟨s, h1, h3, h4, h5, rfl⟩ := hp
    exact txtLay_any a s base A n c l w h1 h3 h5 h4 ho hbase hn
  · obtain ⟨D, m, d, zs, h1, h3, h4, h5, h6, h7, h8, rfl⟩ := hp
    exact datLay_any a D m d zs base A n c l w h1 h3 h5 h4 h6 h7 h8 ho hbase hn

/-- the round of parts -/
def LayI (w : World) (base : Nat) (u : Value) (l : List Int) (qs : List (Pt × List Int)) (o i : Value) (wr : World) : Prop :=
  ∃ (j : Nat) (A : Option Addr) (N c : Nat), j ≤ qs.length ∧ i = .int .i64 j ∧ o = .slice A N c ∧ OwnL byS 5 wr base A N c (l ++ ((qs.take j).map Prod.snd).flatten) ∧ Below base w wr ∧ Beside u (.slice A N c) w wr
set_option maxHeartbeats 2000000 in
theorem lay_any (P : Option Addr) (k d : Nat) (qs : List (Pt × List Int)) (base : Nat) (A : Option Addr) (n c : Nat) (l : List Int) (w : World) (hp : Ls ptS w P (qs.map Prod.fst)) (hk : qs.length = k) (hk2 : k ≤ 1000) (hfp : qs = [] ∨ Fre (.slice A n c) P) (hat : ∀ q ∈ qs, PtAt w (.slice A n c) q.2 q.1) (ho : OwnL byS 5 w base A n c l) (hbase : base ≤ w.heap.size) (hn : (l ++ (qs.map Prod.snd).flatten).length ≤ 100000) :
    Calls Try.prog 28 #[.slice A n c, .slice P k d] w (RetLay base (.slice A n c) w (l ++ (qs.map Prod.snd).flatten)) := by
  have HP := Lib.hid hp
  have HK := Lib.hid hk
  have HF := Lib.hid hfp
  have HA := Lib.hid hat
  have HO := Lib.hid ho
  have HN := Lib.hid hn
  clear hp hk hfp hat ho hn
  go_enter Try.func28, Try.ntmps28
  go_wp2_with fail
  go_loopw [0, 9] (fun o i wr => LayI w base (.slice A n c) l qs o i wr) (fun _ i _ => k - (intOf i).toNat)
  case atStart => exact ⟨0, A, n, c, Nat.zero_le _, rfl, rfl, by simpa using HO.out, Below.refl _ _, Beside.new (Below.refl _ _)⟩
  case round =>
    obtain ⟨j, A2, N, c2, hj, rfl, rfl, ho2, hb2, hs2⟩ := hrel
    rw [HK.out] at hj
    have HO2 := Lib.hid ho2
    have HB2 := Lib.hid hb2
    have HS2 := Lib.hid hs2
    clear ho2 hb2 hs2
    by_cases hlt : j < k
    · have hji : decide ((j : Int) < (k : Int)) = true := by simp; omega
      obtain ⟨q, hq⟩ : ∃ q, qs[j]? = some q := ⟨_, List.getElem?_eq_getElem (by rw [HK.out]; exact hlt)⟩
      obtain ⟨p, y⟩ := q
      have hz2 := HB2.out.size
      have hp0 : (qs.map Prod.fst)[j]? = some p := by rw [List.getElem?_map, hq]; rfl
      have hf0 : qs.map Prod.fst = [] ∨ Fre (.slice A n c) P := HF.out.imp (fun h => by rw [h]; rfl) id
      obtain ⟨b, o, hP, hbl, hcc⟩ := (HP.out.aside HS2.out hf0 hz2).at j p hp0
      subst hP
      have f0 := hcc 0 (ptV p) rfl
      simp only [ptS, Nat.add_zero, Nat.mul_one] at f0
      have HAT : Hid (PtAt wr (.slice A2 N c2) y p) := Lib.hid ((HA.out _ (List.mem_of_getElem? hq)).aside HS2.out hz2)
      have HT : Hid (l ++ ((qs.take (j + 1)).map Prod.snd).flatten = l ++ ((qs.take j).map Prod.snd).flatten ++ y) := Lib.hid (by rw [List.take_add_one, hq, List.map_append, List.flatten_append, List.append_assoc]; simp)
      have HBZ : Hid (base ≤ wr.heap.size) := Lib.hid (Nat.le_trans hbase hz2)
      have HNN : Hid (N ≤ 100000) := Lib.hid (by
        have h1 := HO2.out.1
        have h2 := HN.out
        have h3 : (l ++ ((qs.take j).map Prod.snd).flatten).length ≤ (l ++ (qs.map Prod.snd).flatten).length := by
          conv => rhs; rw [← List.take_append_drop j qs, List.map_append, List.flatten_append]
          simp only [List.length_append]; omega
        omega)
      clear hcc hq hp0 hf0 hbase
      rcases p with ⟨a, k1⟩ | a | a
      · have hm : ∀ w, (method 200 68 (.agg #[.pointer (some a), .int .i64 k1]) "packthread/msg.lay").run Try.prog w = .ok (97, .agg #[.pointer (some a), .int .i64 k1]) w := fun w => by kernel_rfl
        simp only [ptV] at f0
        go_wp2_with (go_at_call 97; refine (ptLay_any (.num a k1) y base A2 N c2 _ wr HAT.out HO2.out HBZ.out HNN.out).mono ?_; rintro e w3 ⟨A3, N3, c3, rfl, ho3, hb3, hs3⟩; have HO3 := Lib.hid ho3; have HB3 := Lib.hid hb3; have HS3 := Lib.hid hs3; clear ho3 hb3 hs3)
        exact ⟨⟨j + 1, A3, N3, c3, by have := HK.out; omega, by go_num, rfl, by rw [HT.out]; exact HO3.out, HB2.out.trans HB3.out, HS2.out.trans HS3.out HB2.out.size⟩, by simp [intOf]; omega⟩
      · have hm : ∀ w, (method 200 78 (.agg #[.pointer (some a)]) "packthread/msg.lay").run Try.prog w = .ok (101, .agg #[.pointer (some a)]) w := fun w => by kernel_rfl
        simp only [ptV] at f0
        go_wp2_with (go_at_call 101; refine (ptLay_any (.txt a) y base A2 N c2 _ wr HAT.out HO2.out HBZ.out HNN.out).mono ?_; rintro e w3 ⟨A3, N3, c3, rfl, ho3, hb3, hs3⟩; have HO3 := Lib.hid ho3; have HB3 := Lib.hid hb3; have HS3 := Lib.hid hs3; clear ho3 hb3 hs3)
        exact ⟨⟨j + 1, A3, N3, c3, by have := HK.out; omega, by go_num, rfl, by rw [HT.out]; exact HO3.out, HB2.out.trans HB3.out, HS2.out.trans HS3.out HB2.out.size⟩, by simp [intOf]; omega⟩
      · have hm : ∀ w, (method 200 81 (.agg #[.pointer (some a)]) "packthread/msg.lay").run Try.prog w = .ok (107, .agg #[.pointer (some a)]) w := fun w => by kernel_rfl
        simp only [ptV] at f0
        go_wp2_with (go_at_call 107; refine (ptLay_any (.dat a) y base A2 N c2 _ wr HAT.out HO2.out HBZ.out HNN.out).mono ?_; rintro e w3 ⟨A3, N3, c3, rfl, ho3, hb3, hs3⟩; have HO3 := Lib.hid ho3; have HB3 := Lib.hid hb3; have HS3 := Lib.hid hs3; clear ho3 hb3 hs3)
        exact ⟨⟨j + 1, A3, N3, c3, by have := HK.out; omega, by go_num, rfl, by rw [HT.out]; exact HO3.out, HB2.out.trans HB3.out, HS2.out.trans HS3.out HB2.out.size⟩, by simp [intOf]; omega⟩
    · have hji : decide ((j : Int) < (k : Int)) = false := by simp; omega
      obtain rfl : j = k := by omega
      go_wp2_with fail
      go_ret
      have h1 := HO2.out
      rw [List.take_of_length_le (by rw [HK.out]; exact Nat.le_refl _)] at h1
      exact ⟨A2, N, c2, rfl, h1, HB2.out, HS2.out⟩

end Go.Proofs.Ytelfnlocgknpjaa
