/-
  How parts are taken: a text, bytes, all of them.
-/
import Derived.Test.YtelfnlocgknpjaaMTake
import Derived.Test.YtelfnlocgknpjaaMText
import Derived.Laws.BytesArg
namespace Go.Proofs.Ytelfnlocgknpjaa
open Go.RowKit
set_option linter.unusedVariables false
set_option linter.unusedSimpArgs false

theorem kin_add (A : Option Addr) (m : Nat) : Kin A (A.map fun x => x.add m) := fun S h a ha => by
  rcases A with _ | x
  · cases ha
  · injection ha with ha
    subst ha
    have : (x.add m).block = x.block := by unfold Addr.add; split <;> rfl
    rw [this]; exact h x rfl
theorem ls_add {w : World} {A : Option Addr} {l : List Int} (h : Ls byS w A l) (m : Nat) : Ls byS w (A.map fun x => x.add m) (l.drop m) := by
  rcases l with _ | ⟨x, r⟩
  · rw [List.drop_nil]; exact Ls.nil _ _
  · obtain ⟨b, o, rfl, -, -⟩ := h.at 0 x rfl
    show Ls byS w (some (Addr.add ⟨b, o, .none⟩ m)) _
    rw [addr_add]; exact h.drop1 rfl m
/-- one number in a box of its own -/
def OneI (C : Nat) (w : World) (σ : Nat → PV) : Prop := ∃ v, σ 0 = .n v ∧ Bx 3 w C #[.int .i64 v]
theorem one_fm (C : Nat) : Fm (· = C) [.num ⟨C, 0, none⟩ 2] (OneI C) where
  mem := fun i p h => by
    rcases i with _ | i
    · injection h with h; subst h; exact ⟨rfl, rfl⟩
    · simp at h
  get := fun w σ i p hI h => by
    obtain ⟨v, h1, h2⟩ := hI
    rcases i with _ | i
    · injection h with h; subst h
      exact ⟨h2.lt, by rw [h1]; exact h2.cell 0 _ rfl, h2.soft 0, by rw [h1]; trivial⟩
    · simp at h
  put := fun w σ i p v hI h hf _ => by
    obtain ⟨v0, h1, h2⟩ := hI
    rcases i with _ | i
    · injection h with h; subst h
      rcases v with v | s | _
      · exact ⟨v, upd_same _ _ _, h2.set 0 _⟩
      · cases hf
      · cases hf
    · simp at h
  new := fun w w' σ hI hb => by
    obtain ⟨v, h1, h2⟩ := hI
    exact ⟨v, h1, h2.below hb⟩
/-- bytes whose length stands ahead of them, and those behind -/
def splT (zs : List Int) : Option (List Int × List Int) :=
  if zs.length < 2 then none else
  if (zs.length - 2 : Nat) < (val (zs.take 2)).toNat then none else
  some ((zs.drop 2).take (val (zs.take 2)).toNat, (zs.drop 2).drop (val (zs.take 2)).toNat)
def RetSp (w : World) (A0 : Option Addr) (r : Option (List Int × List Int)) (e : Ending) (w' : World) : Prop :=
  Below w.heap.size w w' ∧
  match r with
  | none => e = .returned (.tuple #[.slice none 0 0, .slice none 0 0, .bool false])
  | some (xs, ys) => ∃ A n c B m d, e = .returned (.tuple #[.slice A n c, .slice B m d, .bool true]) ∧ n = xs.length ∧ n ≤ c ∧ c ≤ 9223372036854775807 ∧ Ls byS w' A xs ∧ Kin A0 A ∧ m = ys.length ∧ m ≤ d ∧ d ≤ 9223372036854775807 ∧ Ls byS w' B ys ∧ Kin A0 B
set_option maxHeartbeats 4000000 in
theorem split_any (A : Option Addr) (n c : Nat) (zs : List Int) (w : World) (hs : Ls byS w A zs) (hl : zs.length = n) (hc : n ≤ c) (hc2 : c ≤ 9223372036854775807) (ho : Oct zs) (hA : ∀ q, A = some q → q.block < w.heap.size) :
    Calls Try.prog 105 #[.slice A n c] w (RetSp w A (splT zs)) := by
  obtain ⟨w1, hw1⟩ : ∃ w1, w1 = w.alloc (.cells #[.int .i64 0] 3) := ⟨_, rfl⟩
  obtain ⟨C, hC⟩ : ∃ C, C = w.heap.size := ⟨_, rfl⟩
  have HB1 : Hid (Below w.heap.size w w1) := Lib.hid (by rw [hw1]; exact ba1 _ _)
  have HX : Hid (Bx 3 w1 C #[.int .i64 0]) := Lib.hid (by rw [hw1, hC]; exact bx_new _ _ _)
  have HCV := Lib.hid hC
  have HS1 := Lib.hid (hs.below HB1.out)
  have HL := Lib.hid hl
  have HO := Lib.hid ho
  have HA : Hid (Clear (· = C) A) := Lib.hid (fun q hq e => by have := hA q hq; omega)
  clear hs hl ho hC
  go_enter Try.func105, Try.ntmps105
  go_upto_region 2 with fail
  rw [← hw1, ← HCV.out]
  clear hw1
  by_cases h2 : n < 2
  · have HR : Hid (splT zs = none) := Lib.hid (by unfold splT; rw [if_pos (by rw [HL.out]; exact h2)])
    go_wp2_with (go_at_call 98; refine (numTake_any (one_fm C) 0 C 0 2 rfl (by omega) A n c zs w1 (fun _ => .n 0) ⟨0, rfl, HX.out⟩ HS1.out HL.out hc hc2 HA.out HO.out).mono ?_; rw [if_pos h2]; rintro e w2 ⟨rfl, h3, σ, h4⟩; have H3 := Lib.hid h3; clear h3)
    go_ret3
    rw [HR.out]
    exact ⟨HB1.out.trans (H3.out.below (fun k hk => by have := HCV.out; omega) HB1.out.size), rfl⟩
  · have HM : Hid (0 ≤ val (zs.take 2) ∧ val (zs.take 2) < 65536) := Lib.hid (val_bound 2 (zs.take 2) (by rw [List.length_take, HL.out]; omega) (fun z hz => HO.out z (List.mem_of_mem_take hz)))
    obtain ⟨m, hm⟩ : ∃ m : Nat, (m : Int) = val (zs.take 2) := ⟨(val (zs.take 2)).toNat, by have := HM.out; omega⟩
    have HMT : Hid ((val (zs.take 2)).toNat = m) := Lib.hid (by omega)
    have HMV := Lib.hid hm
    have hm6 : m < 65536 := by have := HM.out; omega
    have HDL : Hid ((zs.drop 2).length = n - 2) := Lib.hid (by rw [List.length_drop, HL.out])
    clear hm
    go_upto_region 3 with (go_at_call 98; refine (numTake_any (one_fm C) 0 C 0 2 rfl (by omega) A n c zs w1 (fun _ => .n 0) ⟨0, rfl, HX.out⟩ HS1.out HL.out hc hc2 HA.out HO.out).mono ?_; rw [if_neg h2]; rintro e w2 ⟨A2, n2, c2, rfl, h3, h4, h5, h6, h7, h8, h9⟩; have H3 := Lib.hid h3; have H6 := Lib.hid h6; have H7 := Lib.hid h7; have H8 := Lib.hid h8; have H9 := Lib.hid h9; clear h3 h6 h7 h8 h9)
    obtain rfl : n2 = n - 2 := H3.out.trans HDL.out
    obtain ⟨v, hv, hx⟩ := H9.out
    rw [upd_same] at hv
    injection hv with hv
    rw [← hv, ← HMV.out] at hx
    have c0 := hx.cell 0 (.int .i64 m) rfl
    have lc := hx.lt
    have HBW : Hid (Below w.heap.size w w2) := Lib.hid (HB1.out.trans (H8.out.below (fun k hk => by have := HCV.out; omega) HB1.out.size))
    clear hx hv v
    by_cases hlt : n - 2 < m
    · have HR : Hid (splT zs = none) := Lib.hid (by unfold splT; rw [if_neg (by rw [HL.out]; exact h2), if_pos (by rw [HL.out, HMT.out]; exact hlt)])
      have hi : decide (((n - 2 : Nat) : Int) < (m : Int)) = true := by simp; omega
      go_wp2_with fail
      go_ret3
      rw [HR.out]
      exact ⟨HBW.out, rfl⟩
    · have HR : Hid (splT zs = some ((zs.drop 2).take m, (zs.drop 2).drop m)) := Lib.hid (by unfold splT; rw [if_neg (by rw [HL.out]; exact h2), if_neg (by rw [HL.out, HMT.out]; exact hlt), HMT.out])
      have hi : decide (((n - 2 : Nat) : Int) < (m : Int)) = false := by simp; omega
      have HZ : Hid ((zs.drop 2).drop m = [] ∨ ¬ c2 = m) := Lib.hid (by
        by_cases e : c2 = m
        · exact .inl (List.eq_nil_of_length_eq_zero (by rw [List.length_drop, HDL.out]; omega))
        · exact .inr e)
      have HTL : Hid (((zs.drop 2).take m).length = m) := Lib.hid (by rw [List.length_take, HDL.out]; omega)
      have HDM : Hid (((zs.drop 2).drop m).length = n - 2 - m) := Lib.hid (by rw [List.length_drop, HDL.out])
      go_wp2_with fail
      go_region
      all_goals
        go_wp2_with fail
      all_goals
        go_ret3
        rw [HR.out]
        first
          | (refine ⟨HBW.out.drew, _, _, _, _, _, _, rfl, HTL.out.symm, by omega, by omega, (H6.out.below (Below.refl _ _).drew).take m, H7.out, HDM.out.symm, by omega, by omega, (ls_add H6.out m).below (Below.refl _ _).drew, H7.out.trans (kin_add A2 m)⟩)
          | (refine ⟨HBW.out.drew, _, _, _, _, _, _, rfl, HTL.out.symm, by omega, by omega, (H6.out.below (Below.refl _ _).drew).take m, H7.out, HDM.out.symm, by omega, by omega, ?_, H7.out⟩
             rcases HZ.out with g | g
             · rw [g]; exact Ls.nil _ _
             · exact absurd (by assumption) g)

/-- the text of bytes -/
def toT (xs : List Int) : Byt := xs.map fun n => UInt8.ofNat n.toNat
theorem conv_text (A : Option Addr) (n c : Nat) (xs : List Int) (w : World) (hs : Ls byS w A xs) (hl : xs.length = n) : (convert 22 9 (.slice A n c)).run Try.prog w = .ok (.string (tx (toT xs))) w := by
  rcases A with _ | a
  · have : xs = [] := by
      rcases xs with _ | ⟨x, r⟩
      · rfl
      · obtain ⟨b, o, h, -, -⟩ := hs.at 0 x rfl; cases h
    subst this
    rw [run_convert_bytes_nil w 22 5 Try.underlying22 Try.underlying5 n c 9 Try.underlying9]
    rfl
  · rcases xs with _ | ⟨x, r⟩
    · obtain rfl : n = 0 := hl.symm
      rw [run_convert_bytes_string w 22 9 5 (some a) 0 c Try.underlying22 Try.underlying5 Try.underlying9, run_bytesToString w a 0 c [] (by rfl)]
      rfl
    · obtain ⟨b, o, h, -, -⟩ := hs.at 0 x rfl
      rw [h] at hs ⊢
      have hcell : ∀ i, i < n → w.cell? ⟨b, o + i, none⟩ = some (.int .u8 ((x :: r).getD i 0)) := fun i hi => by
        obtain ⟨b', o', h', -, hc⟩ := hs.at i ((x :: r).getD i 0) (by rw [List.getD_eq_getElem?_getD, List.getElem?_eq_getElem (by omega)]; rfl)
        injection h' with h'; injection h' with e1 e2
        subst e1; subst e2
        have := hc 0 _ rfl
        simpa [byS] using this
      have hst : tx (toT (x :: r)) = strOfNums (x :: r) := rfl
      rw [hst]
      generalize x :: r = xs at hl hcell
      exact run_convert_bytes_arg w 22 5 Try.underlying22 Try.underlying5 b o n c xs hl hcell 9 Try.underlying9

set_option maxHeartbeats 4000000 in
theorem txtTake_any {T : Nat → Prop} {ps : List Pt} {I : World → (Nat → PV) → Prop} (fm : Fm T ps I) (i q o : Nat) (hp : ps[i]? = some (.txt ⟨q, o, none⟩)) (A : Option Addr) (n c : Nat) (zs : List Int) (w : World) (σ : Nat → PV) (hI : I w σ)
    (hs : Ls byS w A zs) (hl : zs.length = n) (hc : n ≤ c) (hc2 : c ≤ 9223372036854775807) (hA : Clear T A) (ho : Oct zs) (hAl : ∀ q, A = some q → q.block < w.heap.size) :
    Calls Try.prog 102 #[.agg #[.pointer (some ⟨q, o, none⟩)], .slice A n c] w
      (RetTk T I w A ((splT zs).map fun r => (r.2, upd σ i (.t (toT r.1))))) := by
  obtain ⟨w1, hw1⟩ : ∃ w1, w1 = w.alloc (.cells #[.pointer (some ⟨q, o, none⟩)] 78) := ⟨_, rfl⟩
  obtain ⟨B, hB⟩ : ∃ B, B = w.heap.size := ⟨_, rfl⟩
  have HB1 : Hid (Below w.heap.size w w1) := Lib.hid (by rw [hw1]; exact ba1 _ _)
  have HX : Hid (Bx 78 w1 B #[.pointer (some ⟨q, o, none⟩)]) := Lib.hid (by rw [hw1, hB]; exact bx_new _ _ _)
  have HBV := Lib.hid hB
  have HS1 := Lib.hid (hs.below HB1.out)
  have HI1 := Lib.hid (fm.new _ _ _ hI HB1.out)
  have hq : q < B := by rw [hB]; exact (fm.get w σ i _ hI hp).1
  have HFM := Lib.hid fm
  have HP := Lib.hid hp
  have hTq : Hid (T q) := Lib.hid (fm.mem i _ hp).1
  have HA := Lib.hid hA
  have HL := Lib.hid hl
  have HO := Lib.hid ho
  have HAl : Hid (∀ q, A = some q → q.block < w1.heap.size) := Lib.hid (fun q hq => Nat.lt_of_lt_of_le (hAl q hq) HB1.out.size)
  have hqB : ¬ q = B := by omega
  have hBq : ¬ B = q := by omega
  clear hI hs fm hp hl ho hAl hB
  go_enter Try.func102, Try.ntmps102
  go_upto_region 1 with fail
  rw [← hw1, ← HBV.out]
  clear hw1
  rcases hr : splT zs with _ | ⟨xs, ys⟩
  · have HR := Lib.hid hr
    go_upto_region 2 with (go_at_call 105; refine (split_any A n c zs w1 HS1.out HL.out hc hc2 HO.out HAl.out).mono ?_; rw [hr]; rintro e w2 ⟨h2, rfl⟩; have HB2 := Lib.hid h2; clear h2)
    have hx2 := HX.out.below HB2.out
    have b0 := hx2.cell 0 (.pointer (some ⟨q, o, none⟩)) rfl
    have lB := hx2.lt
    have HI2 := Lib.hid (HFM.out.new _ _ _ HI1.out HB2.out)
    obtain ⟨g1, g2, g3, -⟩ := HFM.out.get w2 _ i _ HI2.out HP.out
    simp only [Pt.adr] at g1 g2 g3
    have hcv := conv_text none 0 0 [] w2 (Ls.nil _ _) rfl
    clear hx2
    go_wp2_with fail
    go_ret2
    rw [HR.out]
    exact ⟨rfl, ((only_new HB1.out).new HB2.out).setCell (.inl hTq.out) _, _, HFM.out.put w2 _ i _ (.t []) HI2.out HP.out trivial trivial⟩
  · have HR := Lib.hid hr
    go_upto_region 2 with (go_at_call 105; refine (split_any A n c zs w1 HS1.out HL.out hc hc2 HO.out HAl.out).mono ?_; rw [hr]; rintro e w2 ⟨h2, A2, n2, c2, A3, n3, c3, rfl, d1, d2, d3, d4, d5, d6, d7, d8, d9, d10⟩; have HB2 := Lib.hid h2; have D1 := Lib.hid d1; have D4 := Lib.hid d4; have D6 := Lib.hid d6; have D9 := Lib.hid d9; have D10 := Lib.hid d10; clear h2 d1 d4 d5 d6 d9 d10)
    have hx2 := HX.out.below HB2.out
    have b0 := hx2.cell 0 (.pointer (some ⟨q, o, none⟩)) rfl
    have lB := hx2.lt
    have HI2 := Lib.hid (HFM.out.new _ _ _ HI1.out HB2.out)
    obtain ⟨g1, g2, g3, -⟩ := HFM.out.get w2 _ i _ HI2.out HP.out
    simp only [Pt.adr] at g1 g2 g3
    have hcv := conv_text A2 n2 c2 xs w2 D4.out D1.out.symm
    clear hx2
    go_wp2_with fail
    go_ret2
    rw [HR.out]
    have hon : Only T w (w2.setCell ⟨q, o, none⟩ (.string (tx (toT xs)))) := ((only_new HB1.out).new HB2.out).setCell (.inl hTq.out) _
    have hTA : Clear T A3 := D10.out T HA.out
    exact ⟨A3, n3, c3, rfl, D6.out, d7, d8, D9.out.only ((Only.refl T w2).setCell (.inl hTq.out) _) hTA, D10.out, hon, HFM.out.put w2 _ i _ (.t (toT xs)) HI2.out HP.out trivial trivial⟩

/-- bytes.Clone of any list -/
theorem clone_any (A : Option Addr) (n c : Nat) (xs : List Int) (w : World) (hs : Ls byS w A xs) (hl : xs.length = n) (hm : n ≤ 100000000) (h0 : A = none → n = 0) :
    Calls Try.prog 110 #[.slice A n c] w fun e w' => ∃ A' c', e = .returned (.slice A' n c') ∧ OwnL byS 5 w' w.heap.size A' n c' xs ∧ Below w.heap.size w w' := by
  have HB := Lib.hid hs
  have HN := Lib.hid hl
  clear hs hl
  rcases A with _ | a
  · obtain rfl : n = 0 := h0 rfl
    have hnil : ∀ w : World, (binOp .eql 22 (.slice none 0 c) (.slice none 0 0)).run Try.prog w = .ok (.bool true) w := fun w => Lib.run_eql_slice_nil w 22 5 none 0 c 0 0 Try.underlying22
    go_enter Try.func110, Try.ntmps110
    go_wp2
    go_ret
    have : xs = [] := List.eq_nil_of_length_eq_zero HN.out
    subst this
    exact ⟨none, 0, rfl, OwnL.nil _ _, Below.refl _ _⟩
  · go_enter Try.func110, Try.ntmps110
    have hnil : ∀ w : World, (binOp .eql 22 (.slice (some a) n c) (.slice none 0 0)).run Try.prog w = .ok (.bool false) w := fun w => Lib.run_eql_slice_nil w 22 5 (some a) n c 0 0 Try.underlying22
    go_wp2_with (at_builtin; refine wpList_appL (F := byS) rfl _ (.tmp 5) (.tmp 6) 22 rfl _ 1 Try.underlying22 byInfo rfl w.heap.size (some ⟨w.heap.size, 0, none⟩) 0 0 [] rfl (ownL_new w w.heap.size (Nat.le_refl _) [] 0 _ rfl rfl (by omega) _ rfl) (some a) n c xs rfl (HB.out.below (ba1 _ _)) HN.out n (by omega) (by omega) (by omega) (by simp) ?_; intro A5 c5 w5 ho5 hb5 _; have O5 := Lib.hid ho5; have HB5 := Lib.hid ((ba1 w (.cells #[] 5)).trans hb5); clear ho5 hb5)
    go_ret
    exact ⟨A5, c5, rfl, by simpa using O5.out, HB5.out⟩
theorem ls_none {w : World} {l : List Int} (h : Ls byS w none l) : l = [] := by
  rcases l with _ | ⟨x, r⟩
  · rfl
  · obtain ⟨b, o, h, -, -⟩ := h.at 0 x rfl; cases h

theorem splT_len {zs xs ys : List Int} (ho : Oct zs) (h : splT zs = some (xs, ys)) : xs.length ≤ 65536 := by
  unfold splT at h
  split at h
  · cases h
  · split at h
    · cases h
    · injection h with h
      injection h with h1 h2
      rw [← h1, List.length_take]
      rename_i g1 g2
      have := val_bound 2 (zs.take 2) (by rw [List.length_take]; omega) (fun z hz => ho z (List.mem_of_mem_take hz))
      omega

set_option maxHeartbeats 4000000 in
theorem datTake_any {T : Nat → Prop} {ps : List Pt} {I : World → (Nat → PV) → Prop} (fm : Fm T ps I) (i q o : Nat) (hp : ps[i]? = some (.dat ⟨q, o, none⟩)) (A : Option Addr) (n c : Nat) (zs : List Int) (w : World) (σ : Nat → PV) (hI : I w σ)
    (hs : Ls byS w A zs) (hl : zs.length = n) (hc : n ≤ c) (hc2 : c ≤ 9223372036854775807) (hA : Clear T A) (ho : Oct zs) (hAl : ∀ q, A = some q → q.block < w.heap.size) (hT : ∀ k, T k → k < w.heap.size) :
    Calls Try.prog 108 #[.agg #[.pointer (some ⟨q, o, none⟩)], .slice A n c] w fun e w' => ∃ D m d,
      RetTk T I w A ((splT zs).map fun r => (r.2, upd σ i (.d D m d r.1))) e w' := by
  obtain ⟨w1, hw1⟩ : ∃ w1, w1 = w.alloc (.cells #[.pointer (some ⟨q, o, none⟩)] 81) := ⟨_, rfl⟩
  obtain ⟨B, hB⟩ : ∃ B, B = w.heap.size := ⟨_, rfl⟩
  have HB1 : Hid (Below w.heap.size w w1) := Lib.hid (by rw [hw1]; exact ba1 _ _)
  have HX : Hid (Bx 81 w1 B #[.pointer (some ⟨q, o, none⟩)]) := Lib.hid (by rw [hw1, hB]; exact bx_new _ _ _)
  have HBV := Lib.hid hB
  have HS1 := Lib.hid (hs.below HB1.out)
  have HI1 := Lib.hid (fm.new _ _ _ hI HB1.out)
  have hq : q < B := by rw [hB]; exact (fm.get w σ i _ hI hp).1
  have HFM := Lib.hid fm
  have HP := Lib.hid hp
  have hTq : Hid (T q) := Lib.hid (fm.mem i _ hp).1
  have HTB := Lib.hid hT
  have HA := Lib.hid hA
  have HL := Lib.hid hl
  have HO := Lib.hid ho
  have HAl : Hid (∀ q, A = some q → q.block < w1.heap.size) := Lib.hid (fun q hq => Nat.lt_of_lt_of_le (hAl q hq) HB1.out.size)
  have hqB : ¬ q = B := by omega
  have hBq : ¬ B = q := by omega
  clear hI hs fm hp hl ho hAl hB hT
  go_enter Try.func108, Try.ntmps108
  go_upto_region 1 with fail
  rw [← hw1, ← HBV.out]
  clear hw1
  rcases hr : splT zs with _ | ⟨xs, ys⟩
  · have HR := Lib.hid hr
    go_upto_region 2 with (go_at_call 105; refine (split_any A n c zs w1 HS1.out HL.out hc hc2 HO.out HAl.out).mono ?_; rw [hr]; rintro e w2 ⟨h2, rfl⟩; have HB2 := Lib.hid h2; clear h2)
    have hx2 := HX.out.below HB2.out
    have b0 := cell_drew1 (hx2.cell 0 (.pointer (some ⟨q, o, none⟩)) rfl)
    have hlb2 := hx2.lt
    have HI2 := Lib.hid (HFM.out.new _ _ _ HI1.out HB2.out)
    have HW2 : Hid (w.heap.size ≤ w2.heap.size) := Lib.hid (Nat.le_trans HB1.out.size HB2.out.size)
    have hqW : q < w2.heap.size := (HFM.out.get w2 _ i _ HI2.out HP.out).1
    have q2 := cell_drew1 (HFM.out.get w2 _ i _ HI2.out HP.out).2.1
    have q3 : w2.drew.frozen? ⟨q, o, none⟩ = false := (HFM.out.get w2 _ i _ HI2.out HP.out).2.2.1
    simp only [Pt.adr] at q2
    clear hx2
    go_region_held3 (fun w' => w'.cell? ⟨B, 0, none⟩ = some (.pointer (some ⟨q, o, none⟩))) (first | (with_reducible exact m0) | (with_reducible exact b0) | go_keep) (first
      | (go_at_call 110; (refine (clone_any none 0 0 [] w2.drew (Ls.nil _ _) rfl (by omega) (fun _ => rfl)).mono ?_); rintro e w3 ⟨A9, c9, rfl, ho9, hb9⟩; have HO9 := Lib.hid ho9; have HB9 := Lib.hid hb9; have m0 := (hb9.cell (p := ⟨B, 0, none⟩) hlb2).trans b0; have m1 := (hb9.cell (p := ⟨q, o, none⟩) hqW).trans q2; have m2 := (hb9.frozen (p := ⟨q, o, none⟩) hqW).trans q3; clear ho9 hb9))
    go_wp2
    go_ret2
    have HB23 : Below w2.heap.size w2 w3 := (Below.refl _ _).drew.trans HB9.out
    have hI3 := HFM.out.new _ _ _ HI2.out HB23
    have hcl : Clear T A9 := clear_of_own HO9.out.2 (fun k hk => .inl (Nat.lt_of_lt_of_le (HTB.out k hk) HW2.out))
    have hon : Only T w (w3.setCell ⟨q, o, none⟩ (.slice A9 0 c9)) := (((only_new HB1.out).new HB2.out).new HB23).setCell (.inl hTq.out) _
    refine ⟨A9, 0, c9, ?_⟩
    rw [HR.out]
    exact ⟨rfl, hon, _, HFM.out.put w3 _ i _ (.d A9 0 c9 []) hI3 HP.out trivial ⟨Ls.nil _ _, rfl, .inl rfl⟩⟩
  · have HR := Lib.hid hr
    go_upto_region 2 with (go_at_call 105; refine (split_any A n c zs w1 HS1.out HL.out hc hc2 HO.out HAl.out).mono ?_; rw [hr]; rintro e w2 ⟨h2, A2, n2, c2, A3, n3, c3, rfl, d1, d2, d3, d4, d5, d6, d7, d8, d9, d10⟩; have HB2 := Lib.hid h2; have D1 := Lib.hid d1; have D4 := Lib.hid d4; have D6 := Lib.hid d6; have D9 := Lib.hid d9; have D10 := Lib.hid d10; clear h2 d1 d4 d5 d6 d9 d10)
    have hx1n : n2 ≤ 100000000 := by
      have h1 := D1.out
      have h2 : xs.length ≤ 65536 := splT_len HO.out HR.out
      omega
    have HN0 : Hid (A2 = none → n2 = 0) := Lib.hid (fun h => by
      have := D4.out; rw [h] at this
      rw [D1.out, ls_none this]; rfl)
    have hx2 := HX.out.below HB2.out
    have b0 := cell_drew1 (hx2.cell 0 (.pointer (some ⟨q, o, none⟩)) rfl)
    have hlb2 := hx2.lt
    have HI2 := Lib.hid (HFM.out.new _ _ _ HI1.out HB2.out)
    have HW2 : Hid (w.heap.size ≤ w2.heap.size) := Lib.hid (Nat.le_trans HB1.out.size HB2.out.size)
    have hqW : q < w2.heap.size := (HFM.out.get w2 _ i _ HI2.out HP.out).1
    have q2 := cell_drew1 (HFM.out.get w2 _ i _ HI2.out HP.out).2.1
    have q3 : w2.drew.frozen? ⟨q, o, none⟩ = false := (HFM.out.get w2 _ i _ HI2.out HP.out).2.2.1
    simp only [Pt.adr] at q2
    clear hx2
    go_region_held3 (fun w' => w'.cell? ⟨B, 0, none⟩ = some (.pointer (some ⟨q, o, none⟩))) (first | (with_reducible exact m0) | (with_reducible exact b0) | go_keep) (first
      | (go_at_call 110; (refine (clone_any A2 n2 c2 xs w2.drew (D4.out.below (Below.refl _ _).drew) D1.out.symm hx1n HN0.out).mono ?_); rintro e w3 ⟨A9, c9, rfl, ho9, hb9⟩; have HO9 := Lib.hid ho9; have HB9 := Lib.hid hb9; have m0 := (hb9.cell (p := ⟨B, 0, none⟩) hlb2).trans b0; have m1 := (hb9.cell (p := ⟨q, o, none⟩) hqW).trans q2; have m2 := (hb9.frozen (p := ⟨q, o, none⟩) hqW).trans q3; clear ho9 hb9))
    go_wp2
    go_ret2
    have HB23 : Below w2.heap.size w2 w3 := (Below.refl _ _).drew.trans HB9.out
    have hI3 := HFM.out.new _ _ _ HI2.out HB23
    have hcl : Clear T A9 := clear_of_own HO9.out.2 (fun k hk => .inl (Nat.lt_of_lt_of_le (HTB.out k hk) HW2.out))
    have hon : Only T w (w3.setCell ⟨q, o, none⟩ (.slice A9 n2 c9)) := (((only_new HB1.out).new HB2.out).new HB23).setCell (.inl hTq.out) _
    have hTA : Clear T A3 := D10.out T HA.out
    refine ⟨A9, n2, c9, ?_⟩
    rw [HR.out]
    exact ⟨A3, n3, c3, rfl, D6.out, d7, d8, (D9.out.below HB23).only ((Only.refl T w3).setCell (.inl hTq.out) _) hTA, D10.out, hon, HFM.out.put w3 _ i _ (.d A9 n2 c9 xs) hI3 HP.out trivial ⟨HO9.out.ls, HO9.out.1, .inr hcl⟩⟩

end Go.Proofs.Ytelfnlocgknpjaa
