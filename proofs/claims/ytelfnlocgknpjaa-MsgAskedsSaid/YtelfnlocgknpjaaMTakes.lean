/-
  How parts are taken, one behind the other.
-/
import Derived.Test.YtelfnlocgknpjaaMSplit
namespace Go.Proofs.Ytelfnlocgknpjaa
open Go.RowKit
set_option linter.unusedVariables false
set_option linter.unusedSimpArgs false

/-- what a part is, wherever it lies -/
inductive PC where
  | n (v : Int)
  | t (s : Byt)
  | d (zs : List Int)
def PV.pure : PV → PC
  | .n v => .n v
  | .t s => .t s
  | .d _ _ _ zs => .d zs
def Pt.tk : Pt → List Int → Option (PC × List Int)
  | .num _ k, zs => if zs.length < k then none else some (.n (val (zs.take k)), zs.drop k)
  | .txt _, zs => (splT zs).map fun r => (.t (toT r.1), r.2)
  | .dat _, zs => (splT zs).map fun r => (.d r.1, r.2)
def takeT : List Pt → List Int → Option (List PC × List Int)
  | [], zs => some ([], zs)
  | p :: r, zs =>
    match p.tk zs with
    | none => none
    | some (v, ys) =>
      match takeT r ys with
      | none => none
      | some (vs, z) => some (v :: vs, z)
theorem takeT_snoc : ∀ (l : List Pt) (p : Pt) (zs : List Int), takeT (l ++ [p]) zs = match takeT l zs with
    | none => none
    | some (vs, ys) => (p.tk ys).map fun r => (vs ++ [r.1], r.2)
  | [], p, zs => by
    simp only [List.nil_append, takeT]
    rcases p.tk zs with _ | ⟨v, ys⟩ <;> rfl
  | q :: r, p, zs => by
    simp only [List.cons_append, takeT]
    rcases q.tk zs with _ | ⟨v, ys⟩
    · rfl
    · simp only []
      rw [takeT_snoc r p ys]
      rcases takeT r ys with _ | ⟨vs, z⟩
      · rfl
      · simp only []
        rcases p.tk z with _ | ⟨u, x⟩ <;> rfl
theorem takeT_app : ∀ (l m : List Pt) (zs : List Int), takeT l zs = none → takeT (l ++ m) zs = none
  | [], m, zs, h => by cases h
  | q :: r, m, zs, h => by
    simp only [List.cons_append, takeT] at h ⊢
    rcases hq : q.tk zs with _ | ⟨v, ys⟩
    · rfl
    · rw [hq] at h
      simp only [] at h ⊢
      rcases hr : takeT r ys with _ | ⟨vs, z⟩
      · rw [takeT_app r m ys hr]
      · rw [hr] at h; cases h
theorem splT_oct {zs xs ys : List Int} (h : splT zs = some (xs, ys)) : ∃ a, ys = zs.drop a := by
  unfold splT at h
  split at h
  · cases h
  · split at h
    · cases h
    · injection h with h
      injection h with h1 h2
      exact ⟨_, by rw [← h2, List.drop_drop]⟩
theorem tk_oct {p : Pt} {zs ys : List Int} {v : PC} (h : p.tk zs = some (v, ys)) : ∃ a, ys = zs.drop a := by
  rcases p with ⟨a, k⟩ | a | a
  · simp only [Pt.tk] at h
    split at h
    · cases h
    · injection h with h; injection h with h1 h2
      exact ⟨k, h2.symm⟩
  · simp only [Pt.tk] at h
    rcases hs : splT zs with _ | ⟨x, y⟩
    · rw [hs] at h; cases h
    · rw [hs] at h
      injection h with h; injection h with h1 h2
      obtain ⟨a, ha⟩ := splT_oct hs
      exact ⟨a, by rw [← h2]; exact ha⟩
  · simp only [Pt.tk] at h
    rcases hs : splT zs with _ | ⟨x, y⟩
    · rw [hs] at h; cases h
    · rw [hs] at h
      injection h with h; injection h with h1 h2
      obtain ⟨a, ha⟩ := splT_oct hs
      exact ⟨a, by rw [← h2]; exact ha⟩
/-- what one part's take comes to -/
def RetT1 (T : Nat → Prop) (I : World → (Nat → PV) → Prop) (w : World) (A0 : Option Addr) (σ : Nat → PV) (i : Nat) (r : Option (PC × List Int)) (e : Ending) (w' : World) : Prop :=
  match r with
  | none => e = .returned (.tuple #[.slice none 0 0, .bool false]) ∧ Only T w w' ∧ ∃ σ, I w' σ
  | some (v, ys) => ∃ A n c u, e = .returned (.tuple #[.slice A n c, .bool true]) ∧ n = ys.length ∧ n ≤ c ∧ c ≤ 9223372036854775807 ∧ Ls byS w' A ys ∧ Kin A0 A ∧ Only T w w' ∧ I w' (upd σ i u) ∧ u.pure = v
def tkF : Pt → Nat
  | .num _ _ => 98
  | .txt _ => 102
  | .dat _ => 108
def tkG : Pt → Value
  | .num a k => .agg #[.pointer (some a), .int .i64 k]
  | .txt a => .agg #[.pointer (some a)]
  | .dat a => .agg #[.pointer (some a)]
def Pt.wideOk : Pt → Prop
  | .num _ k => 1 ≤ k ∧ k ≤ 4
  | _ => True
theorem take1_any {T : Nat → Prop} {ps : List Pt} {I : World → (Nat → PV) → Prop} (fm : Fm T ps I) (i : Nat) (p : Pt) (hp : ps[i]? = some p) (hw : p.wideOk) (A : Option Addr) (n c : Nat) (zs : List Int) (w : World) (σ : Nat → PV) (hI : I w σ)
    (hs : Ls byS w A zs) (hl : zs.length = n) (hc : n ≤ c) (hc2 : c ≤ 9223372036854775807) (hA : Clear T A) (ho : Oct zs) (hAl : ∀ q, A = some q → q.block < w.heap.size) (hT : ∀ k, T k → k < w.heap.size) :
    Calls Try.prog (tkF p) #[tkG p, .slice A n c] w (RetT1 T I w A σ i (p.tk zs)) := by
  have hsp := (fm.mem i p hp).2
  rcases p with ⟨⟨q, o, sp⟩, k⟩ | ⟨q, o, sp⟩ | ⟨q, o, sp⟩
  · obtain rfl : sp = none := hsp
    refine (numTake_any fm i q o k hp hw A n c zs w σ hI hs hl hc hc2 hA ho).mono ?_
    intro e w' h
    simp only [Pt.tk]
    rw [hl]
    by_cases hlt : n < k
    · rw [if_pos hlt] at h ⊢; exact h
    · rw [if_neg hlt] at h ⊢
      obtain ⟨A', n', c', h1, h2, h3, h4, h5, h6, h7, h8⟩ := h
      exact ⟨A', n', c', _, h1, h2, h3, h4, h5, h6, h7, h8, rfl⟩
  · obtain rfl : sp = none := hsp
    refine (txtTake_any fm i q o hp A n c zs w σ hI hs hl hc hc2 hA ho hAl).mono ?_
    intro e w' h
    simp only [Pt.tk]
    rcases hs : splT zs with _ | ⟨x, y⟩
    · rw [hs] at h; exact h
    · rw [hs] at h
      obtain ⟨A', n', c', h1, h2, h3, h4, h5, h6, h7, h8⟩ := h
      exact ⟨A', n', c', _, h1, h2, h3, h4, h5, h6, h7, h8, rfl⟩
  · obtain rfl : sp = none := hsp
    refine (datTake_any fm i q o hp A n c zs w σ hI hs hl hc hc2 hA ho hAl hT).mono ?_
    rintro e w' ⟨D, m, d, h⟩
    simp only [Pt.tk]
    rcases hs : splT zs with _ | ⟨x, y⟩
    · rw [hs] at h; exact h
    · rw [hs] at h
      obtain ⟨A', n', c', h1, h2, h3, h4, h5, h6, h7, h8⟩ := h
      exact ⟨A', n', c', _, h1, h2, h3, h4, h5, h6, h7, h8, rfl⟩

/-- what a take of parts answers -/
def RetTs (T : Nat → Prop) (I : World → (Nat → PV) → Prop) (w : World) (A0 : Option Addr) (σ : Nat → PV) (m : Nat) (r : Option (List PC × List Int)) (e : Ending) (w' : World) : Prop :=
  match r with
  | none => e = .returned (.tuple #[.slice none 0 0, .bool false]) ∧ Only T w w' ∧ ∃ σ, I w' σ
  | some (vs, ys) => ∃ A n c σ', e = .returned (.tuple #[.slice A n c, .bool true]) ∧ n = ys.length ∧ n ≤ c ∧ c ≤ 9223372036854775807 ∧ Ls byS w' A ys ∧ Kin A0 A ∧ Only T w w' ∧ I w' σ' ∧ vs.length = m ∧ (∀ j v, vs[j]? = some v → (σ' j).pure = v) ∧ ∀ j, m ≤ j → σ' j = σ j
def TkI (T : Nat → Prop) (I : World → (Nat → PV) → Prop) (w : World) (A0 : Option Addr) (σ : Nat → PV) (ps : List Pt) (zs : List Int) (o i : Value) (wr : World) : Prop :=
  ∃ (j : Nat) (A : Option Addr) (n c : Nat) (vs : List PC) (ys : List Int) (σ' : Nat → PV), j ≤ ps.length ∧ i = .int .i64 j ∧ o = .slice A n c ∧ takeT (ps.take j) zs = some (vs, ys) ∧ n = ys.length ∧ n ≤ c ∧ c ≤ 9223372036854775807 ∧ Ls byS wr A ys ∧ Kin A0 A ∧ Oct ys ∧ Only T w wr ∧ I wr σ' ∧
    vs.length = j ∧ (∀ x v, vs[x]? = some v → (σ' x).pure = v) ∧ ∀ x, j ≤ x → σ' x = σ x
theorem vals_snoc {σ : Nat → PV} {vs : List PC} {j : Nat} {u : PV} {v : PC} (hl : vs.length = j) (h : ∀ x v, vs[x]? = some v → (σ x).pure = v) (hu : u.pure = v) : ∀ x v', (vs ++ [v])[x]? = some v' → (upd σ j u x).pure = v' := by
  intro x v' hx
  rcases Nat.lt_trichotomy x j with g | g | g
  · rw [List.getElem?_append_left (by omega)] at hx
    unfold upd
    rw [if_neg (by omega)]
    exact h x v' hx
  · subst g
    rw [← hl, List.getElem?_append_right (Nat.le_refl _), Nat.sub_self] at hx
    injection hx with hx
    rw [upd_same, hu]; exact hx
  · rw [List.getElem?_eq_none (by rw [List.length_append, hl]; simp; omega)] at hx; cases hx
theorem upd_past {σ τ : Nat → PV} {j : Nat} {u : PV} (h : ∀ x, j ≤ x → σ x = τ x) : ∀ x, j + 1 ≤ x → upd σ j u x = τ x := fun x hx => by
  unfold upd
  rw [if_neg (by omega)]
  exact h x (by omega)
set_option maxHeartbeats 4000000 in
theorem take_any {T : Nat → Prop} {ps : List Pt} {I : World → (Nat → PV) → Prop} (fm : Fm T ps I) (hw : ∀ p ∈ ps, p.wideOk) (P : Option Addr) (k d : Nat) (hk : ps.length = k) (hk2 : k ≤ 1000) (A : Option Addr) (n c : Nat) (zs : List Int) (w : World) (σ : Nat → PV) (hI : I w σ)
    (hP : Ls ptS w P ps) (hPT : Clear T P) (hs : Ls byS w A zs) (hl : zs.length = n) (hc : n ≤ c) (hc2 : c ≤ 9223372036854775807) (hA : Clear T A) (ho : Oct zs) (hAl : ∀ q, A = some q → q.block < w.heap.size) (hT : ∀ k, T k → k < w.heap.size) :
    Calls Try.prog 34 #[.slice A n c, .slice P k d] w (RetTs T I w A σ k (takeT ps zs)) := by
  have HFM := Lib.hid fm
  have HW := Lib.hid hw
  have HK := Lib.hid hk
  have HI := Lib.hid hI
  have HP := Lib.hid hP
  have HPT := Lib.hid hPT
  have HS := Lib.hid hs
  have HL := Lib.hid hl
  have HA := Lib.hid hA
  have HO := Lib.hid ho
  have HAL := Lib.hid hAl
  have HT := Lib.hid hT
  clear fm hw hk hI hP hPT hs hl hA ho hAl hT
  go_enter Try.func34, Try.ntmps34
  go_wp2_with fail
  go_loopw [0, 12] (fun o i wr => TkI T I w A σ ps zs o i wr) (fun _ i _ => k - (intOf i).toNat)
  case atStart => exact ⟨0, A, n, c, [], zs, σ, Nat.zero_le _, rfl, rfl, rfl, HL.out.symm, hc, hc2, HS.out, Kin.refl _, HO.out, Only.refl _ _, HI.out, rfl, fun x v h => by (simp at h), fun x _ => rfl⟩
  case round =>
    obtain ⟨j, A2, n2, c2, vs, ys, σ2, hj, rfl, rfl, htk, hn2, hc3, hc4, hs2, hk3, ho2, hon, hI2, hvl, hvs, hvx⟩ := hrel
    rw [HK.out] at hj
    have HTK := Lib.hid htk
    have HN2 := Lib.hid hn2
    have HS2 := Lib.hid hs2
    have HK3 := Lib.hid hk3
    have HO2 := Lib.hid ho2
    have HON := Lib.hid hon
    have HI2 := Lib.hid hI2
    have HVL := Lib.hid hvl
    have HVS := Lib.hid hvs
    have HVX := Lib.hid hvx
    clear htk hn2 hs2 hk3 ho2 hon hI2 hvl hvs hvx
    by_cases hlt : j < k
    · have hji : decide ((j : Int) < (k : Int)) = true := by simp; omega
      obtain ⟨p, hp⟩ : ∃ p, ps[j]? = some p := ⟨_, List.getElem?_eq_getElem (by rw [HK.out]; exact hlt)⟩
      obtain ⟨b, o, hPb, hbl, hcc⟩ := (HP.out.only HON.out HPT.out).at j p hp
      have f0 := hcc 0 (ptV p) rfl
      simp only [ptS, Nat.add_zero, Nat.mul_one] at f0
      have HCALL := Lib.hid (take1_any HFM.out j p hp (HW.out p (List.mem_of_getElem? hp)) A2 n2 c2 ys wr σ2 HI2.out HS2.out HN2.out.symm hc3 hc4 (HK3.out T HA.out) HO2.out (fun q hq => by
        have h1 : Clear (fun x => ¬ x < w.heap.size) A := fun a ha hx => hx (HAL.out a ha)
        have h2 := HK3.out _ h1 q hq
        have h3 := HON.out.size
        have h4 : q.block < w.heap.size := Classical.not_not.1 h2
        omega) (fun x hx => Nat.lt_of_lt_of_le (HT.out x hx) HON.out.size))
      have HTS : Hid (takeT (ps.take (j + 1)) zs = (p.tk ys).map fun r => (vs ++ [r.1], r.2)) := Lib.hid (by rw [List.take_add_one, hp]; show takeT (ps.take j ++ [p]) zs = _; rw [takeT_snoc, HTK.out])
      have HAPP : Hid (ps = ps.take (j + 1) ++ ps.drop (j + 1)) := Lib.hid (List.take_append_drop _ _).symm
      subst hPb
      clear hcc
      rcases htk : p.tk ys with _ | ⟨v, ys'⟩
      · rw [htk] at HCALL HTS
        have HNONE : Hid (takeT ps zs = none) := Lib.hid (by rw [HAPP.out]; exact takeT_app _ _ _ HTS.out)
        rcases p with ⟨a, k1⟩ | a | a
        · have hm : ∀ w, (method 200 68 (.agg #[.pointer (some a), .int .i64 k1]) "packthread/msg.take").run Try.prog w = .ok (98, .agg #[.pointer (some a), .int .i64 k1]) w := fun w => by kernel_rfl
          simp only [ptV] at f0
          clear htk hp
          go_wp2_with (go_at_call 98; refine HCALL.out.mono ?_; rintro e w3 ⟨rfl, h3, σ3, h4⟩; have H3 := Lib.hid h3; have H4 := Lib.hid h4; clear h3 h4)
          go_ret2
          rw [HNONE.out]
          exact ⟨rfl, HON.out.trans H3.out (fun _ h => .inl h), σ3, H4.out⟩
        · have hm : ∀ w, (method 200 78 (.agg #[.pointer (some a)]) "packthread/msg.take").run Try.prog w = .ok (102, .agg #[.pointer (some a)]) w := fun w => by kernel_rfl
          simp only [ptV] at f0
          clear htk hp
          go_wp2_with (go_at_call 102; refine HCALL.out.mono ?_; rintro e w3 ⟨rfl, h3, σ3, h4⟩; have H3 := Lib.hid h3; have H4 := Lib.hid h4; clear h3 h4)
          go_ret2
          rw [HNONE.out]
          exact ⟨rfl, HON.out.trans H3.out (fun _ h => .inl h), σ3, H4.out⟩
        · have hm : ∀ w, (method 200 81 (.agg #[.pointer (some a)]) "packthread/msg.take").run Try.prog w = .ok (108, .agg #[.pointer (some a)]) w := fun w => by kernel_rfl
          simp only [ptV] at f0
          clear htk hp
          go_wp2_with (go_at_call 108; refine HCALL.out.mono ?_; rintro e w3 ⟨rfl, h3, σ3, h4⟩; have H3 := Lib.hid h3; have H4 := Lib.hid h4; clear h3 h4)
          go_ret2
          rw [HNONE.out]
          exact ⟨rfl, HON.out.trans H3.out (fun _ h => .inl h), σ3, H4.out⟩
      · rw [htk] at HCALL HTS
        have HOY : Hid (Oct ys') := Lib.hid (by
          obtain ⟨a, ha⟩ := tk_oct htk
          exact fun z hz => HO2.out z (by rw [ha] at hz; exact List.mem_of_mem_drop hz))
        rcases p with ⟨a, k1⟩ | a | a
        · have hm : ∀ w, (method 200 68 (.agg #[.pointer (some a), .int .i64 k1]) "packthread/msg.take").run Try.prog w = .ok (98, .agg #[.pointer (some a), .int .i64 k1]) w := fun w => by kernel_rfl
          simp only [ptV] at f0
          clear htk hp
          go_wp2_with (go_at_call 98; refine HCALL.out.mono ?_; rintro e w3 ⟨A3, n3, c3, u, rfl, d1, d2, d3, d4, d5, d6, d7, d8⟩; have D1 := Lib.hid d1; have D4 := Lib.hid d4; have D5 := Lib.hid d5; have D6 := Lib.hid d6; have D7 := Lib.hid d7; have D8 := Lib.hid d8; clear d1 d4 d5 d6 d7 d8)
          exact ⟨⟨j + 1, A3, n3, c3, vs ++ [v], ys', upd σ2 j u, by rw [HK.out]; omega, by go_num, rfl, HTS.out, D1.out, d2, d3, D4.out, HK3.out.trans D5.out, HOY.out, HON.out.trans D6.out (fun _ h => .inl h), D7.out, by rw [List.length_append, HVL.out]; rfl, vals_snoc HVL.out HVS.out D8.out, upd_past HVX.out⟩, by simp [intOf]; omega⟩
        · have hm : ∀ w, (method 200 78 (.agg #[.pointer (some a)]) "packthread/msg.take").run Try.prog w = .ok (102, .agg #[.pointer (some a)]) w := fun w => by kernel_rfl
          simp only [ptV] at f0
          clear htk hp
          go_wp2_with (go_at_call 102; refine HCALL.out.mono ?_; rintro e w3 ⟨A3, n3, c3, u, rfl, d1, d2, d3, d4, d5, d6, d7, d8⟩; have D1 := Lib.hid d1; have D4 := Lib.hid d4; have D5 := Lib.hid d5; have D6 := Lib.hid d6; have D7 := Lib.hid d7; have D8 := Lib.hid d8; clear d1 d4 d5 d6 d7 d8)
          exact ⟨⟨j + 1, A3, n3, c3, vs ++ [v], ys', upd σ2 j u, by rw [HK.out]; omega, by go_num, rfl, HTS.out, D1.out, d2, d3, D4.out, HK3.out.trans D5.out, HOY.out, HON.out.trans D6.out (fun _ h => .inl h), D7.out, by rw [List.length_append, HVL.out]; rfl, vals_snoc HVL.out HVS.out D8.out, upd_past HVX.out⟩, by simp [intOf]; omega⟩
        · have hm : ∀ w, (method 200 81 (.agg #[.pointer (some a)]) "packthread/msg.take").run Try.prog w = .ok (108, .agg #[.pointer (some a)]) w := fun w => by kernel_rfl
          simp only [ptV] at f0
          clear htk hp
          go_wp2_with (go_at_call 108; refine HCALL.out.mono ?_; rintro e w3 ⟨A3, n3, c3, u, rfl, d1, d2, d3, d4, d5, d6, d7, d8⟩; have D1 := Lib.hid d1; have D4 := Lib.hid d4; have D5 := Lib.hid d5; have D6 := Lib.hid d6; have D7 := Lib.hid d7; have D8 := Lib.hid d8; clear d1 d4 d5 d6 d7 d8)
          exact ⟨⟨j + 1, A3, n3, c3, vs ++ [v], ys', upd σ2 j u, by rw [HK.out]; omega, by go_num, rfl, HTS.out, D1.out, d2, d3, D4.out, HK3.out.trans D5.out, HOY.out, HON.out.trans D6.out (fun _ h => .inl h), D7.out, by rw [List.length_append, HVL.out]; rfl, vals_snoc HVL.out HVS.out D8.out, upd_past HVX.out⟩, by simp [intOf]; omega⟩
    · have hji : decide ((j : Int) < (k : Int)) = false := by simp; omega
      obtain rfl : j = k := by omega
      go_wp2_with fail
      go_ret2
      have h1 := HTK.out
      rw [List.take_of_length_le (by rw [HK.out]; exact Nat.le_refl _)] at h1
      rw [h1]
      exact ⟨A2, n2, c2, σ2, rfl, HN2.out, hc3, hc4, HS2.out, HK3.out, HON.out, HI2.out, HVL.out, HVS.out, HVX.out⟩

end Go.Proofs.Ytelfnlocgknpjaa
