/-
  How parts are taken: a number; what stands behind.
-/
import Derived.Test.YtelfnlocgknpjaaMPart
import Derived.Test.YtelfnlocgknpjaaClone
import Derived.Deep.RegionHeld3
import Derived.Deep.DeepCutAuto
namespace Go.Proofs.Ytelfnlocgknpjaa
open Go.RowKit
set_option linter.unusedVariables false
set_option linter.unusedSimpArgs false

/-- what stands at a part's place -/
inductive PV where
  | n (v : Int)
  | t (s : Byt)
  | d (D : Option Addr) (m c : Nat) (zs : List Int)
def PV.cell : PV → Value
  | .n v => .int .i64 v
  | .t s => .string (tx s)
  | .d D m c _ => .slice D m c
def PV.ok (T : Nat → Prop) (w : World) : PV → Prop
  | .d D m c zs => Ls byS w D zs ∧ zs.length = m ∧ (zs = [] ∨ Clear T D)
  | _ => True
def Pt.adr : Pt → Addr
  | .num a _ => a
  | .txt a => a
  | .dat a => a
def Pt.fit : Pt → PV → Prop
  | .num _ _, .n _ => True
  | .txt _, .t _ => True
  | .dat _, .d _ _ _ _ => True
  | _, _ => False
def upd (σ : Nat → PV) (i : Nat) (v : PV) : Nat → PV := fun j => if j = i then v else σ j
theorem upd_upd (σ : Nat → PV) (i : Nat) (v u : PV) : upd (upd σ i v) i u = upd σ i u := by
  funext j; unfold upd; split <;> rfl
theorem upd_same (σ : Nat → PV) (i : Nat) (v : PV) : upd σ i v i = v := if_pos rfl
/-- places that are kept: what stands there is known, may be turned, and stays as memory grows -/
structure Fm (T : Nat → Prop) (ps : List Pt) (I : World → (Nat → PV) → Prop) : Prop where
  mem : ∀ (i : Nat) (p : Pt), ps[i]? = some p → T p.adr.block ∧ p.adr.spot = none
  get : ∀ (w : World) (σ : Nat → PV) (i : Nat) (p : Pt), I w σ → ps[i]? = some p → p.adr.block < w.heap.size ∧ w.cell? p.adr = some (σ i).cell ∧ w.frozen? p.adr = false ∧ p.fit (σ i)
  put : ∀ (w : World) (σ : Nat → PV) (i : Nat) (p : Pt) (v : PV), I w σ → ps[i]? = some p → p.fit v → v.ok T w → I (w.setCell p.adr v.cell) (upd σ i v)
  new : ∀ (w w' : World) (σ : Nat → PV), I w σ → Below w.heap.size w w' → I w' σ

/-- the number that bytes are of -/
def val (l : List Int) : Int := l.foldl (fun a x => a * 256 + x) 0
theorem val_snoc (l : List Int) (x : Int) : val (l ++ [x]) = val l * 256 + x := by unfold val; rw [List.foldl_append]; rfl
def Oct (l : List Int) : Prop := ∀ z ∈ l, 0 ≤ z ∧ z ≤ 255
theorem val_bound : ∀ (k : Nat) (l : List Int), l.length = k → Oct l → 0 ≤ val l ∧ val l < 256 ^ k
  | 0, l, h, _ => by rw [List.eq_nil_of_length_eq_zero h]; exact ⟨by decide, by decide⟩
  | k + 1, l, h, ho => by
    have hne : l ≠ [] := fun e => by rw [e] at h; cases h
    have e := List.dropLast_concat_getLast hne
    have ih := val_bound k l.dropLast (by rw [List.length_dropLast, h]; rfl) fun z hz => ho z (List.dropLast_subset _ hz)
    have hx := ho (l.getLast hne) (List.getLast_mem hne)
    rw [← e, val_snoc, Int.pow_succ]
    omega
theorem take_val {l : List Int} {j : Nat} {x : Int} (h : l[j]? = some x) : val (l.take (j + 1)) = val (l.take j) * 256 + x := by
  rw [List.take_add_one, h]; exact val_snoc _ _
theorem or_byte (x y : Int) (h0 : 0 ≤ x) (h1 : x ≤ 16777215) (h2 : 0 ≤ y) (h3 : y ≤ 255) : bits .or .i64 (x * 256) y = x * 256 + y :=
  bits_join .i64 63 (by decide) (fun n h₀ h₁ => by rw [IntKind.wrap_i64]; omega) 8 (x * 256) y (by omega) (by omega) (by omega) h2 (by omega) (by omega)

/-- an address in the same block, or none -/
def Kin (A A' : Option Addr) : Prop := ∀ S, Clear S A → Clear S A'
theorem Kin.refl (A : Option Addr) : Kin A A := fun _ h => h
theorem Kin.trans {A B C : Option Addr} (h : Kin A B) (k : Kin B C) : Kin A C := fun S hs => k S (h S hs)
theorem Kin.none (A : Option Addr) : Kin A .none := fun S _ => Clear.none S
theorem Kin.off (b o j : Nat) : Kin (some ⟨b, o, .none⟩) (some ⟨b, j, .none⟩) := fun S h a ha => by
  injection ha with ha; subst ha; exact h ⟨b, o, .none⟩ rfl
/-- what a take answers: what stands behind n bytes; the places as they are then -/
def RetTk (T : Nat → Prop) (I : World → (Nat → PV) → Prop) (w : World) (A0 : Option Addr) (r : Option (List Int × (Nat → PV))) (e : Ending) (w' : World) : Prop :=
  match r with
  | none => e = .returned (.tuple #[.slice none 0 0, .bool false]) ∧ Only T w w' ∧ ∃ σ, I w' σ
  | some (zs, σ) => ∃ A n c, e = .returned (.tuple #[.slice A n c, .bool true]) ∧ n = zs.length ∧ n ≤ c ∧ c ≤ 9223372036854775807 ∧ Ls byS w' A zs ∧ Kin A0 A ∧ Only T w w' ∧ I w' σ

def NtI (T : Nat → Prop) (I : World → (Nat → PV) → Prop) (w : World) (σ : Nat → PV) (i B : Nat) (a : Addr) (k : Nat) (zs : List Int) (jv : Value) (wr : World) : Prop :=
  ∃ j : Nat, jv = .int .i64 j ∧ j ≤ k ∧ I wr (upd σ i (.n (val (zs.take j)))) ∧ Only T w wr ∧ Bx 68 wr B #[.pointer (some a), .int .i64 k]
set_option maxHeartbeats 4000000 in
theorem numTake_any {T : Nat → Prop} {ps : List Pt} {I : World → (Nat → PV) → Prop} (fm : Fm T ps I) (i q o k : Nat) (hp : ps[i]? = some (.num ⟨q, o, none⟩ k)) (hk : 1 ≤ k ∧ k ≤ 4) (A : Option Addr) (n c : Nat) (zs : List Int) (w : World) (σ : Nat → PV) (hI : I w σ)
    (hs : Ls byS w A zs) (hl : zs.length = n) (hc : n ≤ c) (hc2 : c ≤ 9223372036854775807) (hA : Clear T A) (ho : Oct zs) :
    Calls Try.prog 98 #[.agg #[.pointer (some ⟨q, o, none⟩), .int .i64 k], .slice A n c] w
      (RetTk T I w A (if n < k then none else some (zs.drop k, upd σ i (.n (val (zs.take k)))))) := by
  obtain ⟨w1, hw1⟩ : ∃ w1, w1 = w.alloc (.cells #[.pointer (some ⟨q, o, none⟩), .int .i64 k] 68) := ⟨_, rfl⟩
  obtain ⟨B, hB⟩ : ∃ B, B = w.heap.size := ⟨_, rfl⟩
  have HB1 : Hid (Below w.heap.size w w1) := Lib.hid (by rw [hw1]; exact ba1 _ _)
  have HX : Hid (Bx 68 w1 B #[.pointer (some ⟨q, o, none⟩), .int .i64 k]) := Lib.hid (by rw [hw1, hB]; exact bx_new _ _ _)
  have HBV := Lib.hid hB
  have HO1 : Hid (Only T w w1) := Lib.hid (only_new HB1.out)
  have HFM := Lib.hid fm
  have HP := Lib.hid hp
  have HI1 := Lib.hid (fm.new _ _ _ hI HB1.out)
  have HS1 := Lib.hid (hs.below HB1.out)
  have HSW := Lib.hid hs
  have HL := Lib.hid hl
  have HA := Lib.hid hA
  have HO := Lib.hid ho
  have hq : q < B := by rw [hB]; exact (fm.get w σ i _ hI hp).1
  have hTq : Hid (T q) := Lib.hid (fm.mem i _ hp).1
  obtain ⟨g1, g2, g3, -⟩ := fm.get w1 σ i _ HI1.out hp
  simp only [Pt.adr] at g1 g2 g3
  have hlb := HX.out.lt
  have hqB : ¬ q = B := by omega
  have hBq : ¬ B = q := by omega
  clear hI hs hl hA ho fm hp hB
  go_enter Try.func98, Try.ntmps98
  by_cases hlt : n < k
  · rw [if_pos hlt]
    have hi : decide ((n : Int) < (k : Int)) = true := by simp; omega
    go_wp2_with fail
    rw [← hw1]
    go_ret2
    exact ⟨rfl, HO1.out, σ, HI1.out⟩
  · rw [if_neg hlt]
    have hi : decide ((n : Int) < (k : Int)) = false := by simp; omega
    obtain ⟨x0, hx0⟩ : ∃ x, zs[0]? = some x := ⟨_, List.getElem?_eq_getElem (by rw [HL.out]; omega)⟩
    obtain ⟨b, oA, rfl, hbl, -⟩ := HS1.out.at 0 x0 hx0
    go_upto_region 3 with fail
    rw [← hw1, ← HBV.out]
    clear hw1 hx0 x0
    have b0 := HX.out.cell 0 _ rfl
    have b1 := HX.out.cell 1 (.int .i64 k) rfl
    have hkc : k ≤ c := by omega
    obtain ⟨w2, hw2⟩ : ∃ w2, w2 = w1.setCell ⟨q, o, none⟩ (.int .i64 0) := ⟨_, rfl⟩
    have HX2 : Hid (Bx 68 w2 B #[.pointer (some ⟨q, o, none⟩), .int .i64 k]) := Lib.hid (by rw [hw2]; exact HX.out.other hBq _)
    have HO2 : Hid (Only T w w2) := Lib.hid (by rw [hw2]; exact HO1.out.setCell (.inl hTq.out) _)
    have HI2 : Hid (I w2 (upd σ i (.n (val (zs.take 0))))) := Lib.hid (by rw [hw2]; exact HFM.out.put w1 σ i _ (.n 0) HI1.out HP.out trivial trivial)
    go_upto_block 1 with fail
    rw [← hw2]
    clear hw2 b0 b1 g2 g3 hbl
    go_loopw [21] (fun jv wr => NtI T I w σ i B ⟨q, o, none⟩ k zs jv wr) (fun jv _ => k - (intOf jv).toNat)
    case atStart => exact ⟨0, rfl, Nat.zero_le _, HI2.out, HO2.out, HX2.out⟩
    case round =>
      obtain ⟨j, rfl, hj, hI3, ho3, hx3⟩ := hrel
      have HI3 := Lib.hid hI3
      have HO3 := Lib.hid ho3
      have HX3 := Lib.hid hx3
      have b0 : wr.cell? ⟨B, 0, none⟩ = some (.pointer (some ⟨q, o, none⟩)) := hx3.cell 0 _ rfl
      have b1 := hx3.cell 1 (.int .i64 k) rfl
      have lB := hx3.lt
      obtain ⟨g1, g2, g3, -⟩ := HFM.out.get wr _ i _ hI3 HP.out
      rw [upd_same] at g2
      simp only [Pt.adr, PV.cell] at g1 g2 g3
      have hHS := HSW.out.only ho3 HA.out
      have HS3 := Lib.hid hHS
      clear hI3 ho3 hx3
      by_cases hjk : j < k
      · have hji : decide ((j : Int) < (k : Int)) = true := by simp; omega
        obtain ⟨x, hx⟩ : ∃ x, zs[j]? = some x := ⟨_, List.getElem?_eq_getElem (by rw [HL.out]; omega)⟩
        obtain ⟨b', o', hA', hbl, hcc⟩ := hHS.at j x hx
        injection hA' with hA'; injection hA' with e1 e2
        subst e1; subst e2
        have f0 := hcc 0 (.int .u8 x) rfl
        simp only [byS, Nat.add_zero, Nat.mul_one] at f0
        obtain ⟨v, hv⟩ : ∃ v, v = val (zs.take j) := ⟨_, rfl⟩
        have hvb := val_bound j (zs.take j) (by rw [List.length_take, HL.out]; omega) (fun z hz => HO.out z (List.mem_of_mem_take hz))
        have hxb := HO.out x (List.mem_of_getElem? hx)
        rw [← hv] at g2 hvb
        have hp3 : (256 : Int) ^ j ≤ 16777216 := by
          have : j = 0 ∨ j = 1 ∨ j = 2 ∨ j = 3 := by omega
          rcases this with rfl | rfl | rfl | rfl <;> decide
        have hor := or_byte v x hvb.1 (by omega) hxb.1 hxb.2
        have hsh : IntKind.i64.wrap (v * 2 ^ 8) = v * 256 := by rw [IntKind.wrap_i64]; omega
        have HV : Hid (v * 256 + x = val (zs.take (j + 1))) := Lib.hid (by rw [take_val hx, hv])
        clear hHS hcc hx hv
        go_upto_region 7 with fail
        go_region
        go_wp2
        have hI4 := HFM.out.put wr _ i _ (.n (v * 256 + x)) HI3.out HP.out trivial trivial
        rw [upd_upd, HV.out] at hI4
        have hI5 := HFM.out.new _ _ _ hI4 (Below.refl _ _).drew
        refine ⟨⟨j + 1, by go_num, by omega, ?_, ?_, ?_⟩, by simp [intOf]; omega⟩
        · rw [← HV.out] at hI5 ⊢
          exact hI5
        · exact (HO3.out.setCell (.inl hTq.out) _).drew
        · exact (HX3.out.other hBq _).below (Below.refl _ _).drew
      · have hji : decide ((j : Int) < (k : Int)) = false := by simp; omega
        obtain rfl : j = k := by omega
        have HD : Hid (Ls byS wr (some ⟨b, oA + j, none⟩) (zs.drop j)) := Lib.hid (HS3.out.drop1 rfl j)
        have HDL : Hid (n - j = (zs.drop j).length) := Lib.hid (by rw [List.length_drop, HL.out])
        clear hHS
        by_cases hcj : c = j
        · have hnj : n - j = 0 := by omega
          have HZ : Hid (zs.drop j = []) := Lib.hid (List.eq_nil_of_length_eq_zero (by rw [← HDL.out]; exact hnj))
          go_wp2_with fail
          go_ret2
          exact ⟨_, _, _, rfl, by have := HDL.out; omega, by omega, by omega, by rw [HZ.out]; exact Ls.nil _ _, Kin.refl _, HO3.out, HI3.out⟩
        · go_wp2_with fail
          go_ret2
          exact ⟨_, _, _, rfl, HDL.out, by omega, by omega, HD.out, Kin.off _ _ _, HO3.out, HI3.out⟩

end Go.Proofs.Ytelfnlocgknpjaa
