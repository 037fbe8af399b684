/-
  What there is against a request is told by what its places are of, whatever rows they stand in.
-/
import Derived.Test.YtelfnlocgknpjaaMAsk
import Derived.Test.YtelfnlocgknpjaaMTakes
namespace Go.Proofs.Ytelfnlocgknpjaa
open Go.RowKit
set_option linter.unusedVariables false
set_option linter.unusedSimpArgs false

def PC.nz : PC → Bool
  | .n v => v != 0
  | .t s => !s.isEmpty
  | .d zs => decide (0 < zs.length)
def ckC (p : Pt) (v : PC) : Int :=
  match p with
  | .num _ k => (match v with | .n v => if v < 0 ∨ 256 ^ k ≤ v then 2 else 0 | _ => 0)
  | .txt _ => (match v with | .t s => if 200 < s.length then 1 else 0 | _ => 0)
  | .dat _ => (match v with | .d zs => if 100 < zs.length then 1 else 0 | _ => 0)
def layC (p : Pt) (v : PC) : List Int :=
  match p with
  | .num _ k => (match v with | .n v => be k v | _ => [])
  | .txt _ => (match v with | .t s => enc (ofT s) | _ => [])
  | .dat _ => (match v with | .d zs => enc zs | _ => [])
def moreC (g : Nat → PC) (kd : Int) : Bool := [2, 3, 4, 5, 6, 7, 8].any fun o => !named kd o && (g o).nz
def faultC (g : Nat → PC) (kd : Int) : Int :=
  if 1 ≤ kd ∧ kd ≤ 10 then (if moreC g kd then 4 else chkT ((partsOf 0 kd).map fun p => ckC p (g p.adr.off))) else 3
def askC (g : Nat → PC) (kd : Int) : List Int := ((partsOf 0 kd).map fun p => layC p (g p.adr.off)).flatten
/-- a list's number is its length -/
def PV.len : PV → Prop
  | .d _ m _ zs => zs.length = m
  | _ => True
theorem PV.ok.len {T : Nat → Prop} {w : World} {v : PV} (h : v.ok T w) : v.len := by
  rcases v with v | s | ⟨D, m, d, zs⟩
  · trivial
  · trivial
  · exact h.2.1
theorem nz_pure {v : PV} (h : v.len) : v.nz = v.pure.nz := by
  rcases v with v | s | ⟨D, m, d, zs⟩
  · rfl
  · rfl
  · have h' : zs.length = m := h
    subst h'; rfl
theorem ck_pure {p : Pt} {v : PV} (h : v.len) : ckOf p v = ckC p v.pure := by
  rcases p with ⟨a, k⟩ | a | a <;> rcases v with v | s | ⟨D, m, d, zs⟩ <;> try rfl
  have h' : zs.length = m := h
  subst h'; rfl
theorem lay_pure (p : Pt) (v : PV) : layP p v = layC p v.pure := by
  rcases p with ⟨a, k⟩ | a | a <;> rcases v with v | s | ⟨D, m, d, zs⟩ <;> rfl
theorem len_all {f : Nat → PV} (ht : Typed f) (h : (f 8).len) (o : Nat) (ho : o < 9) : (f o).len := by
  by_cases h8 : o = 8
  · subst h8; exact h
  · by_cases h2 : o = 2 ∨ o = 3
    · obtain ⟨s, hs⟩ := ht.txt o h2
      rw [hs]; trivial
    · obtain ⟨v, hv⟩ := ht.num o (by omega)
      rw [hv]; trivial
theorem more_pure {f : Nat → PV} (ht : Typed f) (h : (f 8).len) (kd : Int) : moreB f kd = moreC (fun o => (f o).pure) kd := by
  have g := len_all ht h
  unfold moreB moreC
  simp only [List.any_cons, List.any_nil]
  rw [nz_pure (g 2 (by omega)), nz_pure (g 3 (by omega)), nz_pure (g 4 (by omega)), nz_pure (g 5 (by omega)), nz_pure (g 6 (by omega)), nz_pure (g 7 (by omega)), nz_pure (g 8 (by omega))]
/-- what there is against a request hangs on what its places are of, alone -/
theorem fault_pure {f : Nat → PV} (ht : Typed f) (h : (f 8).len) (kd : Int) : faultT f kd = faultC (fun o => (f o).pure) kd := by
  have e : (partsOf 0 kd).map (fun p => ckOf p (f p.adr.off)) = (partsOf 0 kd).map fun p => ckC p (f p.adr.off).pure := by
    refine List.map_congr_left fun p hp => ?_
    obtain ⟨j, hj⟩ := List.getElem?_of_mem hp
    obtain ⟨o, h1, h2, -⟩ := (good_parts 0 kd).loc j p hj
    exact ck_pure (len_all ht h _ (by rw [h2]; exact h1))
  unfold faultT faultC
  rw [more_pure ht h, e]
theorem ask_pure (f : Nat → PV) (kd : Int) : askT f kd = askC (fun o => (f o).pure) kd := by
  unfold askT askC
  rw [List.map_congr_left fun p hp => lay_pure p _]

end Go.Proofs.Ytelfnlocgknpjaa
