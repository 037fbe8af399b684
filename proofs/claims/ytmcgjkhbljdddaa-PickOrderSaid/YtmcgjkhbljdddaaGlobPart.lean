/-
  The program's parts of a pattern: their cells; one, but.
-/
import Derived.Test.YtmcgjkhbljdddaaGlobMath
import Derived.Test.YtmcgjkhbljdddaaText
import Derived.Test.YtmcgjkhbljdddaaOnly
import Derived.Test.YtmcgjkhbljdddaaTool
import Derived.Laws.Rows
import Derived.Laws.Tables
namespace Go.Proofs.Ytmcgjkhbljdddaa
open Go.RowKit
set_option linter.unusedVariables false
set_option linter.unusedSimpArgs false

theorem OwnL.caps {α : Type} {F : Shape α} {e : TypeId} {w : World} {base : Nat} {A : Option Addr} {n c : Nat} {l : List α} (h : OwnL F e w base A n c l) : n ≤ c ∧ c ≤ 9223372036854775807 := by
  rcases h.2.2 with ⟨hv, hn⟩ | ⟨g, cap, cur, hv, hg, hh, hx, hm, -⟩
  · injection hv with hA h1 hcc
    omega
  · injection hv with hA h1 hcc
    subst hcc
    exact ⟨hx, hm⟩

def gpL (p : Gp) : List Value := (List.range 256).map (fun b => .bool (p.of (UInt8.ofNat b))) ++ [.bool p.run]
theorem gpL_len (p : Gp) : (gpL p).length = 257 := by simp [gpL]
theorem gpL_one (p : Gp) : ∀ u ∈ gpL p, u.oneCell' = true := by
  intro u hu
  simp only [gpL, List.mem_append, List.mem_map, List.mem_singleton] at hu
  rcases hu with ⟨b, -, rfl⟩ | rfl <;> rfl
def gpS : Shape Gp := { cells := gpL, size := 257, len := gpL_len, pos := by decide, one := gpL_one }
def gpC (p : Gp) : Array Value := (gpL p).toArray
theorem gpC_size (p : Gp) : (gpC p).size = 257 := by simp [gpC, gpL_len]
theorem gpC_all (p : Gp) : (gpC p).all (·.oneCell') = true := Array.all_eq_true_iff_forall_mem.2 fun u hu => gpL_one p u (by simpa [gpC] using hu)
theorem gpL_at (p : Gp) (b : Nat) (h : b < 256) : (gpL p)[b]? = some (.bool (p.of (UInt8.ofNat b))) := by
  rw [gpL, List.getElem?_append_left (by simpa using h)]; simp [h]
theorem gpL_run (p : Gp) : (gpL p)[256]? = some (.bool p.run) := by
  rw [gpL, List.getElem?_append_right (by simp)]; simp
def gp0 : Gp := ⟨false, fun _ => false⟩
def gpOne (b : UInt8) : Gp := ⟨false, fun c => decide (c = b)⟩
def gpBut (p : Gp) : Gp := ⟨p.run, fun c => !p.of c⟩
def gpPut (p : Gp) (b : UInt8) (v : Bool) : Gp := ⟨p.run, fun c => if c = b then v else p.of c⟩
theorem gpL_put (p : Gp) (b : UInt8) (v : Bool) : (gpC p).modify b.toNat (fun _ => .bool v) = gpC (gpPut p b v) := by
  rw [← Array.toList_inj]
  simp only [gpC, Array.toList_modify]
  apply List.ext_getElem?
  intro i
  have hb := b.toNat_lt
  rw [List.getElem?_modify]
  by_cases hi : i < 256
  · rw [gpL_at _ i hi, gpL_at _ i hi]
    by_cases e : b.toNat = i
    · subst e
      simp [gpPut]
    · have : UInt8.ofNat i ≠ b := fun h => e (by rw [← h]; simp; omega)
      simp [gpPut, e, this]
  · by_cases h2 : i = 256
    · subst h2
      rw [gpL_run, gpL_run]
      have : ¬ b.toNat = 256 := by omega
      simp [this, gpPut]
    · rw [List.getElem?_eq_none (by rw [gpL_len]; omega), List.getElem?_eq_none (by rw [gpL_len]; omega)]
      simp
theorem gp_ext {p q : Gp} (h1 : p.run = q.run) (h2 : ∀ c, p.of c = q.of c) : p = q := by
  cases p; cases q; simp only [Gp.mk.injEq]; exact ⟨h1, funext h2⟩
theorem gp_eq {p q : Gp} (h1 : p.run = q.run) (h2 : ∀ b, b < 256 → p.of (UInt8.ofNat b) = q.of (UInt8.ofNat b)) : p = q := by
  refine gp_ext h1 fun c => ?_
  have := h2 c.toNat c.toNat_lt
  simpa using this

set_option maxRecDepth 100000 in
theorem gpInfo : (Try.prog.info? 52).map (fun i => (i.zero, i.size, i.bytes)) = some (some (.agg (gpC gp0)), 257, 257) := by kernel_rfl
theorem gp_sz : (Try.prog.info? 52).map (·.size) = some 257 := by
  have h := gpInfo
  cases hq : Try.prog.info? 52 with
  | none => rw [hq] at h; cases h
  | some i => rw [hq] at h; simp at h; simp [h.2.1]
theorem gp_zero (w : World) : (zeroValue 52).run Try.prog w = .ok (.agg (gpC gp0)) w := by
  have h := gpInfo
  cases hq : Try.prog.info? 52 with
  | none => rw [hq] at h; cases h
  | some i =>
    rw [hq] at h
    have hz : i.zero = some (.agg (gpC gp0)) := by simp at h; exact h.1
    simp only [zeroValue, typeInfo, Sem.run_bind, hq]
    simp [hq, hz]

/-- a part in a block of its own -/
abbrev Gx (w : World) (B : Nat) (p : Gp) : Prop := Bx 52 w B (gpC p)
theorem Gx.at {w : World} {B : Nat} {p : Gp} (h : Gx w B p) (b : UInt8) : w.cell? ⟨B, b.toNat, none⟩ = some (.bool (p.of b)) := by
  have := h.cell b.toNat (.bool (p.of b)) (by rw [gpC, List.getElem?_toArray, gpL_at p _ b.toNat_lt]; simp)
  exact this
theorem Gx.set {w : World} {B : Nat} {p : Gp} (h : Gx w B p) (b : UInt8) (v : Bool) : Gx (w.setCell ⟨B, b.toNat, none⟩ (.bool v)) B (gpPut p b v) := by
  have := Bx.set h b.toNat (.bool v)
  rwa [gpL_put] at this
theorem Gx.put {w : World} {B : Nat} {p : Gp} (h : Gx w B p) (q : Gp) : Gx (w.setRow B (gpC q)) B q := setRow_heap w B _ _ _ _ h
theorem Gx.get {w : World} {B : Nat} {p : Gp} (h : Gx w B p) (w' : World) (hb : Below w.heap.size w w') : Gx w' B p := Bx.below h hb
theorem below_setRow {K : Nat} {w0 w : World} (h : Below K w0 w) {B : Nat} (hB : K ≤ B) (cs : Array Value) : Below K w0 (w.setRow B cs) :=
  ⟨h.os, h.tape, h.output, by simpa using h.size, fun k hk => (setRow_other w B k cs (by omega)).trans (h.block k hk)⟩

section
variable {ops : Array Oper} {rest : List Oper} {o : Oper} {a : Act} {w : World} {Q : Exit → Act → World → Prop}
theorem gp_szC (p : Gp) : (Try.prog.info? 52).map (·.size) = some (gpC p).size := by rw [gpC_size]; exact gp_sz
/-- a part is read whole -/
theorem wpG_load (hgd : o.guard = none) (x : Operand) (ho : o.op = .load 52 x) (B : Nat) (hx : a.eval x = .pointer (some ⟨B, 0, none⟩)) (p : Gp) (hp : Gx w B p)
    (h : wpList Try.prog ops Q rest (a.put o.dst (.agg (gpC p))) w) : wpList Try.prog ops Q (o :: rest) a w :=
  wpList_load_row hgd _ x ho B hx _ _ _ _ hp Try.underlying52 rfl (gp_szC p) h
/-- a part is stored whole -/
theorem wpG_store (hgd : o.guard = none) (x y : Operand) (ho : o.op = .store 52 x y) (B : Nat) (hx : a.eval x = .pointer (some ⟨B, 0, none⟩)) (p q : Gp) (hy : a.eval y = .agg (gpC q)) (hp : Gx w B p)
    (h : wpList Try.prog ops Q rest (a.put o.dst undef) (w.setRow B (gpC q))) : wpList Try.prog ops Q (o :: rest) a w :=
  wpList_store_row hgd _ x y ho B _ hx hy _ _ hp (gp_szC q) (by rw [gpC_size, gpC_size]) (gpC_all q) h
theorem gp_result {fn : Func} {i : Tmp} (h : fn.results = #[.cell i 52]) (tmps : Array Value) (B : Nat) (hp : tmps.getD i undef = .pointer (some ⟨B, 0, none⟩)) (p : Gp) (hG : Gx w B p) :
    (results fn tmps).run Try.prog w = .ok (.agg (gpC p)) w :=
  results_cell_row h tmps w B _ _ _ _ hp hG Try.underlying52 rfl (gp_szC p)
end

theorem one_any (b : UInt8) (w : World) :
    Calls Try.prog 36 #[.int .u8 b.toNat] w fun e w' => e = .returned (.agg (gpC (gpOne b))) ∧ Below w.heap.size w w' := by
  obtain ⟨Z, hZ⟩ : ∃ Z, Z = gpC gp0 := ⟨_, rfl⟩
  have hz : ∀ w, (zeroValue 52).run Try.prog w = .ok (.agg Z) w := fun w => by rw [hZ]; exact gp_zero w
  have HZ := Lib.hid hZ
  clear hZ
  have hb := b.toNat_lt
  have i0 : (0 : Int) ≤ (b.toNat : Int) := by omega
  have i1 : (b.toNat : Int) < 256 := by omega
  go_enter Try.func36, Try.ntmps36
  go_upto_region 2 with fail
  obtain ⟨Q, hQ⟩ : ∃ Q, Q = w.heap.size := ⟨_, rfl⟩
  obtain ⟨w1, hw1⟩ : ∃ w1, w1 = (w.alloc (.cells Z 52)).alloc (.cells Z 52) := ⟨_, rfl⟩
  have HB : Hid (Below w.heap.size w w1) := Lib.hid (by rw [hw1]; exact ba2 _ _ _)
  have HX1 : Hid (Gx w1 Q gp0) := Lib.hid (by rw [hw1, hQ]; unfold Gx Bx; rw [← HZ.out]; exact heap_alloc2_old _ _ _)
  have HX2 : Hid (Gx w1 (Q + 1) gp0) := Lib.hid (by rw [hw1, hQ]; unfold Gx Bx; rw [← HZ.out]; exact heap_alloc2_new _ _ _)
  rw [← hw1, ← hQ]
  have HQ := Lib.hid hQ
  clear hw1 hQ HZ hz
  have c1 := HX2.out.at b
  have f1 := HX2.out.soft b.toNat
  go_upto_region 3 with fail
  have HX3 := Lib.hid (HX2.out.set b true)
  have HX4 : Hid (Gx (w1.setCell ⟨Q + 1, b.toNat, none⟩ (.bool true)) Q gp0) := Lib.hid (HX1.out.other (by omega) _)
  have HX5 := Lib.hid (HX4.out.put (gpPut gp0 b true))
  have hfin : gpPut gp0 b true = gpOne b := gp_ext rfl fun c => by simp [gpPut, gp0, gpOne]
  have HF := Lib.hid hfin
  clear hfin
  go_wp2_with (first | (refine wpG_load rfl (.tmp 3) rfl (Q + 1) rfl (gpPut gp0 b true) HX3.out ?_) | (refine wpG_store rfl (.tmp 2) (.tmp 7) rfl Q rfl gp0 (gpPut gp0 b true) rfl HX4.out ?_) | (refine end_ret (gp_result rfl _ Q rfl _ HX5.out) ?_))
  rw [HF.out]
  exact ⟨rfl, below_setRow (HB.out.setCell (by rw [← HQ.out]; exact Nat.le_succ _) _) (by rw [← HQ.out]; exact Nat.le_refl _) _⟩

def nRev (p : Gp) (k : Nat) : Gp := ⟨p.run, fun c => if c.toNat < k then !p.of c else p.of c⟩
theorem nRev_step (p : Gp) (k : Nat) (b : UInt8) (hb : b.toNat = k) : gpPut (nRev p k) b (!(nRev p k).of b) = nRev p (k + 1) := by
  refine gp_ext rfl fun c => ?_
  simp only [gpPut, nRev]
  by_cases hc : c = b
  · subst hc
    rw [if_pos rfl, if_neg (by omega), if_pos (by omega)]
  · rw [if_neg hc]
    have : c.toNat ≠ k := fun e => hc (UInt8.toNat_inj.1 (by omega))
    by_cases h1 : c.toNat < k
    · rw [if_pos h1, if_pos (by omega)]
    · rw [if_neg h1, if_neg (by omega)]
theorem but_any (p : Gp) (w : World) :
    Calls Try.prog 34 #[.agg (gpC p)] w fun e w' => e = .returned (.agg (gpC (gpBut p))) ∧ Below w.heap.size w w' := by
  obtain ⟨Z, hZ⟩ : ∃ Z, Z = gpC gp0 := ⟨_, rfl⟩
  have hz : ∀ w, (zeroValue 52).run Try.prog w = .ok (.agg Z) w := fun w => by rw [hZ]; exact gp_zero w
  have HZ := Lib.hid hZ
  clear hZ
  obtain ⟨Y, hY⟩ : ∃ Y, Y = gpC p := ⟨_, rfl⟩
  have HY := Lib.hid hY
  rw [← hY]
  clear hY
  go_enter Try.func34, Try.ntmps34
  go_upto_region 1 with fail
  obtain ⟨Q, hQ⟩ : ∃ Q, Q = w.heap.size := ⟨_, rfl⟩
  obtain ⟨w1, hw1⟩ : ∃ w1, w1 = (w.alloc (.cells Y 52)).alloc (.cells Z 52) := ⟨_, rfl⟩
  have HB : Hid (Below w.heap.size w w1) := Lib.hid (by rw [hw1]; exact ba2 _ _ _)
  have HX1 : Hid (Gx w1 Q p) := Lib.hid (by rw [hw1, hQ]; unfold Gx Bx; rw [← HY.out]; exact heap_alloc2_old _ _ _)
  have HX2 : Hid (Gx w1 (Q + 1) gp0) := Lib.hid (by rw [hw1, hQ]; unfold Gx Bx; rw [← HZ.out]; exact heap_alloc2_new _ _ _)
  rw [← hw1, ← hQ]
  have HQ := Lib.hid hQ
  clear hw1 hQ HZ hz HY
  go_upto_region 2 with fail
  go_loopw [4] (fun i wr => ∃ k : Nat, i = .int .i64 (k : Int) ∧ k ≤ 256 ∧ Gx wr Q (nRev p k) ∧ Gx wr (Q + 1) gp0 ∧ Below w.heap.size w wr) (fun i _ => 256 - (intOf i).toNat)
  case atStart => exact ⟨0, rfl, by omega, by rw [show nRev p 0 = p from gp_ext rfl fun c => by simp [nRev]]; exact HX1.out, HX2.out, HB.out⟩
  case round =>
    obtain ⟨k, rfl, hk, hg1, hg2, hb⟩ := hrel
    have HG1 := Lib.hid hg1
    have HG2 := Lib.hid hg2
    have HB1 := Lib.hid hb
    clear hg1 hg2 hb
    by_cases hlt : k < 256
    · have hlti : (k : Int) < 256 := by omega
      have hk0 : (0 : Int) ≤ (k : Int) := by omega
      have hw : IntKind.i64.wrap ((k : Int) + 1) = (k : Int) + 1 := by rw [IntKind.wrap_i64]; omega
      obtain ⟨b, hb⟩ : ∃ b : UInt8, b.toNat = k := ⟨UInt8.ofNat k, by simp; omega⟩
      have c1 := HG1.out.at b
      have f1 := HG1.out.soft k
      have HS := Lib.hid (HG1.out.set b (!(nRev p k).of b))
      rw [nRev_step p k b hb] at HS
      obtain ⟨v, hv⟩ : ∃ v, (nRev p k).of b = v := ⟨_, rfl⟩
      rw [hv] at c1 HS
      rw [hb] at c1 HS
      clear hv hb
      go_wp2
      go_roundw
      case rel => exact ⟨k + 1, by simp, by omega, HS.out, HG2.out.other (by omega) _, HB1.out.setCell (by rw [← HQ.out]; exact Nat.le_refl _) _⟩
      case measure => simp [intOf]; omega
    · have hlti : ¬ (k : Int) < 256 := by omega
      have HF : Hid (nRev p k = gpBut p) := Lib.hid (gp_ext rfl fun c => by
        have := c.toNat_lt
        simp only [nRev, gpBut]; rw [if_pos (by omega)])
      rw [HF.out] at HG1
      have HX5 := Lib.hid (HG2.out.put (gpBut p))
      go_wp2_with (first | (refine wpG_load rfl (.tmp 1) rfl Q rfl (gpBut p) HG1.out ?_) | (refine wpG_store rfl (.tmp 2) (.tmp 16) rfl (Q + 1) rfl gp0 (gpBut p) rfl HG2.out ?_) | (refine end_ret (gp_result rfl _ (Q + 1) rfl _ HX5.out) ?_))
      exact below_setRow HB1.out (by rw [← HQ.out]; exact Nat.le_succ _) _

/-- a closure: a part is no run -/
theorem single_any (p : Gp) (w : World) :
    Calls Try.prog 37 #[.agg (gpC p)] w fun e w' => e = .returned (.bool (!p.run)) ∧ Below w.heap.size w w' := by
  obtain ⟨Y, hY⟩ : ∃ Y, Y = gpC p := ⟨_, rfl⟩
  have HY := Lib.hid hY
  rw [← hY]
  clear hY
  go_enter Try.func37, Try.ntmps37
  go_upto_region 1 with fail
  obtain ⟨Q, hQ⟩ : ∃ Q, Q = w.heap.size := ⟨_, rfl⟩
  obtain ⟨w1, hw1⟩ : ∃ w1, w1 = w.alloc (.cells Y 52) := ⟨_, rfl⟩
  have HB : Hid (Below w.heap.size w w1) := Lib.hid (by rw [hw1]; exact ba1 _ _)
  have hX1 : Gx w1 Q p := by rw [hw1, hQ]; unfold Gx Bx; rw [← HY.out]; exact heap_alloc_new _ _
  have c1 : w1.cell? ⟨Q, 256, none⟩ = some (.bool p.run) := hX1.cell 256 _ (by rw [gpC, List.getElem?_toArray, gpL_run])
  rw [← hw1, ← hQ]
  clear hw1 hQ HY hX1
  go_wp2
  go_ret
  exact ⟨rfl, HB.out⟩
theorem Ls.gp {w : World} {A : Option Addr} {l : List Gp} (h : Ls gpS w A l) (k : Nat) (p : Gp) (hk : l[k]? = some p) :
    ∃ b o, A = some ⟨b, o, none⟩ ∧ b < w.heap.size ∧ (∀ c : UInt8, w.cell? ⟨b, o + k * 257 + c.toNat, none⟩ = some (.bool (p.of c))) ∧ w.cell? ⟨b, o + k * 257 + 256, none⟩ = some (.bool p.run) := by
  obtain ⟨b, o, rfl, hb, hc⟩ := h.at k p hk
  refine ⟨b, o, rfl, hb, fun c => ?_, hc 256 _ (gpL_run p)⟩
  have := hc c.toNat (.bool (p.of c)) (by show (gpL p)[c.toNat]? = _; rw [gpL_at p _ c.toNat_lt]; simp)
  exact this
end Go.Proofs.Ytmcgjkhbljdddaa
