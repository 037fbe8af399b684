/-
  Bytes of a file: no zeros more; bytes copied onto a row at a place.
  The program's tree: files: resize, put, get, cut.
  What an act comes to, in memory.
-/
import Derived.Test.YthjpighlcalocaaGreatDoorZeros
import Derived.Test.YthjpighlcalocaaGreatDoorClone
import Derived.Test.YthjpighlcalocaaGreatDoorMem2
import Derived.Test.YthjpighlcalocaaGreatDoorTool
import Derived.Test.YthjpighlcalocaaGreatDoorDirKids
namespace Go.Proofs.YthjpighlcalocaaGreatDoor
open Go.RowKit
set_option linter.unusedVariables false
set_option linter.unusedSimpArgs false

theorem run_zeros0 (w : World) (ty : TypeId) (A : Option Addr) (n c : Nat) (h : n ≤ c) :
    (Builtin.append_ #[28, 3] ty #[.slice A n c, .int .i64 0]).run Tryz.prog w = .ok (.slice A n c) w := by
  obtain ⟨i0, hi, hz0, hz1, hz2⟩ := info_parts byInfo
  have hw : IntKind.i64.wrap 0 = 0 := by rw [IntKind.wrap_i64]; omega
  rcases A with _ | a
  · simp [Builtin.append_, run_underlying Tryz.underlying28, run_underlying Tryz.underlying3, sizeOf, typeInfo, hi, asInt, asIntOf, hw, h]
  · simp [Builtin.append_, run_underlying Tryz.underlying28, run_underlying Tryz.underlying3, sizeOf, typeInfo, hi, asInt, asIntOf, hw, h, storeCells]

theorem splice_take {α : Type} (cl F : List α) (k m n : Nat) (hF : F.length = m) (hk : k + m ≤ n) (hn : n ≤ cl.length) : (cl.take k ++ F ++ cl.drop (k + m)).take n = (cl.take n).take k ++ F ++ (cl.take n).drop (k + m) := by
  have h1 : (cl.take k ++ F).length = k + m := by rw [List.length_append, List.length_take, hF]; omega
  rw [List.take_append, List.take_of_length_le (by omega : (cl.take k ++ F).length ≤ n), h1, List.take_take, Nat.min_eq_left (by omega : k ≤ n), List.drop_take]
theorem bySize : (Tryz.prog.info? 5).map (·.size) = some 1 := by kernel_rfl
theorem own_copy {w : World} {base : Nat} {A : Option Addr} {n c : Nat} {zs : List Int} (ho : OwnL byS 5 w base A n c zs) (k : Nat) (X : Option Addr) (m d : Nat) (ys : List Int) (hb : Ls byS w X ys) (hm : ys.length = m) (hk : k + m ≤ n) (ty : TypeId)
    (A' : Option Addr) (d' : Nat) (hA : A' = (A.map fun a => (⟨a.block, a.off + k, none⟩ : Addr)) ∨ m = 0) :
    ∃ w', (Builtin.copy_ #[28, 28] ty #[.slice A' (n - k) d', .slice X m d]).run Tryz.prog w = .ok (goInt m) w' ∧ OwnL byS 5 w' base A n c (zs.take k ++ ys ++ zs.drop (k + m)) ∧ Only (fun j => (Value.slice A n c).ownBlock = some j) w w' ∧ w'.heap.size = w.heap.size := by
  rcases Nat.eq_zero_or_pos m with h0 | h0
  · subst h0
    obtain rfl : ys = [] := List.eq_nil_of_length_eq_zero hm
    exact ⟨w, run_copy_none (P := Tryz.prog) w _ _ ty 5 _ _ _ _ _ _ Tryz.underlying28 bySize (Nat.zero_min _), by simpa using ho, Only.refl _ _, rfl⟩
  · have hA' : A' = (A.map fun a => (⟨a.block, a.off + k, none⟩ : Addr)) := by rcases hA with h | h; exact h; omega
    have hlz := ho.1
    rcases hb with hb | ⟨b, o, rfl, hlt, hcell⟩
    · exfalso
      have := congrArg List.length hb
      rw [byS.flat_len] at this
      simp [byS] at this
      rw [this] at hm; simp at hm; omega
    · rcases ho.2.2 with ⟨hv, hn⟩ | ⟨g, cap, cur, hv, hg, hh, hc, hcm, hcs, ht⟩
      · exfalso; injection hv with _ h1 _; omega
      · injection hv with hAA h1 hcc
        subst hAA; subst hcc
        obtain ⟨cl, rfl⟩ : ∃ cl, cur = cl.toArray := ⟨cur.toList, by simp⟩
        have hcs1 : cl.length = c := by simpa [byS] using hcs
        have hfl : (byS.flat ys).length = m := by rw [byS.flat_len]; simp [byS]; exact hm
        have hmin : m = Nat.min m (n - k) := (Nat.min_eq_left (by omega)).symm
        have hrun := run_copy_rowsAt (P := Tryz.prog) w 28 28 ty 5 g k (n - k) d' ⟨b, o, none⟩ m d 1 m cl.toArray 5 (byS.flat ys) Tryz.underlying28 bySize hh hmin (by rw [hfl]; simp) (fun j v hj => by rw [addr_add]; exact hcell j v hj) (by rw [hfl]; simp; omega) (byS.flat_one ys)
        have haddr : A' = some ⟨g, k, none⟩ := by rw [hA']; simp
        rw [haddr]
        refine ⟨_, hrun, ?_, ?_, by simp [World.setRow]⟩
        · have hset := setRow_heap w g cl.toArray (cl.toArray.toList.take k ++ byS.flat ys ++ cl.toArray.toList.drop (k + (byS.flat ys).length)).toArray 5 (0, 0) hh
          have htk : cl.take n = byS.flat zs := by simpa [byS] using ht
          have hcut : ∀ j, byS.flat (zs.take j) = (byS.flat zs).take j := fun j => by have := byS.flat_take zs j; simpa [byS] using this
          have hdrop : ∀ j, byS.flat (zs.drop j) = (byS.flat zs).drop j := fun j => flat_drop rfl zs j
          refine ⟨by simp; omega, ?_⟩
          refine ⟨by rw [byS.flat_len]; simp [byS]; omega, .inr ⟨g, c, (cl.take k ++ byS.flat ys ++ cl.drop (k + m)).toArray, rfl, hg, ?_, hc, hcm, ?_, ?_⟩⟩
          · rw [hset, hfl]
          · rw [List.size_toArray, List.length_append, List.length_append, hfl, List.length_take, List.length_drop]; show _ = c * 1; omega
          · rw [byS.flat_app, byS.flat_app, hcut, hdrop, ← htk]
            show List.take (n * 1) _ = _
            rw [Nat.mul_one]
            exact splice_take cl (byS.flat ys) k m n hfl hk (by omega)
        · exact ⟨rfl, rfl, rfl, by simp [World.setRow], fun j _ hj => setRow_other w g j _ (fun e => hj (by rw [e]; rfl))⟩

end Go.Proofs.YthjpighlcalocaaGreatDoor

namespace Go.Proofs.YthjpighlcalocaaGreatDoor
open Go.RowKit
set_option linter.unusedVariables false
set_option linter.unusedSimpArgs false

theorem inFile_any (n : Int) (w : World) : Calls Tryz.prog 86 #[.int .i64 n] w fun e w' => e = .returned (.bool (fits n)) ∧ w' = w := by
  unfold fits
  by_cases h0 : 0 ≤ n
  · by_cases h1 : n ≤ 2048
    · rw [decide_eq_true (And.intro h0 h1)]
      go_enter Tryz.func86, Tryz.ntmps86
      go_wp2_with fail
      go_ret
      exact ⟨rfl, rfl⟩
    · rw [decide_eq_false (fun g => h1 g.2)]
      go_enter Tryz.func86, Tryz.ntmps86
      go_wp2_with fail
      go_ret
      exact ⟨rfl, rfl⟩
  · rw [decide_eq_false (fun g => h0 g.1)]
    go_enter Tryz.func86, Tryz.ntmps86
    go_wp2_with fail
    go_ret
    exact ⟨rfl, rfl⟩

/-- what resize leaves -/
def RetZ (w : World) (pn : Nat) (A : Option Addr) (n c : Nat) (b : List Int) (e : Ending) (w' : World) : Prop :=
  ∃ A' c' s, e = .returned (.tuple #[]) ∧ s = b.length ∧ Bx 75 w' pn #[.slice A' s c'] ∧ OwnL byS 5 w' 0 A' s c' b ∧ Only (fun k => k = pn ∨ (Value.slice A n c).ownBlock = some k) w w' ∧ ∀ k, (Value.slice A' s c').ownBlock = some k → (Value.slice A n c).ownBlock = some k ∨ w.heap.size ≤ k

theorem resized_len (l : List Int) (s : Nat) : (resized l s).length = s := by unfold resized zeros; rw [List.length_append, List.length_take, List.length_replicate]; omega

set_option maxHeartbeats 2000000 in
theorem resize_any (pn : Nat) (s : Nat) (A : Option Addr) (n c : Nat) (data : List Int) (w : World) (hbx : Bx 75 w pn #[.slice A n c]) (ho : OwnL byS 5 w 0 A n c data) (hoff : Off pn (.slice A n c)) (hs : s ≤ 10000) (hn : n ≤ 10000) :
    Calls Tryz.prog 87 #[.pointer (some ⟨pn, 0, none⟩), .int .i64 s] w (RetZ w pn A n c (resized data s)) := by
  have HO := Lib.hid ho
  have HBX := Lib.hid hbx
  have HOFF := Lib.hid hoff
  have hcap := ho.cap
  have hdl := ho.1
  obtain ⟨l0, l1⟩ := hbx.one
  have lf := hbx.soft 0
  have HRL := Lib.hid (resized_len data s)
  have hfin : ∀ A5 c5 w5, OwnL byS 5 w5 0 A5 s c5 (resized data s) → Only (fun k => (Value.slice A n c).ownBlock = some k) w w5 → (∀ k, (Value.slice A5 s c5).ownBlock = some k → (Value.slice A n c).ownBlock = some k ∨ w.heap.size ≤ k) →
      RetZ w pn A n c (resized data s) (.returned (.tuple #[])) (w5.setCell ⟨pn, 0, none⟩ (.slice A5 s c5)) := fun A5 c5 w5 h1 h2 h3 => by
    have hb5 := HBX.out.only h2 (fun hs => HOFF.out pn hs rfl)
    have hoff5 : Off pn (.slice A5 s c5) := fun k hk e => by
      rcases h3 k hk with g | g
      · exact HOFF.out k g e
      · have := HBX.out.lt; omega
    exact ⟨A5, c5, s, rfl, HRL.out.symm, hb5.set 0 _, h1.set hoff5 _ _, (h2.mono (fun k hk => .inr hk)).setCell (.inl (.inl rfl)) _, h3⟩
  have HFIN := Lib.hid hfin
  have haddr := ho.addr
  clear hbx ho hoff hfin
  by_cases hsn : s ≤ n
  · have h1 : ¬ (n : Int) < (s : Int) := by omega
    have hres : resized data s = data.take s := by unfold resized zeros; rw [show s - data.length = 0 by omega]; simp
    have HCUT := Lib.hid (HO.out.cut s hsn)
    rw [← hres] at HCUT
    have hz := run_zeros0 w
    rcases haddr with ⟨rfl, rfl, rfl⟩ | ⟨ga, rfl, -⟩
    · obtain rfl : s = 0 := by omega
      have HZ := Lib.hid (fun ty => run_zeros0 w ty none 0 0 (Nat.le_refl _))
      clear hz hdl hres
      go_enter Tryz.func87, Tryz.ntmps87
      go_wp2_with (at_builtin; refine Lib.wpList_append_run _ rfl (.tmp 18) (.tmp 21) _ _ rfl _ _ rfl rfl _ _ (HZ.out _) ?_)
      go_end0
      exact HFIN.out none 0 w HCUT.out (Only.refl _ _) (fun k hk => .inl hk)
    · have HZ := Lib.hid (fun ty => run_zeros0 w ty (some ⟨ga, 0, none⟩) s c (by omega))
      have hsc : (s : Int) ≤ (c : Int) := by omega
      clear hz hdl hres
      go_enter Tryz.func87, Tryz.ntmps87
      go_wp2_with (at_builtin; refine Lib.wpList_append_run _ rfl (.tmp 18) (.tmp 21) _ _ rfl _ _ rfl rfl _ _ (HZ.out _) ?_)
      go_end0
      exact HFIN.out (some ⟨ga, 0, none⟩) c w HCUT.out (Only.refl _ _) (fun k hk => .inl hk)
  · have h1 : (n : Int) < (s : Int) := by omega
    obtain ⟨m, hm⟩ : ∃ m, m = s - n := ⟨s - n, rfl⟩
    have hm0 : 0 < m := by omega
    have hws : IntKind.i64.wrap ((s : Int) - (n : Int)) = (m : Int) := by rw [IntKind.wrap_i64]; omega
    have HRES : Hid (data ++ List.replicate m 0 = resized data s) := Lib.hid (by unfold resized zeros; rw [hdl, List.take_of_length_le (by omega), hm])
    have hnc : (n : Int) ≤ (c : Int) := by omega
    have HNS : Hid (n + m = s) := Lib.hid (by omega)
    rcases haddr with ⟨rfl, rfl, rfl⟩ | ⟨ga, rfl, -⟩
    · have hws0 : IntKind.i64.wrap (s : Int) = (m : Int) := by simpa using hws
      clear hdl hm
      go_enter Tryz.func87, Tryz.ntmps87
      go_wp2_with (at_builtin; refine wpList_appZ rfl _ (.tmp 18) (.tmp 21) rfl 0 none 0 0 data rfl HO.out _ m rfl (by first | rfl | go_num) hm0 s HNS.out (by omega) (Nat.zero_le _) ?_; intro A5 c5 w5 ho5 hb5 hs5; have HO5 := Lib.hid ho5; have HW5 := Lib.hid (hs5.only hb5); have HS5 := Lib.hid hs5; have hl5 := Nat.lt_of_lt_of_le l0 hb5.size; have lf5 := (HBX.out.only HW5.out (fun hs => HOFF.out pn hs rfl)).soft 0; have lc5 := (HBX.out.only HW5.out (fun hs => HOFF.out pn hs rfl)).cell 0 _ rfl; clear ho5 hb5 hs5)
      go_end0
      exact HFIN.out A5 c5 w5 (by rw [← HRES.out]; exact HO5.out) HW5.out (fun k hk => HS5.out.own k hk)
    · clear hdl hm
      go_enter Tryz.func87, Tryz.ntmps87
      go_wp2_with (at_builtin; refine wpList_appZ rfl _ (.tmp 18) (.tmp 21) rfl 0 (some ⟨ga, 0, none⟩) n c data rfl HO.out _ m rfl (by first | rfl | go_num) hm0 s HNS.out (by omega) (Nat.zero_le _) ?_; intro A5 c5 w5 ho5 hb5 hs5; have HO5 := Lib.hid ho5; have HW5 := Lib.hid (hs5.only hb5); have HS5 := Lib.hid hs5; have hl5 := Nat.lt_of_lt_of_le l0 hb5.size; have lf5 := (HBX.out.only HW5.out (fun hs => HOFF.out pn hs rfl)).soft 0; have lc5 := (HBX.out.only HW5.out (fun hs => HOFF.out pn hs rfl)).cell 0 _ rfl; clear ho5 hb5 hs5)
      go_end0
      exact HFIN.out A5 c5 w5 (by rw [← HRES.out]; exact HO5.out) HW5.out (fun k hk => HS5.out.own k hk)

end Go.Proofs.YthjpighlcalocaaGreatDoor

namespace Go.Proofs.YthjpighlcalocaaGreatDoor
open Go.RowKit
set_option linter.unusedVariables false
set_option linter.unusedSimpArgs false

/-- what an act comes to, with the addresses of its lists -/
structure Sv where
  s : Sn
  A : Option Addr
  n : Nat
  c : Nat
  N : Option Addr
  m : Nat
  d : Nat
def snV (x : Sv) : Array Value := #[.int .i64 x.s.code, .int .i64 x.s.kind, .int .i64 x.s.size, .slice x.A x.n x.c, .slice x.N x.m x.d]
def seS : Shape Sv := { cells := fun x => [.int .i64 x.s.code, .int .i64 x.s.kind, .int .i64 x.s.size, .slice x.A x.n x.c, .slice x.N x.m x.d], size := 5, len := fun _ => rfl, pos := by decide, one := by intro x u hu; simp at hu; rcases hu with rfl | rfl | rfl | rfl | rfl <;> rfl }
theorem seInfo : (Tryz.prog.info? 31).map (fun i => (i.zero, i.size, i.bytes)) = some (some (.agg #[.int .i64 0, .int .i64 0, .int .i64 0, .slice none 0 0, .slice none 0 0]), seS.size, 72) := by kernel_rfl
def svP (s : Sn) : Sv := ⟨s, none, 0, 0, none, 0, 0⟩
def SvOwn (w : World) (base : Nat) (x : Sv) : Prop := OwnL byS 5 w base x.A x.n x.c x.s.data ∧ OwnL stS 9 w base x.N x.m x.d x.s.names
theorem svOwn_p (w : World) (base : Nat) (s : Sn) (h1 : s.data = []) (h2 : s.names = []) : SvOwn w base (svP s) := by
  unfold SvOwn svP
  simp only []
  rw [h1, h2]
  exact ⟨OwnL.nil _ _, OwnL.nil _ _⟩
/-- the blocks of its lists -/
def SvB (x : Sv) (k : Nat) : Prop := (Value.slice x.A x.n x.c).ownBlock = some k ∨ (Value.slice x.N x.m x.d).ownBlock = some k
theorem svB_p (s : Sn) (k : Nat) : ¬ SvB (svP s) k := by rintro (h | h) <;> cases h
theorem SvOwn.keep {w w' : World} {base : Nat} {x : Sv} {S : Nat → Prop} (h : SvOwn w base x) (ho : Only S w w') (hS : ∀ k, S k → ¬ SvB x k) : SvOwn w' base x :=
  ⟨⟨h.1.1, own_only h.1.2 ho (fun k hk hs => hS k hs (.inl hk))⟩, ⟨h.2.1, own_only h.2.2 ho (fun k hk hs => hS k hs (.inr hk))⟩⟩
theorem SvOwn.lt {w : World} {base : Nat} {x : Sv} (h : SvOwn w base x) : ∀ k, SvB x k → base ≤ k ∧ k < w.heap.size := fun k hk => by
  rcases hk with g | g
  · exact h.1.lt k g
  · exact h.2.lt k g
theorem SvOwn.base {w : World} {base base' : Nat} {x : Sv} (h : SvOwn w base x) (hb : base' ≤ base) : SvOwn w base' x := ⟨h.1.base hb, h.2.base hb⟩

section
variable {t : TypeId} {w w' : World} {B : Nat} {cs : Array Value}
theorem Bx.put5 {a b c d e : Value} (h : Bx t w B #[a, b, c, d, e]) (a' b' c' d' e' : Value) : Bx t (((((w.setCell ⟨B, 0, none⟩ a').setCell ⟨B, 1, none⟩ b').setCell ⟨B, 2, none⟩ c').setCell ⟨B, 3, none⟩ d').setCell ⟨B, 4, none⟩ e') B #[a', b', c', d', e'] := ((((h.set 0 _).set 1 _).set 2 _).set 3 _).set 4 _
theorem Bx.all5 {a b c d e : Value} (h : Bx t w B #[a, b, c, d, e]) :
    B < w.heap.size ∧ w.cell? ⟨B, 0, none⟩ = some a ∧ w.cell? ⟨B, 1, none⟩ = some b ∧ w.cell? ⟨B, 2, none⟩ = some c ∧ w.cell? ⟨B, 3, none⟩ = some d ∧ w.cell? ⟨B, 4, none⟩ = some e ∧
    w.frozen? ⟨B, 0, none⟩ = false ∧ w.frozen? ⟨B, 1, none⟩ = false ∧ w.frozen? ⟨B, 2, none⟩ = false ∧ w.frozen? ⟨B, 3, none⟩ = false ∧ w.frozen? ⟨B, 4, none⟩ = false :=
  ⟨h.lt, h.cell 0 _ rfl, h.cell 1 _ rfl, h.cell 2 _ rfl, h.cell 3 _ rfl, h.cell 4 _ rfl, h.soft 0, h.soft 1, h.soft 2, h.soft 3, h.soft 4⟩
theorem below_store5 {w0 w : World} {K S : Nat} (h : Below K w0 w) (hS : K ≤ S) (v0 v1 v2 v3 v4 : Value) :
    Below K w0 (((((w.setCell ⟨S, 0, none⟩ v0).setCell ⟨S, 1, none⟩ v1).setCell ⟨S, 2, none⟩ v2).setCell ⟨S, 3, none⟩ v3).setCell ⟨S, 4, none⟩ v4) := ((((h.setCell hS _).setCell hS _).setCell hS _).setCell hS _).setCell hS _
theorem only_store5 {S : Nat → Prop} {w0 w : World} {B : Nat} (h : Only S w0 w) (hB : S B ∨ w0.heap.size ≤ B) (v0 v1 v2 v3 v4 : Value) :
    Only S w0 (((((w.setCell ⟨B, 0, none⟩ v0).setCell ⟨B, 1, none⟩ v1).setCell ⟨B, 2, none⟩ v2).setCell ⟨B, 3, none⟩ v3).setCell ⟨B, 4, none⟩ v4) := ((((h.setCell hB _).setCell hB _).setCell hB _).setCell hB _).setCell hB _
theorem Bx.other5 {S : Nat} (h : Bx t w B cs) (hS : B ≠ S) (v0 v1 v2 v3 v4 : Value) : Bx t (((((w.setCell ⟨S, 0, none⟩ v0).setCell ⟨S, 1, none⟩ v1).setCell ⟨S, 2, none⟩ v2).setCell ⟨S, 3, none⟩ v3).setCell ⟨S, 4, none⟩ v4) B cs :=
  ((((h.other hS _).other hS _).other hS _).other hS _).other hS _
theorem OwnL.set5 {α : Type} {F : Shape α} {e : TypeId} {base : Nat} {A : Option Addr} {n c : Nat} {l : List α} (h : OwnL F e w base A n c l) {S : Nat} (hS : Off S (.slice A n c)) (v0 v1 v2 v3 v4 : Value) : OwnL F e (((((w.setCell ⟨S, 0, none⟩ v0).setCell ⟨S, 1, none⟩ v1).setCell ⟨S, 2, none⟩ v2).setCell ⟨S, 3, none⟩ v3).setCell ⟨S, 4, none⟩ v4) base A n c l :=
  ((((h.set hS _ _).set hS _ _).set hS _ _).set hS _ _).set hS _ _
end

/-- what an act does to a file's bytes, and what it comes to -/
def fileP (l : List Int) (a : Ac) : List Int × Sn :=
  if a.kind = 3 then
    if fits a.at_ = false then (l, snE 2)
    else if 2048 - a.at_ < a.data.length then (l, snE 11)
    else (laid l a.at_.toNat a.data, ⟨0, 0, ((laid l a.at_.toNat a.data).length : Nat), [], []⟩)
  else if a.kind = 4 then
    if fits a.at_ = false ∨ fits a.count = false then (l, snE 2)
    else (l, ⟨0, 0, 0, (l.drop a.at_.toNat).take a.count.toNat, []⟩)
  else
    if fits a.count = false then (l, snE 2)
    else (resized l a.count.toNat, ⟨0, 0, ((resized l a.count.toNat).length : Nat), [], []⟩)
theorem setI_self {T : Wd} {n : Nat} (h : n < T.length) : setI T n { nd T n with data := (nd T n).data } = T := by
  have : ({ nd T n with data := (nd T n).data } : It) = T[n] := by
    unfold nd; rw [List.getD_eq_getElem?_getD, List.getElem?_eq_getElem h]; rfl
  rw [this]
  exact List.set_getElem_self h
theorem fileT_eq {T : Wd} {n : Nat} (h : n < T.length) (a : Ac) : fileT T n a = (setI T n { nd T n with data := (fileP (nd T n).data a).1 }, (fileP (nd T n).data a).2) := by
  unfold fileT fileP
  by_cases h3 : a.kind = 3
  · rw [if_pos h3, if_pos h3]
    by_cases g1 : fits a.at_ = false
    · rw [if_pos g1, if_pos g1, setI_self h]
    · rw [if_neg g1, if_neg g1]
      by_cases g2 : 2048 - a.at_ < a.data.length
      · rw [if_pos g2, if_pos g2, setI_self h]
      · rw [if_neg g2, if_neg g2]
  · rw [if_neg h3, if_neg h3]
    by_cases h4 : a.kind = 4
    · rw [if_pos h4, if_pos h4]
      by_cases g1 : fits a.at_ = false ∨ fits a.count = false
      · rw [if_pos g1, if_pos g1, setI_self h]
      · rw [if_neg g1, if_neg g1, setI_self h]
    · rw [if_neg h4, if_neg h4]
      by_cases g1 : fits a.count = false
      · rw [if_pos g1, if_pos g1, setI_self h]
      · rw [if_neg g1, if_neg g1]

/-- what a call answers that works on a file -/
def RetF (w : World) (pn : Nat) (A : Option Addr) (n c : Nat) (r : List Int × Sn) (e : Ending) (w' : World) : Prop :=
  ∃ (x : Sv) (A' : Option Addr) (c' s : Nat), x.s = r.2 ∧ e = .returned (.agg (snV x)) ∧ SvOwn w' w.heap.size x ∧ s = r.1.length ∧ Bx 75 w' pn #[.slice A' s c'] ∧ OwnL byS 5 w' 0 A' s c' r.1 ∧
    Only (fun k => k = pn ∨ (Value.slice A n c).ownBlock = some k) w w' ∧ ∀ k, (Value.slice A' s c').ownBlock = some k → ((Value.slice A n c).ownBlock = some k ∨ w.heap.size ≤ k) ∧ ¬ SvB x k
/-- the file stays as it was -/
theorem RetF.same {w w' : World} {pn : Nat} {A : Option Addr} {n c : Nat} {l : List Int} {r : List Int × Sn} {s : Sn} (hbx : Bx 75 w pn #[.slice A n c]) (ho : OwnL byS 5 w 0 A n c l) (hr : r = (l, s)) (h1 : s.data = []) (h2 : s.names = []) (hb : Below w.heap.size w w') :
    RetF w pn A n c r (.returned (.agg (snV (svP s)))) w' := by
  subst hr
  exact ⟨svP s, A, c, n, rfl, rfl, svOwn_p _ _ s h1 h2, ho.1.symm, hbx.below hb, ho.below hb, only_new hb, fun k hk => ⟨.inl hk, svB_p s k⟩⟩

end Go.Proofs.YthjpighlcalocaaGreatDoor
