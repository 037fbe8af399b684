/-
  The program's sender: bytes.Clone; piece.
-/
import Derived.Test.YtehckiihipnimaaSndr2
import Derived.Test.YtehckiihipnimaaOutlet5
import Derived.Lib.SliceRun
import Derived.Deep.RegionHeld3
import Derived.Laws.Cover1
namespace Go.Proofs.Ytehckiihipnimaa
open Go.RowKit
set_option linter.unusedVariables false
set_option linter.unusedSimpArgs false

theorem OwnL.cap {α : Type} {F : Shape α} {e : TypeId} {w : World} {base : Nat} {A : Option Addr} {n c : Nat} {l : List α} (h : OwnL F e w base A n c l) : n ≤ c := by
  have hp := F.pos
  rcases h.2.2 with ⟨hv, hn⟩ | ⟨g, cap, cur, hv, hg, hh, hx⟩
  · injection hv with hA h1 hcc
    omega
  · injection hv with hA _ hcc
    omega
theorem OwnL.addr {α : Type} {F : Shape α} {e : TypeId} {w : World} {base : Nat} {A : Option Addr} {n c : Nat} {l : List α} (h : OwnL F e w base A n c l) : (A = none ∧ n = 0 ∧ c = 0) ∨ ∃ g, A = some ⟨g, 0, none⟩ ∧ g < w.heap.size := by
  rcases h.2.2 with ⟨hv, hn⟩ | ⟨g, cap, cur, hv, hg, hh, hx⟩
  · injection hv with hA h1 hcc
    exact .inl ⟨hA, by omega, by omega⟩
  · have := (h.lt g (by rw [hv]; rfl)).2
    injection hv with hA _ hcc
    exact .inr ⟨g, hA, this⟩
theorem cell_alloc1 {w : World} {o : Obj} {p : Addr} {v : Value} (h : w.cell? p = some v) : (w.alloc o).cell? p = some v :=
  (World.cell?_alloc_lt _ _ _ (World.block_lt_of_cell? w p h)).trans h
theorem cell_put7 {w : World} {S : Nat} {p : Addr} (hk : p.block ≠ S) (v0 v1 v2 v3 v4 v5 v6 : Value) :
    (((((((w.setCell ⟨S, 0, none⟩ v0).setCell ⟨S, 1, none⟩ v1).setCell ⟨S, 2, none⟩ v2).setCell ⟨S, 3, none⟩ v3).setCell ⟨S, 4, none⟩ v4).setCell ⟨S, 5, none⟩ v5).setCell ⟨S, 6, none⟩ v6).cell? p = w.cell? p := by
  rcases p with ⟨b, o, t⟩
  refine World.cell?_of_block ?_
  have hk' : b ≠ S := hk
  have h : ∀ (w : World) (j : Nat) (v : Value), (w.setCell ⟨S, j, none⟩ v).heap[b]? = w.heap[b]? := fun w j v => Below.heap_setCell _ _ _ _ hk'
  simp only [h]
theorem cell_drew1 {w : World} {p : Addr} {v : Value} (h : w.cell? p = some v) : w.drew.cell? p = some v := h
theorem flat_drop {α : Type} {F : Shape α} (h1 : F.size = 1) : ∀ (l : List α) (k : Nat), F.flat (l.drop k) = (F.flat l).drop k
  | l, 0 => rfl
  | [], k + 1 => by simp [Shape.flat]
  | x :: t, k + 1 => by
    obtain ⟨u, hu⟩ : ∃ u, F.cells x = [u] := List.length_eq_one_iff.1 (by rw [F.len, h1])
    show F.flat (t.drop k) = (F.cells x ++ F.flat t).drop (k + 1)
    rw [flat_drop h1 t k, hu]; rfl
theorem Ls.drop1 {α : Type} {F : Shape α} {w : World} {b o : Nat} {l : List α} (h : Ls F w (some ⟨b, o, none⟩) l) (h1 : F.size = 1) (k : Nat) : Ls F w (some ⟨b, o + k, none⟩) (l.drop k) := by
  unfold Ls
  rw [flat_drop h1]
  rcases h with h | ⟨b', o', hA, hlt, hc⟩
  · left; rw [h]; simp
  · injection hA with hA
    injection hA with e1 e2
    subst e1; subst e2
    refine .inr ⟨b, o + k, rfl, hlt, fun j u hu => ?_⟩
    rw [List.getElem?_drop] at hu
    have := hc (k + j) u hu
    rw [← Nat.add_assoc] at this
    exact this

theorem clone_none (w : World) :
    Calls Try.prog 75 #[.slice none 0 0] w fun e w' => e = .returned (.slice none 0 0) ∧ w' = w := by
  have hnil : ∀ w : World, (binOp .eql 27 (.slice none 0 0) (.slice none 0 0)).run Try.prog w = .ok (.bool true) w := fun w => Lib.run_eql_slice_nil w 27 5 none 0 0 0 0 Try.underlying27
  go_enter Try.func75, Try.ntmps75
  go_wp2
  go_ret
  exact ⟨rfl, rfl⟩
theorem clone_some (b o n c : Nat) (zs : List Int) (w : World) (hb : Ls byS w (some ⟨b, o, none⟩) zs) (hn : zs.length = n) (hm : n ≤ 1000000) :
    Calls Try.prog 75 #[.slice (some ⟨b, o, none⟩) n c] w fun e w' => ∃ A c', e = .returned (.slice A n c') ∧ OwnL byS 5 w' w.heap.size A n c' zs ∧ Below w.heap.size w w' := by
  have HB := Lib.hid hb
  have HN := Lib.hid hn
  clear hb hn
  go_enter Try.func75, Try.ntmps75
  have hnil : ∀ w : World, (binOp .eql 27 (.slice (some ⟨b, o, none⟩) n c) (.slice none 0 0)).run Try.prog w = .ok (.bool false) w := fun w => Lib.run_eql_slice_nil w 27 5 (some ⟨b, o, none⟩) n c 0 0 Try.underlying27
  go_wp2_with (at_builtin; refine wpList_appL (F := byS) rfl _ (.tmp 5) (.tmp 6) 27 rfl _ 1 Try.underlying27 byInfo rfl w.heap.size (some ⟨w.heap.size, 0, none⟩) 0 0 [] rfl (ownL_new w w.heap.size (Nat.le_refl _) [] 0 _ rfl rfl (by omega) _ rfl) (some ⟨b, o, none⟩) n c zs rfl (HB.out.below (ba1 _ _)) HN.out n (by omega) (by omega) (by omega) (by simp) ?_; intro A5 c5 w5 ho5 hb5 _; have O5 := Lib.hid ho5; have HB5 := Lib.hid ((ba1 w (.cells #[] 5)).trans hb5); clear ho5 hb5)
  go_ret
  exact ⟨A5, c5, rfl, by simpa using O5.out, HB5.out⟩

/-- what a piece is -/
def RetPc (w : World) (F tz : Nat) (fin : Bool) (bs : List Int) (m : Nat) (e : Ending) (w' : World) : Prop :=
  ∃ A n c, e = .returned (.tuple #[.agg (stC ⟨0, F, bs, fin, false, false, 0⟩ A n c), .int .i64 (tz + (if fin then 1 else 0) : Nat)]) ∧ OwnL byS 5 w' w.heap.size A n c bs ∧ Below w.heap.size w w'

def PcX (wc : World) (F : Nat) (bs : List Int) (p : Value) (wx : World) : Prop :=
  ∃ q7 A n c, p = .pointer (some ⟨q7, 0, none⟩) ∧ wc.heap.size ≤ q7 ∧ Bx 29 wx q7 #[.int .i64 0, .int .i64 F, .slice A n c, .bool false, .bool false, .bool false, .int .i64 0] ∧ OwnL byS 5 wx wc.heap.size A n c bs ∧
    (∀ k, (Value.slice A n c).ownBlock = some k → ¬ k = q7) ∧ Below wc.heap.size wc wx

set_option maxRecDepth 100000 in
set_option maxHeartbeats 8000000 in
theorem piece_any (w : World) (T : Nat → Prop) (B : Nat) (dt : List Int) (cl : Bool) (sn ag : Nat) (dn : Int) (bt : List Rg) (ed : Int) (h : SM w T B dt cl sn ag dn bt ed) (hl : dt.length ≤ 1048575) (F E tz : Nat) (fin : Bool) (hF : F ≤ dt.length) (hFE : F ≤ E) (hE : E ≤ dt.length + 1)
    (hto : tz = upTo F E dt.length) (hfin : fin = decide (tz = dt.length ∧ tz < E)) :
    Calls Try.prog 70 #[.pointer (some ⟨B, 0, none⟩), .agg #[.int .i64 F, .int .i64 E]] w (RetPc w F tz fin ((dt.drop F).take (tz - F)) (tz - F)) := by
  obtain ⟨D, dc, Y, yc, ⟨c0, c1, c2, c3, c4, c5, c6⟩, hf, hD, hY⟩ := h.cells
  have hB := h.lt
  have H := Lib.hid h
  have HD := Lib.hid hD
  have hcap := hD.cap
  have haddr := hD.addr
  obtain ⟨bs, hbs⟩ : ∃ l, l = (dt.drop F).take (tz - F) := ⟨_, rfl⟩
  rw [← hbs]
  obtain ⟨dl, hdl⟩ : ∃ x, x = dt.length := ⟨_, rfl⟩
  rw [← hdl] at c0 hl hF hE hto hfin hcap haddr HD
  have hw1 : IntKind.i64.wrap ((F : Int) + 64) = (F : Int) + 64 := by rw [IntKind.wrap_i64]; omega
  have hto1 : F ≤ tz ∧ tz ≤ dl ∧ tz ≤ E ∧ tz ≤ F + 64 := by rw [hto]; unfold upTo; omega
  have htoe : tz = E ∨ tz = F + 64 ∨ tz = dl := by rw [hto]; unfold upTo; omega
  have HDL := Lib.hid hdl
  have HFIN := Lib.hid hfin
  have HBS : Hid (bs.length = tz - F) := Lib.hid (by rw [hbs, List.length_take, List.length_drop, ← HDL.out]; omega)
  have HBE := Lib.hid hbs
  clear h hf hD hY hdl hto hfin hbs
  go_enter Try.func70, Try.ntmps70
  go_upto_region 1 with fail
  obtain ⟨q3, hq3⟩ : ∃ q, q = w.heap.size := ⟨_, rfl⟩
  obtain ⟨w2, hw2⟩ : ∃ w2, w2 = (w.alloc (.cells #[.int .i64 F, .int .i64 E] 44)).alloc (.cells #[.int .i64 0, .int .i64 0, .slice none 0 0, .bool false, .bool false, .bool false, .int .i64 0] 29) := ⟨_, rfl⟩
  have HB2 : Hid (Below w.heap.size w w2) := Lib.hid (by rw [hw2]; exact bthen (ba1 _ _) (ba1 _ _))
  have HX3 : Hid (Bx 44 w2 q3 #[.int .i64 F, .int .i64 E]) := Lib.hid (by rw [hw2, hq3]; exact (bx_new _ _ _).below (ba1 _ _))
  have HX4 : Hid (Bx 29 w2 (q3 + 1) #[.int .i64 0, .int .i64 0, .slice none 0 0, .bool false, .bool false, .bool false, .int .i64 0]) := Lib.hid (by
    rw [hw2, hq3]
    have := bx_new (w.alloc (.cells #[.int .i64 F, .int .i64 E] 44)) 29 #[.int .i64 0, .int .i64 0, .slice none 0 0, .bool false, .bool false, .bool false, .int .i64 0]
    rw [World.size_alloc] at this
    exact this)
  have H2 : Hid (SM w2 T B dt cl sn ag dn bt ed) := Lib.hid (H.out.new HB2.out)
  have HD2 : Hid (OwnL byS 5 w2 (B + 1) D dl dc dt) := Lib.hid (HD.out.below HB2.out)
  have hBq : B < q3 := by omega
  rw [← hw2, ← hq3]
  have HQ3 := Lib.hid hq3
  clear hw2 hq3 c1 c2 c3 c4 c5 c6
  have c0' := (HB2.out.cell (p := ⟨B, 0, none⟩) hB).trans c0
  clear c0
  have a0 := HX3.out.cell 0 (.int .i64 F) rfl
  have a1 := HX3.out.cell 1 (.int .i64 E) rfl
  have la := HX3.out.lt
  have hB2 := H2.out.lt
  go_cut [6] (fun v wx => v = .int .i64 tz ∧ Below w2.heap.size w2 wx)
  case first =>
    go_region
    all_goals
      go_wp2
    all_goals
      go_meet
    all_goals
      exact ⟨congrArg (Value.int .i64) (by omega), by first | exact (Below.refl _ _).drew | exact Below.refl _ _⟩
  case rest =>
    obtain ⟨rfl, hbc⟩ := hcut
    obtain ⟨wd, hwd⟩ : ∃ wd, wd = wc := ⟨_, rfl⟩
    subst hwd
    have HBc := Lib.hid hbc
    have Hc : Hid (SM wd T B dt cl sn ag dn bt ed) := Lib.hid (H2.out.new hbc)
    have HDc : Hid (OwnL byS 5 wd (B + 1) D dl dc dt) := Lib.hid (HD2.out.below hbc)
    have HX3c := Lib.hid (HX3.out.below hbc)
    have HX4c := Lib.hid (HX4.out.below hbc)
    clear a0 a1 la hB2
    have c0c := (hbc.cell (p := ⟨B, 0, none⟩) H2.out.lt).trans c0'
    clear c0' hbc
    have a0 := HX3c.out.cell 0 (.int .i64 F) rfl
    have a1 := HX3c.out.cell 1 (.int .i64 E) rfl
    have la := HX3c.out.lt
    have lB := Hc.out.lt
    obtain ⟨ht1, ht2, ht3, ht4⟩ := hto1
    have z1 : (0 : Int) ≤ (F : Int) := by omega
    have z2 : (F : Int) ≤ (tz : Int) := by omega
    have z3 : (tz : Int) ≤ (dc : Int) := by omega
    have z4 : (tz : Int) ≤ (dl : Int) := by omega
    have z5 : ((F : Int)).toNat = F := by omega
    have z6 : ((tz : Int)).toNat = tz := by omega
    have HW1 : Hid (Below wd.heap.size wd wd.drew) := Lib.hid (Below.refl _ _).drew
    have HW2 : Hid (Below wd.heap.size wd (wd.alloc (.cells #[.int .i64 0, .int .i64 0, .slice none 0 0, .bool false, .bool false, .bool false, .int .i64 0] 29)).drew) := Lib.hid (ba1 _ _).drew
    have a02 := (HW2.out.cell (p := ⟨q3, 0, none⟩) la).trans a0
    go_upto_region 2 with fail
    go_cut [7] (fun p wx => PcX wd F bs p wx)
    case first =>
      rcases haddr with ⟨rfl, hd0, hc0⟩ | ⟨g, rfl, hg⟩
      · have ef : F = 0 := by omega
        have et : tz = 0 := by omega
        subst ef; subst et; subst hd0; subst hc0
        have hbn : bs = [] := List.eq_nil_of_length_eq_zero (by rw [HBS.out])
        subst hbn
        have b0 := cell_drew1 a0
        have b1 := cell_drew1 c0c
        go_region_held3 (fun w' => w'.cell? ⟨q3, 0, none⟩ = some (.int .i64 (0 : Nat)) ∧ w'.cell? ⟨B, 0, none⟩ = some (.slice none 0 0)) (first | (with_reducible exact ⟨b0, b1⟩) | (with_reducible exact ⟨cell_alloc1 b0, cell_alloc1 b1⟩) | (with_reducible exact ⟨cell_drew1 (cell_alloc1 a0), cell_drew1 (cell_alloc1 c0c)⟩) | go_keep) (first
          | (go_at_call 75; (with_reducible refine (clone_none _).mono ?_); rintro e w5 ⟨rfl, rfl⟩))
        all_goals
          go_wp2
        all_goals
          go_meet
        all_goals
          exact ⟨wd.heap.size, none, 0, 0, rfl, Nat.le_refl _, (bx_new wd 29 #[.int .i64 0, .int .i64 0, .slice none 0 0, .bool false, .bool false, .bool false, .int .i64 0]).below (Below.refl _ _).drew, OwnL.nil _ _, fun k hk => (by cases hk), (ba1 _ _).drew⟩
      · obtain ⟨oD, zD, hD'⟩ : ∃ oD, (if dc = F then some (⟨g, 0, none⟩ : Addr) else some ⟨g, F, none⟩) = some ⟨g, oD, none⟩ ∧ (dl = F ∨ oD = F) := by
          by_cases h : dc = F
          · exact ⟨0, by rw [if_pos h], .inl (by omega)⟩
          · exact ⟨F, by rw [if_neg h], .inr rfl⟩
        have HCL : Hid (∀ wk, Below wd.heap.size wd wk → Calls Try.prog 75 #[.slice (some ⟨g, oD, none⟩) (tz - F) (dc - F)] wk fun e w' => ∃ A c', e = .returned (.slice A (tz - F) c') ∧ OwnL byS 5 w' wk.heap.size A (tz - F) c' bs ∧ Below wk.heap.size wk w') := Lib.hid (fun wk hk => clone_some g oD (tz - F) (dc - F) bs wk (by
          rcases hD' with h | h
          · have : bs = [] := List.eq_nil_of_length_eq_zero (by rw [HBS.out]; omega)
            rw [this]; exact Ls.nil _ _
          · rw [h, HBE.out]
            have := ((HDc.out.below hk).ls.drop1 rfl F).take (tz - F)
            rw [Nat.zero_add] at this
            exact this) HBS.out (by omega))
        clear hD'
        have b0 := cell_drew1 a0
        have b1 := cell_drew1 c0c
        go_region_held3 (fun w' => w'.cell? ⟨q3, 0, none⟩ = some (.int .i64 F) ∧ w'.cell? ⟨B, 0, none⟩ = some (.slice (some ⟨g, 0, none⟩) dl dc)) (first | (with_reducible exact ⟨m1, m2⟩) | (with_reducible exact ⟨b0, b1⟩) | (with_reducible exact ⟨cell_alloc1 m1, cell_alloc1 m2⟩) | (with_reducible exact ⟨cell_drew1 (cell_alloc1 a0), cell_drew1 (cell_alloc1 c0c)⟩) | (refine ⟨(cell_put7 ?_ _ _ _ _ _ _ _).trans m1, (cell_put7 ?_ _ _ _ _ _ _ _).trans m2⟩ <;> (simp only; omega)) | go_keep) (first
          | (go_at_call 75; (with_reducible refine (HCL.out wd.drew HW1.out).mono ?_); rintro e w5 ⟨A5, c5, rfl, ho5, hb5⟩; have O5 := Lib.hid ho5; have HB5 := Lib.hid hb5; have m1 := (hb5.cell (p := ⟨q3, 0, none⟩) la).trans a0; have m2 := (hb5.cell (p := ⟨B, 0, none⟩) lB).trans c0c; clear ho5 hb5)
          | (go_at_call 75; (with_reducible refine (HCL.out (wd.alloc (.cells #[.int .i64 0, .int .i64 0, .slice none 0 0, .bool false, .bool false, .bool false, .int .i64 0] 29)).drew HW2.out).mono ?_); rintro e w6 ⟨A6, c6, rfl, ho6, hb6⟩; have O6 := Lib.hid ho6; have HB6 := Lib.hid hb6; have m1 := (hb6.cell (p := ⟨q3, 0, none⟩) (by have := HW2.out.size; simp only; omega)).trans a02; have m2 := (hb6.cell (p := ⟨B, 0, none⟩) (by have := HW2.out.size; simp only; omega)).trans ((HW2.out.cell (p := ⟨B, 0, none⟩) lB).trans c0c); have HX6 : Hid (Bx 29 w6 wd.heap.size #[.int .i64 0, .int .i64 0, .slice none 0 0, .bool false, .bool false, .bool false, .int .i64 0]) := Lib.hid (((bx_new wd 29 #[.int .i64 0, .int .i64 0, .slice none 0 0, .bool false, .bool false, .bool false, .int .i64 0]).below (Below.refl _ _).drew).below hb6); have y0 := HX6.out.cell 0 (.int .i64 0) rfl; have y1 := HX6.out.cell 1 (.int .i64 0) rfl; have y2 := HX6.out.cell 2 (.slice none 0 0) rfl; have y3 := HX6.out.cell 3 (.bool false) rfl; have y4 := HX6.out.cell 4 (.bool false) rfl; have y5 := HX6.out.cell 5 (.bool false) rfl; have y6 := HX6.out.cell 6 (.int .i64 0) rfl; have s0 := HX6.out.soft 0; have s1 := HX6.out.soft 1; have s2 := HX6.out.soft 2; have s3 := HX6.out.soft 3; have s4 := HX6.out.soft 4; have s5 := HX6.out.soft 5; have s6 := HX6.out.soft 6; clear ho6 hb6))
        all_goals
          go_wp2
        all_goals
          go_meet
        all_goals
          first
          | exact ⟨w5.heap.size, A5, tz - F, c5, rfl, HB5.out.size, bx_new w5 _ _, (O5.out.below (ba1 _ _)).base (Nat.le_refl _), fun k hk e => by have := (O5.out.lt k hk).2; omega, (HW1.out.trans HB5.out).alloc HB5.out.size _⟩
          | (have hz : wd.heap.size < w6.heap.size := HX6.out.lt
             have hw2 : Below wd.heap.size wd w6 := HW2.out.trans (HB6.out.mono HW2.out.size)
             have hb6 : ∀ k, (Value.slice A6 (tz - F) c6).ownBlock = some k → wd.heap.size + 1 ≤ k := fun k hk => by have := (O6.out.lt k hk).1; simpa using this
             exact ⟨wd.heap.size, A6, tz - F, c6, rfl, Nat.le_refl _, HX6.out.put7 (.int .i64 0) (.int .i64 F) (.slice A6 (tz - F) c6) (.bool false) (.bool false) (.bool false) (.int .i64 0),
               (O6.out.only (only_put7 w6 wd.heap.size (.int .i64 0) (.int .i64 F) (.slice A6 (tz - F) c6) (.bool false) (.bool false) (.bool false) (.int .i64 0)) (fun k hk e => by have := hb6 k hk; omega)).base HW2.out.size,
               fun k hk e => by have := hb6 k hk; omega,
               hw2.trans ((only_put7 w6 wd.heap.size (.int .i64 0) (.int .i64 F) (.slice A6 (tz - F) c6) (.bool false) (.bool false) (.bool false) (.int .i64 0)).below (B := wd.heap.size) (fun j hj => by omega) (by omega))⟩)
    case rest =>
      obtain ⟨q7, A5, n5, c5, rfl, hq7, hbx, how, hne, hbw⟩ := hcut
      have HBW := Lib.hid hbw
      have HBX := Lib.hid hbx
      have HOW := Lib.hid how
      have HNE := Lib.hid hne
      have Hw : Hid (SM wc T B dt cl sn ag dn bt ed) := Lib.hid (Hc.out.new hbw)
      have HX3w := Lib.hid (HX3c.out.below hbw)
      have HX4v := Lib.hid (HX4c.out.below hbw)
      obtain ⟨D9, dc9, Y9, yc9, ⟨c0, -, -, -, -, -, -⟩, -, -, -⟩ := Hw.out.cells
      rw [← HDL.out] at c0
      have hB9 := Hw.out.lt
      have l7 := hbx.lt
      have l4 := HX4v.out.lt
      have l4d := HX4c.out.lt
      have n7 : ¬ q7 = q3 + 1 := by omega
      have n3 : ¬ q3 = q7 := by omega
      have n4 : ¬ q3 + 1 = q7 := by omega
      have aE := HX3w.out.cell 1 (.int .i64 E) rfl
      have l3 := HX3w.out.lt
      have e0 := hbx.cell 0 (.int .i64 0) rfl
      have e1 := hbx.cell 1 (.int .i64 F) rfl
      have e2 := hbx.cell 2 (.slice A5 n5 c5) rfl
      have e3 := hbx.cell 3 (.bool false) rfl
      have e4 := hbx.cell 4 (.bool false) rfl
      have e5 := hbx.cell 5 (.bool false) rfl
      have e6 := hbx.cell 6 (.int .i64 0) rfl
      have f3 := hbx.soft 3
      have y0 := HX4v.out.cell 0 (.int .i64 0) rfl
      have y1 := HX4v.out.cell 1 (.int .i64 0) rfl
      have y2 := HX4v.out.cell 2 (.slice none 0 0) rfl
      have y3 := HX4v.out.cell 3 (.bool false) rfl
      have y4 := HX4v.out.cell 4 (.bool false) rfl
      have y5 := HX4v.out.cell 5 (.bool false) rfl
      have y6 := HX4v.out.cell 6 (.int .i64 0) rfl
      have s0 := HX4v.out.soft 0
      have s1 := HX4v.out.soft 1
      have s2 := HX4v.out.soft 2
      have s3 := HX4v.out.soft 3
      have s4 := HX4v.out.soft 4
      have s5 := HX4v.out.soft 5
      have s6 := HX4v.out.soft 6
      clear hbx how hne hbw a0 a1 a02 haddr c0c
      by_cases x1 : tz = dl
      · have x1i : (tz : Int) = (dl : Int) := by omega
        by_cases x2 : tz < E
        · have x2i : (tz : Int) < (E : Int) := by omega
          have HFN : Hid (fin = true) := Lib.hid (by rw [HFIN.out]; simp [x1, x2]; omega)
          obtain ⟨W1, hW1⟩ : ∃ W1, W1 = wc.setCell ⟨q7, 3, none⟩ (.bool true) := ⟨_, rfl⟩
          have HX4w : Hid (Bx 29 W1 (q3 + 1) #[.int .i64 0, .int .i64 0, .slice none 0 0, .bool false, .bool false, .bool false, .int .i64 0]) := Lib.hid (by rw [hW1]; exact HX4v.out.other n4 _)
          have HN1 : Hid (Only (fun k => k = q7 ∨ k = q3 + 1) wc W1) := Lib.hid (by rw [hW1]; exact (Only.refl (fun k => k = q7 ∨ k = q3 + 1) wc).set' (.inl rfl) _ _)
          obtain ⟨W, hW⟩ : ∃ W, W = put7 W1 (q3 + 1) (.int .i64 0) (.int .i64 F) (.slice A5 n5 c5) (.bool true) (.bool false) (.bool false) (.int .i64 0) := ⟨_, rfl⟩
          have HXW : Hid (Bx 29 W (q3 + 1) #[.int .i64 0, .int .i64 F, .slice A5 n5 c5, .bool true, .bool false, .bool false, .int .i64 0]) := Lib.hid (by rw [hW]; exact HX4w.out.put7 _ _ _ _ _ _ _)
          have HNW : Hid (Only (fun k => k = q7 ∨ k = q3 + 1) wc W) := Lib.hid (by rw [hW]; exact HN1.out.trans (only_put7 _ _ _ _ _ _ _ _ _) (fun j hj => .inl (.inr hj)))
          go_wp2_with fail
          unfold put7 at hW
          rw [hW1] at hW
          rw [← hW]
          clear hW hW1 e0 e1 e2 e3 e4 e5 e6 y0 y1 y2 y3 y4 y5 y6 s0 s1 s2 s3 s4 s5 s6 c0 f3 aE
          have r0 := HXW.out.cell 0 (.int .i64 0) rfl
          have r1 := HXW.out.cell 1 (.int .i64 F) rfl
          have r2 := HXW.out.cell 2 (.slice A5 n5 c5) rfl
          have r3 := HXW.out.cell 3 (.bool true) rfl
          have r4 := HXW.out.cell 4 (.bool false) rfl
          have r5 := HXW.out.cell 5 (.bool false) rfl
          have r6 := HXW.out.cell 6 (.int .i64 0) rfl
          refine end_ret (v := .tuple #[.agg #[.int .i64 0, .int .i64 F, .slice A5 n5 c5, .bool true, .bool false, .bool false, .int .i64 0], .int .i64 ((tz : Int) + 1)]) (by simp [results, Try.results70, go_sem, r0, r1, r2, r3, r4, r5, r6, x1]) ?_
          rw [HFN.out]
          have hqw := HQ3.out
          have z8 := HB2.out.size
          have z9 := HBc.out.size
          exact ⟨A5, n5, c5, by simp [stC, x1], (HOW.out.only HNW.out (fun k hk hs => by have h1 := (HOW.out.lt k hk).1; have h2 := HNE.out k hk; have h3 := HX4c.out.lt; omega)).base (by omega), ((bthen HB2.out HBc.out).trans (HBW.out.mono (by omega))).trans (HNW.out.below (B := w.heap.size) (fun j hj => by omega) (by have := HBW.out.size; omega))⟩
        · have x2i : ¬ (tz : Int) < (E : Int) := by omega
          have HFN : Hid (fin = false) := Lib.hid (by rw [HFIN.out]; simp; omega)
          obtain ⟨W1, hW1⟩ : ∃ W1, W1 = wc := ⟨_, rfl⟩
          have HX4w : Hid (Bx 29 W1 (q3 + 1) #[.int .i64 0, .int .i64 0, .slice none 0 0, .bool false, .bool false, .bool false, .int .i64 0]) := Lib.hid (by rw [hW1]; exact HX4v.out)
          have HN1 : Hid (Only (fun k => k = q7 ∨ k = q3 + 1) wc W1) := Lib.hid (by rw [hW1]; exact Only.refl _ _)
          obtain ⟨W, hW⟩ : ∃ W, W = put7 W1 (q3 + 1) (.int .i64 0) (.int .i64 F) (.slice A5 n5 c5) (.bool false) (.bool false) (.bool false) (.int .i64 0) := ⟨_, rfl⟩
          have HXW : Hid (Bx 29 W (q3 + 1) #[.int .i64 0, .int .i64 F, .slice A5 n5 c5, .bool false, .bool false, .bool false, .int .i64 0]) := Lib.hid (by rw [hW]; exact HX4w.out.put7 _ _ _ _ _ _ _)
          have HNW : Hid (Only (fun k => k = q7 ∨ k = q3 + 1) wc W) := Lib.hid (by rw [hW]; exact HN1.out.trans (only_put7 _ _ _ _ _ _ _ _ _) (fun j hj => .inl (.inr hj)))
          go_wp2_with fail
          unfold put7 at hW
          rw [hW1] at hW
          rw [← hW]
          clear hW hW1 e0 e1 e2 e3 e4 e5 e6 y0 y1 y2 y3 y4 y5 y6 s0 s1 s2 s3 s4 s5 s6 c0 f3 aE
          have r0 := HXW.out.cell 0 (.int .i64 0) rfl
          have r1 := HXW.out.cell 1 (.int .i64 F) rfl
          have r2 := HXW.out.cell 2 (.slice A5 n5 c5) rfl
          have r3 := HXW.out.cell 3 (.bool false) rfl
          have r4 := HXW.out.cell 4 (.bool false) rfl
          have r5 := HXW.out.cell 5 (.bool false) rfl
          have r6 := HXW.out.cell 6 (.int .i64 0) rfl
          refine end_ret (v := .tuple #[.agg #[.int .i64 0, .int .i64 F, .slice A5 n5 c5, .bool false, .bool false, .bool false, .int .i64 0], .int .i64 tz]) (by simp [results, Try.results70, go_sem, r0, r1, r2, r3, r4, r5, r6, x1]) ?_
          rw [HFN.out]
          have hqw := HQ3.out
          have z8 := HB2.out.size
          have z9 := HBc.out.size
          exact ⟨A5, n5, c5, by simp [stC, x1], (HOW.out.only HNW.out (fun k hk hs => by have h1 := (HOW.out.lt k hk).1; have h2 := HNE.out k hk; have h3 := HX4c.out.lt; omega)).base (by omega), ((bthen HB2.out HBc.out).trans (HBW.out.mono (by omega))).trans (HNW.out.below (B := w.heap.size) (fun j hj => by omega) (by have := HBW.out.size; omega))⟩
      · have x1i : ¬ (tz : Int) = (dl : Int) := by omega
        have HFN : Hid (fin = false) := Lib.hid (by rw [HFIN.out]; simp; omega)
        obtain ⟨W1, hW1⟩ : ∃ W1, W1 = wc := ⟨_, rfl⟩
        have HX4w : Hid (Bx 29 W1 (q3 + 1) #[.int .i64 0, .int .i64 0, .slice none 0 0, .bool false, .bool false, .bool false, .int .i64 0]) := Lib.hid (by rw [hW1]; exact HX4v.out)
        have HN1 : Hid (Only (fun k => k = q7 ∨ k = q3 + 1) wc W1) := Lib.hid (by rw [hW1]; exact Only.refl _ _)
        obtain ⟨W, hW⟩ : ∃ W, W = put7 W1 (q3 + 1) (.int .i64 0) (.int .i64 F) (.slice A5 n5 c5) (.bool false) (.bool false) (.bool false) (.int .i64 0) := ⟨_, rfl⟩
        have HXW : Hid (Bx 29 W (q3 + 1) #[.int .i64 0, .int .i64 F, .slice A5 n5 c5, .bool false, .bool false, .bool false, .int .i64 0]) := Lib.hid (by rw [hW]; exact HX4w.out.put7 _ _ _ _ _ _ _)
        have HNW : Hid (Only (fun k => k = q7 ∨ k = q3 + 1) wc W) := Lib.hid (by rw [hW]; exact HN1.out.trans (only_put7 _ _ _ _ _ _ _ _ _) (fun j hj => .inl (.inr hj)))
        go_wp2_with fail
        unfold put7 at hW
        rw [hW1] at hW
        rw [← hW]
        clear hW hW1 e0 e1 e2 e3 e4 e5 e6 y0 y1 y2 y3 y4 y5 y6 s0 s1 s2 s3 s4 s5 s6 c0 f3 aE
        have r0 := HXW.out.cell 0 (.int .i64 0) rfl
        have r1 := HXW.out.cell 1 (.int .i64 F) rfl
        have r2 := HXW.out.cell 2 (.slice A5 n5 c5) rfl
        have r3 := HXW.out.cell 3 (.bool false) rfl
        have r4 := HXW.out.cell 4 (.bool false) rfl
        have r5 := HXW.out.cell 5 (.bool false) rfl
        have r6 := HXW.out.cell 6 (.int .i64 0) rfl
        refine end_ret (v := .tuple #[.agg #[.int .i64 0, .int .i64 F, .slice A5 n5 c5, .bool false, .bool false, .bool false, .int .i64 0], .int .i64 tz]) (by simp [results, Try.results70, go_sem, r0, r1, r2, r3, r4, r5, r6, x1]) ?_
        rw [HFN.out]
        have hqw := HQ3.out
        have z8 := HB2.out.size
        have z9 := HBc.out.size
        exact ⟨A5, n5, c5, by simp [stC, x1], (HOW.out.only HNW.out (fun k hk hs => by have h1 := (HOW.out.lt k hk).1; have h2 := HNE.out k hk; have h3 := HX4c.out.lt; omega)).base (by omega), ((bthen HB2.out HBc.out).trans (HBW.out.mono (by omega))).trans (HNW.out.below (B := w.heap.size) (fun j hj => by omega) (by have := HBW.out.size; omega))⟩

end Go.Proofs.Ytehckiihipnimaa
