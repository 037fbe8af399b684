/-
  The program's tree: add, remove, rename.
  The program's tree: rename.
-/
import Derived.Test.YthjpighlcalocaaGreatDoorTHolds
import Derived.Test.YthjpighlcalocaaGreatDoorDirKids
namespace Go.Proofs.YthjpighlcalocaaGreatDoor
open Go.RowKit Go.Maps
set_option linter.unusedVariables false
set_option linter.unusedSimpArgs false

/-- what an act answers that changes the tree: its code, and the tree then -/
def RetA (w : World) (tb : Nat) (f : Rl) (K B : Nat) (r : Wd × Int) (e : Ending) (w' : World) : Prop :=
  ∃ f' p', e = .returned (.int .i64 r.2) ∧ TreeIs w' tb r.1 f' p' (K + 1) ∧ Only (fun b => f b ≠ none) w w' ∧ ∀ b, f' b ≠ none → f b ≠ none ∨ B ≤ b
theorem RetA.same {w w' : World} {tb : Nat} {f : Rl} {p : Nat → Nat} {T : Wd} {K B : Nat} {r : Wd × Int} {x : Int} (h : TreeIs w tb T f p K) (hr : r = (T, x)) (hb : Below w.heap.size w w') : RetA w tb f K B r (.returned (.int .i64 x)) w' := by
  subst hr
  exact ⟨f, p, rfl, (h.new hb).mono (Nat.le_succ K), only_new hb, fun b hb => .inl hb⟩

set_option maxRecDepth 100000 in
set_option maxHeartbeats 2000000 in
theorem add_any (q : Byt) (x : It) (B bn : Nat) (w : World) (tb : Nat) (T : Wd) (f : Rl) (p : Nat → Nat) (K : Nat) (h : TreeIs w tb T f p K) (hK : K < 1000000) (hxk : x.kind = 1 ∨ x.kind = 2 ∨ x.kind = 3) (hdat : x.data = []) (hto : x.to.length ≤ 200) (hg : x.gone = false) (hfr : Fresh w f B x bn) (t : Nat) (ht : t = tyK x.kind) :
    Calls Tryz.prog 33 #[.pointer (some ⟨tb, 0, none⟩), .string (tx q), .iface t (.pointer (some ⟨bn, 0, none⟩))] w (RetA w tb f K B (addT T q x)) := by
  have H := Lib.hid h
  have HFR := Lib.hid hfr
  have HX := Lib.hid (And.intro hxk (And.intro hdat (And.intro hto hg)))
  have HT := Lib.hid ht
  have HF := Lib.hid (free_any q w tb T f p K h)
  obtain ⟨g, hg'⟩ : ∃ g, g = addT T q x := ⟨_, rfl⟩
  rw [← hg']
  unfold addT at hg'
  obtain ⟨r, hr⟩ : ∃ r, r = freeT T q := ⟨_, rfl⟩
  rw [← hr] at HF hg'
  have HR := Lib.hid hr
  have HG := Lib.hid hg'
  clear h hfr hxk hdat hto hg hr hg' ht
  go_enter Tryz.func33, Tryz.ntmps33
  go_upto_region 2 with (go_at_call 49; refine HF.out.mono ?_; intro e w2 h2; obtain ⟨HB2, ⟨x2, hx2, rfl, HE⟩ | ⟨d, nm, rfl, HE⟩⟩ := h2.is HR.out H.out.wf; clear h2)
  · rw [HE.out] at HG
    go_wp2_with fail
    go_ret
    exact RetA.same H.out HG.out HB2.out
  · obtain ⟨he, hlv, hkd, hnm, hch⟩ := HE.out
    rw [he] at HG
    have hT2 := H.out.new HB2.out
    have HT2 := Lib.hid hT2
    obtain ⟨mb, hfm, hfp, hbx, hdir⟩ := hT2.dir hlv hkd
    have t1 := hT2.top.cell 1 _ rfl
    have tl := hT2.top.lt
    have tf := hT2.top.soft 1
    obtain ⟨l0, l1⟩ := hbx.one
    obtain ⟨L, hL⟩ : ∃ L, L = liveN T := ⟨_, rfl⟩
    rw [← hL] at HG t1
    have HL := Lib.hid hL
    clear he hL
    by_cases h40 : 40 ≤ L
    · have h40i : (40 : Int) ≤ (L : Int) := by omega
      have HG2 : Hid (g = (T, 9)) := Lib.hid (HG.out.trans (if_pos h40))
      clear hT2 hfm hfp hbx hdir hlv hkd hnm hch
      go_wp2_with fail
      go_ret
      exact RetA.same H.out HG2.out HB2.out
    · have h40i : ¬ (40 : Int) ≤ (L : Int) := by omega
      have HG2 : Hid (g = (T ++ [newIt x d nm], 0)) := Lib.hid (HG.out.trans (if_neg h40))
      have HD := Lib.hid hdir
      have HBX := Lib.hid hbx
      have HFM := Lib.hid hfm
      have hmt : ¬ mb = tb := fun e => by have := hT2.ftop; rw [← e, hfm] at this; cases this
      have hws : IntKind.i64.wrap ((L : Int) + 1) = (L : Int) + 1 := by rw [IntKind.wrap_i64]; omega
      have HNM := Lib.hid (show nm.length ≤ maxLen by have := (nameB_is.1 hnm).2.1; unfold maxLen; omega)
      have HFACT := Lib.hid (And.intro hlv (And.intro hkd (And.intro hnm hch)))
      clear hT2 hfm hfp hbx hdir hlv hkd hnm hch
      go_upto_region 7 with (at_mapUpdate; refine wpList_storeD _ rfl _ _ _ rfl mb K _ rfl HD.out (by unfold maxLen; omega) nm HNM.out rfl t bn rfl ?_; intro w3 hd3 ho3 hs3; have HD3 := Lib.hid hd3; have HO3 := Lib.hid ho3; clear hd3 ho3 hs3)
      go_frame
      have HTOP3 := Lib.hid (HT2.out.top.only HO3.out (fun e => hmt e.symm))
      have s1 := HTOP3.out.cell 1 _ rfl
      have sl := HTOP3.out.lt
      have sf := HTOP3.out.soft 1
      rw [← HL.out] at s1
      clear t1 tl tf l0 l1
      go_wp2_with fail
      go_ret
      obtain ⟨x1, x2, x3, x4⟩ := HX.out
      obtain ⟨y1, y2, y3, y4⟩ := HFACT.out
      have ht := HT.out
      subst ht
      have htop : Bx 71 (w3.setCell ⟨tb, 1, none⟩ (.int .i64 ((L : Int) + 1))) tb #[.pointer (some ⟨p 0, 0, none⟩), .int .i64 ((L : Int) + 1)] := HTOP3.out.set 1 _
      rw [HL.out] at htop
      obtain ⟨f', p', hti, hfb⟩ := treeIs_add (B := B) (bn := bn) (w' := w3.setCell ⟨tb, 1, none⟩ (.int .i64 ((L : Int) + 1))) HT2.out y1 y2 y3 y4 x1 x2 x3 x4 (HFR.out.only (S := fun _ => False) (only_new HB2.out) (fun _ h => h.elim)) HFM.out
        ((HO3.out.mono (fun k hk => .inl hk)).setCell (.inl (.inr rfl)) _) HBX.out (HD3.out.heap (Below.heap_setCell _ _ _ _ hmt)) (by rw [HL.out]; exact htop)
      rw [HG2.out]
      refine ⟨f', p', rfl, hti, ?_, hfb⟩
      refine Only.setCell ((only_new HB2.out).trans (T := fun k => k = mb) HO3.out (fun j hj => .inl (by rw [hj, HFM.out]; simp))) (.inl (by rw [HT2.out.ftop]; simp)) _

set_option maxRecDepth 100000 in
set_option maxHeartbeats 4000000 in
theorem remove_any (q : Byt) (B : Nat) (w : World) (tb : Nat) (T : Wd) (f : Rl) (p : Nat → Nat) (K : Nat) (h : TreeIs w tb T f p K) (hl40 : liveN T ≤ 1000000) :
    Calls Tryz.prog 38 #[.pointer (some ⟨tb, 0, none⟩), .string (tx q)] w (RetA w tb f K B (removeT T q)) := by
  have H := Lib.hid h
  have HF := Lib.hid (own_any q w tb T f p K h)
  obtain ⟨g, hg'⟩ : ∃ g, g = removeT T q := ⟨_, rfl⟩
  rw [← hg']
  unfold removeT at hg'
  obtain ⟨r, hr⟩ : ∃ r, r = ownT T q := ⟨_, rfl⟩
  rw [← hr] at HF hg'
  have HR := Lib.hid hr
  have HG := Lib.hid hg'
  have HL40 := Lib.hid hl40
  have tn := fun w => ta_nil 68 w (.inl rfl)
  have th := fun x w => ta_hit 68 x w (.inl rfl)
  have tm := fun x w => ta_miss 73 68 x w (.inl rfl) (by decide)
  have tm2 := fun x w => ta_miss 112 68 x w (.inl rfl) (by decide)
  clear h hr hg' hl40
  go_enter Tryz.func38, Tryz.ntmps38
  go_upto_region 2 with (go_at_call 53; refine HF.out.mono ?_; intro e w2 h2; obtain ⟨HB2, ⟨x2, hx2, rfl, HE⟩ | ⟨n, rfl, HE⟩⟩ := h2.own HR.out H.out.wf; clear h2)
  · rw [HE.out] at HG
    have HB3 := Lib.hid (bthen HB2.out (ba1 w2 (.cells #[.pointer none, .string ⟨#[]⟩, .nilIface] 121)))
    go_wp2_with fail
    go_ret
    exact RetA.same H.out HG.out HB3.out
  · obtain ⟨he, hlv, h0n⟩ := HE.out
    rw [he] at HG
    obtain ⟨t, ht⟩ : ∃ t, t = tyK (nd T n).kind := ⟨_, rfl⟩
    rw [← ht]
    obtain ⟨q5, hq5⟩ : ∃ q, q = w2.heap.size := ⟨_, rfl⟩
    obtain ⟨w3, hw3⟩ : ∃ w3, w3 = w2.alloc (Obj.cells #[.pointer (some ⟨p (nd T n).inn, 0, none⟩), .string (tx (nd T n).name), .iface t (.pointer (some ⟨p n, 0, none⟩))] 121) := ⟨_, rfl⟩
    have HB3 : Hid (Below w.heap.size w w3) := Lib.hid (by rw [hw3]; exact bthen HB2.out (ba1 _ _))
    have hx5 : Bx 121 w3 q5 #[.pointer (some ⟨p (nd T n).inn, 0, none⟩), .string (tx (nd T n).name), .iface t (.pointer (some ⟨p n, 0, none⟩))] := by rw [hw3, hq5]; exact bx_new _ _ _
    rw [← hw3, ← hq5]
    have hT3 := H.out.new HB3.out
    have HT3 := Lib.hid hT3
    obtain ⟨hpl, hpk⟩ := H.out.wf.par n h0n hlv
    obtain ⟨mb, hfm, hfp, hbx, hdir⟩ := hT3.dir hpl hpk
    obtain ⟨b0, c0, c1, c2, -, -, -⟩ := hx5.all3
    have t1 := hT3.top.cell 1 _ rfl
    have tl := hT3.top.lt
    obtain ⟨l0, l1⟩ := hbx.one
    have HBX := Lib.hid hbx
    have HFM := Lib.hid hfm
    have HD := Lib.hid hdir
    have HX5 := Lib.hid hx5
    have HNM := Lib.hid (show (nd T n).name.length ≤ maxLen by have := (nameB_is.1 (H.out.wf.nam n h0n hlv)).2.1; unfold maxLen; omega)
    obtain ⟨nm, hnm⟩ : ∃ nm, nm = (nd T n).name := ⟨_, rfl⟩
    obtain ⟨pp, hpp⟩ : ∃ x, x = p (nd T n).inn := ⟨_, rfl⟩
    have HLV := Lib.hid hlv
    have H0N := Lib.hid h0n
    have hmt : ¬ mb = tb := fun e => by have := hT3.ftop; rw [← e, hfm] at this; cases this
    have hmp : ¬ mb = pp := fun e => by rw [hpp] at e; rw [← e, hfm] at hfp; cases hfp
    obtain ⟨L, hL⟩ : ∃ L, L = liveN T := ⟨_, rfl⟩
    have hL1 : 0 < L := by have := liveN_gone (T := T) hlv; omega
    have hL2 : L ≤ 1000000 := by rw [hL]; exact HL40.out
    rw [← hL] at t1
    rw [← hnm] at c1 HNM HX5
    rw [← hpp] at l0 l1 c0 HX5
    have HBX' : Hid (Bx 107 w3 pp #[.map (some mb)]) := Lib.hid (by rw [hpp]; exact hbx)
    have hws : IntKind.i64.wrap ((L : Int) - 1) = (L : Int) - 1 := by rw [IntKind.wrap_i64]; omega
    rw [← hnm, ← hpp]
    have HLL := Lib.hid hL
    have HNE := Lib.hid hnm
    have HPP := Lib.hid hpp
    have HTT := Lib.hid ht
    clear hw3 hq5 hx5 he hdir hbx hfm hfp hpl hpk hnm hpp hL hT3
    have hway : (∃ ln : Nat, 0 < ln ∧ t = 68 ∧ Hid (g = (T, 16)) ∧ ∃ m, Hid (w3.cell? ⟨p n, 0, none⟩ = some (.map (some m)) ∧ p n < w3.heap.size ∧ ∀ ty, (Builtin.len_ #[105] ty #[.map (some m)]).run Tryz.prog w3 = .ok (.int .i64 (ln : Nat)) w3)) ∨
        (Hid (g = (setI T n { nd T n with gone := true }, 0) ∧ ∀ i, 0 < i → Live T i → (nd T i).inn ≠ n) ∧ ((t = 68 ∧ ∃ m, Hid (w3.cell? ⟨p n, 0, none⟩ = some (.map (some m)) ∧ p n < w3.heap.size ∧ ∀ ty, (Builtin.len_ #[105] ty #[.map (some m)]).run Tryz.prog w3 = .ok (.int .i64 (0 : Nat)) w3)) ∨ t = 73 ∨ t = 112)) := by
      by_cases hk : (nd T n).kind = 1
      · obtain ⟨m, -, -, hbm, hdm⟩ := HT3.out.dir hlv hk
        have hcell := hbm.one
        by_cases hks : kids T n = []
        · refine .inr ⟨Lib.hid ⟨HG.out.trans (if_neg (fun g => g.2 hks)), bare_of H.out.wf (fun g => g.2 hks)⟩, .inl ⟨ht.trans (tyK_1 hk), m, Lib.hid ⟨hcell.2, hcell.1, fun ty => ?_⟩⟩⟩
          have := hdm.len H.out.wf ty
          rw [hks] at this
          exact this
        · refine .inl ⟨(kids T n).length, List.length_pos_iff.2 hks, ht.trans (tyK_1 hk), Lib.hid (HG.out.trans (if_pos ⟨hk, hks⟩)), m, Lib.hid ⟨hcell.2, hcell.1, fun ty => hdm.len H.out.wf ty⟩⟩
      · refine .inr ⟨Lib.hid ⟨HG.out.trans (if_neg (fun g => hk g.1)), bare_of H.out.wf (fun g => hk g.1)⟩, .inr ?_⟩
        rcases H.out.wf.kin n hlv with j | j | j
        · exact absurd j hk
        · exact .inl (ht.trans (tyK_2 j))
        · exact .inr (ht.trans (tyK_3 j))
    clear ht hlv h0n
    rcases hway with ⟨ln, hln, rfl, HG2, m, HM⟩ | ⟨HG2, hway⟩
    · obtain ⟨m1, m2, m3⟩ := HM.out
      have hlni : (0 : Int) < (ln : Int) := by omega
      go_wp2_with fail
      go_ret
      exact RetA.same H.out HG2.out HB3.out
    · have HDD : Hid (DirIs w3.drew mb K (namesM T p (nd T n).inn)) := Lib.hid (HD.out.below (Below.refl _ _).drew)
      have hfin : ∀ w4, DirIs w4 mb K (updD (namesM T p (nd T n).inn) nm none) → Only (fun k => k = mb) w3.drew w4 → RetA w tb f K B g (.returned (.int .i64 0)) (w4.setCell ⟨tb, 1, none⟩ (.int .i64 ((L : Int) - 1))) := fun w4 hd4 ho4 => by
        have hT3 := HT3.out
        have ho34 : Only (fun k => k = mb) w3 w4 := (only_new (Below.refl _ _).drew).trans (T := fun k => k = mb) ho4 (fun j hj => .inl hj)
        have htop4 := hT3.top.only ho34 (fun e => hmt e.symm)
        have htop : Bx 71 (w4.setCell ⟨tb, 1, none⟩ (.int .i64 ((L : Int) - 1))) tb #[.pointer (some ⟨p 0, 0, none⟩), .int .i64 ((L : Int) - 1)] := htop4.set 1 _
        rw [HLL.out] at htop
        have hdir4 : DirIs (w4.setCell ⟨tb, 1, none⟩ (.int .i64 ((L : Int) - 1))) mb K (updD (namesM T p (nd T n).inn) (nd T n).name none) := by
          rw [← HNE.out]; exact hd4.heap (Below.heap_setCell _ _ _ _ hmt)
        have := treeIs_gone (w' := w4.setCell ⟨tb, 1, none⟩ (.int .i64 ((L : Int) - 1))) hT3 HLV.out H0N.out HG2.out.2 HFM.out ((ho34.mono (fun k hk => .inl hk)).setCell (.inl (.inr rfl)) _) HBX.out hdir4 (by rw [HLL.out]; exact htop)
        rw [HG2.out.1]
        refine ⟨f, p, rfl, this.mono (Nat.le_succ K), ?_, fun b hb => .inl hb⟩
        exact Only.setCell ((only_new HB3.out).trans (T := fun k => k = mb) ho34 (fun j hj => .inl (by rw [hj, HFM.out]; simp))) (.inl (by rw [hT3.ftop]; simp)) _
      have HFIN := Lib.hid hfin
      have htl2 := H.out.lt tb (by rw [H.out.ftop]; simp)
      have HTOP := Lib.hid (HT3.out.top.below (Below.refl _ _).drew)
      clear hfin
      rcases hway with ⟨rfl, m, HM⟩ | rfl | rfl
      · obtain ⟨m1, m2, m3⟩ := HM.out
        obtain ⟨w4, hrun, hd4, ho4, hs4⟩ := HDD.out.drop HNM.out 0
        have HD4 := Lib.hid hd4
        have HO4 := Lib.hid ho4
        clear hd4 ho4 hs4
        go_upto_region 7 with fail
        go_region
        have HTOP4 := Lib.hid (HTOP.out.only HO4.out (fun e => hmt e.symm))
        have s1 := HTOP4.out.cell 1 _ rfl
        have sl := HTOP4.out.lt
        have sf := HTOP4.out.soft 1
        rw [← HLL.out] at s1
        clear t1 tl
        go_wp2_with fail
        go_ret
        exact HFIN.out w4 HD4.out HO4.out
      · obtain ⟨w4, hrun, hd4, ho4, hs4⟩ := HDD.out.drop HNM.out 0
        have HD4 := Lib.hid hd4
        have HO4 := Lib.hid ho4
        clear hd4 ho4 hs4
        go_upto_region 7 with fail
        go_region
        have HTOP4 := Lib.hid (HTOP.out.only HO4.out (fun e => hmt e.symm))
        have s1 := HTOP4.out.cell 1 _ rfl
        have sl := HTOP4.out.lt
        have sf := HTOP4.out.soft 1
        rw [← HLL.out] at s1
        clear t1 tl
        go_wp2_with fail
        go_ret
        exact HFIN.out w4 HD4.out HO4.out
      · obtain ⟨w4, hrun, hd4, ho4, hs4⟩ := HDD.out.drop HNM.out 0
        have HD4 := Lib.hid hd4
        have HO4 := Lib.hid ho4
        clear hd4 ho4 hs4
        go_upto_region 7 with fail
        go_region
        have HTOP4 := Lib.hid (HTOP.out.only HO4.out (fun e => hmt e.symm))
        have s1 := HTOP4.out.cell 1 _ rfl
        have sl := HTOP4.out.lt
        have sf := HTOP4.out.soft 1
        rw [← HLL.out] at s1
        clear t1 tl
        go_wp2_with fail
        go_ret
        exact HFIN.out w4 HD4.out HO4.out

end Go.Proofs.YthjpighlcalocaaGreatDoor

namespace Go.Proofs.YthjpighlcalocaaGreatDoor
open Go.RowKit Go.Maps
set_option linter.unusedVariables false
set_option linter.unusedSimpArgs false

open Classical in
noncomputable def moveOn (T : Wd) (n : Nat) : Except Int (Nat × Byt) → Wd × Int
  | .error e => (T, e)
  | .ok (d, nm) => if Under T n d then (T, 4) else (setI T n { nd T n with inn := d, name := nm }, 0)
theorem moveOn_in {T : Wd} {n d : Nat} {nm : Byt} (h : Under T n d) : moveOn T n (.ok (d, nm)) = (T, 4) := if_pos h
theorem moveOn_out {T : Wd} {n d : Nat} {nm : Byt} (h : ¬ Under T n d) : moveOn T n (.ok (d, nm)) = (setI T n { nd T n with inn := d, name := nm }, 0) := if_neg h
/-- whoever the node is: it holds the directory, or not -/
theorem bare_under {T : Wd} (hw : WF T) {n d : Nat} (hd : Live T d) (hkd : (nd T d).kind = 1) (hk : (nd T n).kind ≠ 1) : ¬ Under T n d := fun g => by
  rcases (under_down (n := n) hw hd).1 g with e | ⟨c', c'0, c'1, c'2, -⟩
  · rw [e] at hkd; exact hk hkd
  · have := (hw.par c' c'0 c'1).2; rw [c'2] at this; exact hk this

set_option maxRecDepth 100000 in
set_option maxHeartbeats 4000000 in
theorem rename_any (q to_ : Byt) (B : Nat) (w : World) (tb : Nat) (T : Wd) (f : Rl) (p : Nat → Nat) (K : Nat) (h : TreeIs w tb T f p K) (hK : K < 1000000) :
    Calls Tryz.prog 39 #[.pointer (some ⟨tb, 0, none⟩), .string (tx q), .string (tx to_)] w (RetA w tb f K B (renameT T q to_)) := by
  have H := Lib.hid h
  have HF := Lib.hid (own_any q w tb T f p K h)
  obtain ⟨g, hg'⟩ : ∃ g, g = renameT T q to_ := ⟨_, rfl⟩
  rw [← hg']
  unfold renameT at hg'
  obtain ⟨r, hr⟩ : ∃ r, r = ownT T q := ⟨_, rfl⟩
  rw [← hr] at HF hg'
  have HR := Lib.hid hr
  have HG := Lib.hid hg'
  have hmD : ∀ w x, (method 200 68 (.pointer (some ⟨x, 0, none⟩)) "packthread/nodes.holds").run Tryz.prog w = .ok (160, .pointer (some ⟨x, 0, none⟩)) w := fun w x => by kernel_rfl
  have hmF : ∀ w x, (method 200 73 (.pointer (some ⟨x, 0, none⟩)) "packthread/nodes.holds").run Tryz.prog w = .ok (161, .pointer (some ⟨x, 0, none⟩)) w := fun w x => by kernel_rfl
  have hmL : ∀ w x, (method 200 112 (.pointer (some ⟨x, 0, none⟩)) "packthread/nodes.holds").run Tryz.prog w = .ok (162, .pointer (some ⟨x, 0, none⟩)) w := fun w x => by kernel_rfl
  clear h hr hg'
  go_enter Tryz.func39, Tryz.ntmps39
  go_upto_region 2 with (go_at_call 53; refine HF.out.mono ?_; intro e w2 h2; obtain ⟨HB2, ⟨x2, hx2, rfl, HE⟩ | ⟨n, rfl, HE⟩⟩ := h2.own HR.out H.out.wf; clear h2)
  · rw [HE.out] at HG
    have HB3 := Lib.hid (bthen HB2.out (ba1 w2 (.cells #[.pointer none, .string ⟨#[]⟩, .nilIface] 121)))
    go_wp2_with fail
    go_ret
    exact RetA.same H.out HG.out HB3.out
  · obtain ⟨he, hlv, h0n⟩ := HE.out
    rw [he] at HG
    obtain ⟨t, ht⟩ : ∃ t, t = tyK (nd T n).kind := ⟨_, rfl⟩
    rw [← ht]
    obtain ⟨q7, hq7⟩ : ∃ q, q = w2.heap.size := ⟨_, rfl⟩
    obtain ⟨nm0, hnm⟩ : ∃ nm, nm = (nd T n).name := ⟨_, rfl⟩
    obtain ⟨pp, hpp⟩ : ∃ x, x = p (nd T n).inn := ⟨_, rfl⟩
    rw [← hnm, ← hpp]
    obtain ⟨w3, hw3⟩ : ∃ w3, w3 = w2.alloc (Obj.cells #[.pointer (some ⟨pp, 0, none⟩), .string (tx nm0), .iface t (.pointer (some ⟨p n, 0, none⟩))] 121) := ⟨_, rfl⟩
    have HB3 : Hid (Below w.heap.size w w3) := Lib.hid (by rw [hw3]; exact bthen HB2.out (ba1 _ _))
    have hx7 : Bx 121 w3 q7 #[.pointer (some ⟨pp, 0, none⟩), .string (tx nm0), .iface t (.pointer (some ⟨p n, 0, none⟩))] := by rw [hw3, hq7]; exact bx_new _ _ _
    have HQ7 : Hid (w.heap.size ≤ q7) := Lib.hid (by rw [hq7]; exact HB2.out.size)
    rw [← hw3, ← hq7]
    have HX7 := Lib.hid hx7
    have HLV := Lib.hid hlv
    have H0N := Lib.hid h0n
    have HNE := Lib.hid hnm
    have HPP := Lib.hid hpp
    have HTT := Lib.hid ht
    have HF2 := Lib.hid (free_any to_ w3 tb T f p K (H.out.new HB3.out))
    obtain ⟨r2, hr2⟩ : ∃ r, r = freeT T to_ := ⟨_, rfl⟩
    rw [← hr2] at HF2
    have HG0 : Hid (g = moveOn T n r2) := Lib.hid (by
      rw [HG.out, hr2]
      simp only []
      rcases freeT T to_ with e | ⟨d, nm⟩ <;> rfl)
    have HR2 := Lib.hid hr2
    clear hw3 hq7 hx7 he hnm hpp hlv h0n ht hr2 HG
    go_upto_region 5 with (go_at_call 49; refine HF2.out.mono ?_; intro e w4 h4; obtain ⟨HB4, ⟨x4, hx4, rfl, HE4⟩ | ⟨d, nm, rfl, HE4⟩⟩ := h4.is HR2.out H.out.wf; clear h4)
    · rw [HE4.out] at HG0
      go_wp2_with fail
      go_ret
      exact RetA.same H.out HG0.out (bthen HB3.out HB4.out)
    · obtain ⟨he4, hdl, hdk, hnm, hch⟩ := HE4.out
      rw [he4] at HG0
      have HFD := Lib.hid (And.intro hdl (And.intro hdk (And.intro hnm hch)))
      have HB4' := Lib.hid (bthen HB3.out HB4.out)
      have HT4 := Lib.hid (H.out.new HB4'.out)
      obtain ⟨c0b, cc0, cc1, cc2, -, -, -⟩ := (HX7.out.below HB4.out).all3
      obtain ⟨B0, hB0⟩ := dep_bound T
      have HHOLD : Hid ((nd T n).kind = 1 → Calls Tryz.prog 160 #[.pointer (some ⟨p n, 0, none⟩), .pointer (some ⟨p d, 0, none⟩)] w4 (RetH w4 T n d)) := Lib.hid (fun hk => by
        obtain ⟨k, hk'⟩ := H.out.wf.dep n HLV.out
        exact holds_any T H.out.wf B0 hB0 tb f p K d hdl hdk B0 n w4 HLV.out hk ⟨k, hk', by omega⟩ HT4.out)
      clear he4 hB0
      -- what comes of it where the node is moved
      have hmove : ∀ w5, Below w4.heap.size w4 w5 → ¬ Under T n d → g = (setI T n { nd T n with inn := d, name := nm }, 0) := fun w5 _ hu => HG0.out.trans (moveOn_out hu)
      have hway : (t = 68 ∧ Hid ((nd T n).kind = 1)) ∨ (t = 73 ∧ Hid (¬ Under T n d)) ∨ (t = 112 ∧ Hid (¬ Under T n d)) := by
        rcases H.out.wf.kin n HLV.out with j | j | j
        · exact .inl ⟨HTT.out.trans (tyK_1 j), Lib.hid j⟩
        · exact .inr (.inl ⟨HTT.out.trans (tyK_2 j), Lib.hid (bare_under H.out.wf hdl hdk (by omega))⟩)
        · exact .inr (.inr ⟨HTT.out.trans (tyK_3 j), Lib.hid (bare_under H.out.wf hdl hdk (by omega))⟩)
      clear hdl hdk hnm hch hmove
      rcases hway with ⟨rfl, HK1⟩ | ⟨rfl, HNU⟩ | ⟨rfl, HNU⟩
      · have HCALL := Lib.hid (HHOLD.out HK1.out)
        go_upto_region 9 with (go_at_call 160; refine HCALL.out.mono ?_; rintro e w5 ⟨b, rfl, hbu, HB5⟩; have HBU := Lib.hid hbu.out; clear hbu)
        · have hbt : b = true := by assumption
          go_ret
          exact RetA.same H.out (HG0.out.trans (moveOn_in (HBU.out.1 hbt))) (bthen HB4'.out HB5.out)
        · have hbf : b = false := by first | assumption | simpa using (by assumption : ¬ b = true)
          have HNU : Hid (¬ Under T n d) := Lib.hid (fun g => by have := HBU.out.2 g; rw [hbf] at this; cases this)
          have HB5' := Lib.hid (bthen HB4'.out HB5.out)
          have HT5 := Lib.hid (H.out.new HB5'.out)
          obtain ⟨hdl, hdk, hnm, hch⟩ := HFD.out
          obtain ⟨hpl, hpk⟩ := H.out.wf.par n H0N.out HLV.out
          obtain ⟨mo, hfo, hfop, hbo, hdo⟩ := HT5.out.dir hpl hpk
          obtain ⟨md, hfd, hfdp, hbd, hdd⟩ := HT5.out.dir hdl hdk
          have hl0 : (nd T n).name.length ≤ maxLen := by have := (nameB_is.1 (H.out.wf.nam n H0N.out HLV.out)).2.1; unfold maxLen; omega
          have hl1 : nm.length ≤ maxLen := by have := (nameB_is.1 hnm).2.1; unfold maxLen; omega
          obtain ⟨w6, hrun, hd6, ho6, -⟩ := (hdo.below (Below.refl _ _).drew).drop hl0 0
          have ho56 : Only (fun k => k = mo) w5 w6 := (only_new (Below.refl _ _).drew).trans (T := fun k => k = mo) ho6 (fun j hj => .inl hj)
          have hqm : ¬ q7 = mo := by have := H.out.lt mo (by rw [hfo]; simp); have := HQ7.out; omega
          have hpm : ¬ p d = mo := fun e => by rw [e, hfo] at hfdp; cases hfdp
          have hx7 := (HX7.out.below HB4.out).below HB5.out
          obtain ⟨b0, c0, c1, c2, -, -, -⟩ := hx7.all3
          obtain ⟨e0, e1, e2, e3, -, -, -⟩ := (hx7.only ho56 hqm).all3
          obtain ⟨l0, l1⟩ := hbo.one
          rw [← HPP.out] at l0 l1
          rw [← HNE.out] at hrun
          obtain ⟨k0, k1⟩ := (hbd.only ho56 hpm).one
          have hmid : ∃ M2, DirIs w6 md K M2 ∧ ∀ m, M2 m = if (nd T n).inn = d ∧ m = (nd T n).name then none else namesM T p d m := by
            by_cases hs : (nd T n).inn = d
            · have hmm : mo = md := by
                have e1 := hbo.cell 0 _ rfl
                have e2 := hbd.cell 0 _ rfl
                rw [hs, e2] at e1
                simpa using e1.symm
              subst hmm
              refine ⟨_, hd6, fun m => ?_⟩
              unfold updD
              rw [hs]
              by_cases e : m = (nd T n).name
              · rw [if_pos e, if_pos ⟨rfl, e⟩]
              · rw [if_neg e, if_neg (fun g => e g.2)]
            · have hmm : ¬ md = mo := fun e => hs (by rw [e, hfo] at hfd; injection hfd with hfd; injection hfd)
              exact ⟨_, hdd.only ho56 hmm, fun m => (if_neg (fun g => hs g.1)).symm⟩
          obtain ⟨M2, hm2, hM2⟩ := hmid
          obtain ⟨w7, hrun7, hd7, ho7, -⟩ := (hm2.below (Below.refl _ _).drew).store (by unfold maxLen; omega) hl1 68 (p n)
          have ho67 : Only (fun k => k = md) w6 w7 := (only_new (Below.refl _ _).drew).trans (T := fun k => k = md) ho7 (fun j hj => .inl hj)
          have HFIN : Hid (RetA w tb f K B g (.returned (.int .i64 0)) w7) := Lib.hid (by
            have ho57 : Only (fun b => b = mo ∨ b = md) w5 w7 := (ho56.mono (fun k hk => .inl hk)).trans (T := fun k => k = md) ho67 (fun j hj => .inl (.inr hj))
            have hres := treeIs_move (w' := w7) HT5.out HLV.out H0N.out hdl hdk hnm hch HNU.out hfo hfd ho57 hbo hbd
              (hd7.congr fun m => by
                unfold updD
                by_cases e : m = nm
                · rw [if_pos e, if_pos e]; unfold vtx; rw [← HTT.out]
                · rw [if_neg e, if_neg e, hM2 m])
              (fun hne => ((hd6.only ho67 (fun e => hne (by rw [← e, hfo] at hfd; injection hfd with hfd; injection hfd))).mono (Nat.le_succ K)))
            rw [HG0.out, moveOn_out HNU.out]
            exact ⟨f, p, rfl, hres, (only_new HB5'.out).trans (T := fun b => b = mo ∨ b = md) ho57 (fun j hj => .inl (by rcases hj with e | e <;> rw [e]; rw [hfo]; simp; rw [hfd]; simp)), fun b hb => .inl hb⟩)
          clear hm2 hM2 hd6 hd7 ho7 ho6 ho56 ho67 hx7 hbo hbd hdo hdd hfo hfd hfop hfdp hpl hpk hl0 hl1 hdl hdk hnm hch
          go_region
          go_upto_region 10 with fail
          go_region
          go_wp2_with fail
          go_ret
          exact HFIN.out
      · go_upto_region 9 with (go_at_call 161; refine (holdsF_any _ _ _).mono ?_; rintro e w5 ⟨rfl, h5⟩; have HB5 : Hid (Below w4.heap.size w4 w5) := Lib.hid (by rw [h5]; exact Below.refl _ _); clear h5)
        have HB5' := Lib.hid (bthen HB4'.out HB5.out)
        have HT5 := Lib.hid (H.out.new HB5'.out)
        obtain ⟨hdl, hdk, hnm, hch⟩ := HFD.out
        obtain ⟨hpl, hpk⟩ := H.out.wf.par n H0N.out HLV.out
        obtain ⟨mo, hfo, hfop, hbo, hdo⟩ := HT5.out.dir hpl hpk
        obtain ⟨md, hfd, hfdp, hbd, hdd⟩ := HT5.out.dir hdl hdk
        have hl0 : (nd T n).name.length ≤ maxLen := by have := (nameB_is.1 (H.out.wf.nam n H0N.out HLV.out)).2.1; unfold maxLen; omega
        have hl1 : nm.length ≤ maxLen := by have := (nameB_is.1 hnm).2.1; unfold maxLen; omega
        obtain ⟨w6, hrun, hd6, ho6, -⟩ := (hdo.below (Below.refl _ _).drew).drop hl0 0
        have ho56 : Only (fun k => k = mo) w5 w6 := (only_new (Below.refl _ _).drew).trans (T := fun k => k = mo) ho6 (fun j hj => .inl hj)
        have hqm : ¬ q7 = mo := by have := H.out.lt mo (by rw [hfo]; simp); have := HQ7.out; omega
        have hpm : ¬ p d = mo := fun e => by rw [e, hfo] at hfdp; cases hfdp
        have hx7 := (HX7.out.below HB4.out).below HB5.out
        obtain ⟨b0, c0, c1, c2, -, -, -⟩ := hx7.all3
        obtain ⟨e0, e1, e2, e3, -, -, -⟩ := (hx7.only ho56 hqm).all3
        obtain ⟨l0, l1⟩ := hbo.one
        rw [← HPP.out] at l0 l1
        rw [← HNE.out] at hrun
        obtain ⟨k0, k1⟩ := (hbd.only ho56 hpm).one
        have hmid : ∃ M2, DirIs w6 md K M2 ∧ ∀ m, M2 m = if (nd T n).inn = d ∧ m = (nd T n).name then none else namesM T p d m := by
          by_cases hs : (nd T n).inn = d
          · have hmm : mo = md := by
              have e1 := hbo.cell 0 _ rfl
              have e2 := hbd.cell 0 _ rfl
              rw [hs, e2] at e1
              simpa using e1.symm
            subst hmm
            refine ⟨_, hd6, fun m => ?_⟩
            unfold updD
            rw [hs]
            by_cases e : m = (nd T n).name
            · rw [if_pos e, if_pos ⟨rfl, e⟩]
            · rw [if_neg e, if_neg (fun g => e g.2)]
          · have hmm : ¬ md = mo := fun e => hs (by rw [e, hfo] at hfd; injection hfd with hfd; injection hfd)
            exact ⟨_, hdd.only ho56 hmm, fun m => (if_neg (fun g => hs g.1)).symm⟩
        obtain ⟨M2, hm2, hM2⟩ := hmid
        obtain ⟨w7, hrun7, hd7, ho7, -⟩ := (hm2.below (Below.refl _ _).drew).store (by unfold maxLen; omega) hl1 73 (p n)
        have ho67 : Only (fun k => k = md) w6 w7 := (only_new (Below.refl _ _).drew).trans (T := fun k => k = md) ho7 (fun j hj => .inl hj)
        have HFIN : Hid (RetA w tb f K B g (.returned (.int .i64 0)) w7) := Lib.hid (by
          have ho57 : Only (fun b => b = mo ∨ b = md) w5 w7 := (ho56.mono (fun k hk => .inl hk)).trans (T := fun k => k = md) ho67 (fun j hj => .inl (.inr hj))
          have hres := treeIs_move (w' := w7) HT5.out HLV.out H0N.out hdl hdk hnm hch HNU.out hfo hfd ho57 hbo hbd
            (hd7.congr fun m => by
              unfold updD
              by_cases e : m = nm
              · rw [if_pos e, if_pos e]; unfold vtx; rw [← HTT.out]
              · rw [if_neg e, if_neg e, hM2 m])
            (fun hne => ((hd6.only ho67 (fun e => hne (by rw [← e, hfo] at hfd; injection hfd with hfd; injection hfd))).mono (Nat.le_succ K)))
          rw [HG0.out, moveOn_out HNU.out]
          exact ⟨f, p, rfl, hres, (only_new HB5'.out).trans (T := fun b => b = mo ∨ b = md) ho57 (fun j hj => .inl (by rcases hj with e | e <;> rw [e]; rw [hfo]; simp; rw [hfd]; simp)), fun b hb => .inl hb⟩)
        clear hm2 hM2 hd6 hd7 ho7 ho6 ho56 ho67 hx7 hbo hbd hdo hdd hfo hfd hfop hfdp hpl hpk hl0 hl1 hdl hdk hnm hch
        go_region
        go_upto_region 10 with fail
        go_region
        go_wp2_with fail
        go_ret
        exact HFIN.out
      · go_upto_region 9 with (go_at_call 162; refine (holdsL_any _ _ _).mono ?_; rintro e w5 ⟨rfl, h5⟩; have HB5 : Hid (Below w4.heap.size w4 w5) := Lib.hid (by rw [h5]; exact Below.refl _ _); clear h5)
        have HB5' := Lib.hid (bthen HB4'.out HB5.out)
        have HT5 := Lib.hid (H.out.new HB5'.out)
        obtain ⟨hdl, hdk, hnm, hch⟩ := HFD.out
        obtain ⟨hpl, hpk⟩ := H.out.wf.par n H0N.out HLV.out
        obtain ⟨mo, hfo, hfop, hbo, hdo⟩ := HT5.out.dir hpl hpk
        obtain ⟨md, hfd, hfdp, hbd, hdd⟩ := HT5.out.dir hdl hdk
        have hl0 : (nd T n).name.length ≤ maxLen := by have := (nameB_is.1 (H.out.wf.nam n H0N.out HLV.out)).2.1; unfold maxLen; omega
        have hl1 : nm.length ≤ maxLen := by have := (nameB_is.1 hnm).2.1; unfold maxLen; omega
        obtain ⟨w6, hrun, hd6, ho6, -⟩ := (hdo.below (Below.refl _ _).drew).drop hl0 0
        have ho56 : Only (fun k => k = mo) w5 w6 := (only_new (Below.refl _ _).drew).trans (T := fun k => k = mo) ho6 (fun j hj => .inl hj)
        have hqm : ¬ q7 = mo := by have := H.out.lt mo (by rw [hfo]; simp); have := HQ7.out; omega
        have hpm : ¬ p d = mo := fun e => by rw [e, hfo] at hfdp; cases hfdp
        have hx7 := (HX7.out.below HB4.out).below HB5.out
        obtain ⟨b0, c0, c1, c2, -, -, -⟩ := hx7.all3
        obtain ⟨e0, e1, e2, e3, -, -, -⟩ := (hx7.only ho56 hqm).all3
        obtain ⟨l0, l1⟩ := hbo.one
        rw [← HPP.out] at l0 l1
        rw [← HNE.out] at hrun
        obtain ⟨k0, k1⟩ := (hbd.only ho56 hpm).one
        have hmid : ∃ M2, DirIs w6 md K M2 ∧ ∀ m, M2 m = if (nd T n).inn = d ∧ m = (nd T n).name then none else namesM T p d m := by
          by_cases hs : (nd T n).inn = d
          · have hmm : mo = md := by
              have e1 := hbo.cell 0 _ rfl
              have e2 := hbd.cell 0 _ rfl
              rw [hs, e2] at e1
              simpa using e1.symm
            subst hmm
            refine ⟨_, hd6, fun m => ?_⟩
            unfold updD
            rw [hs]
            by_cases e : m = (nd T n).name
            · rw [if_pos e, if_pos ⟨rfl, e⟩]
            · rw [if_neg e, if_neg (fun g => e g.2)]
          · have hmm : ¬ md = mo := fun e => hs (by rw [e, hfo] at hfd; injection hfd with hfd; injection hfd)
            exact ⟨_, hdd.only ho56 hmm, fun m => (if_neg (fun g => hs g.1)).symm⟩
        obtain ⟨M2, hm2, hM2⟩ := hmid
        obtain ⟨w7, hrun7, hd7, ho7, -⟩ := (hm2.below (Below.refl _ _).drew).store (by unfold maxLen; omega) hl1 112 (p n)
        have ho67 : Only (fun k => k = md) w6 w7 := (only_new (Below.refl _ _).drew).trans (T := fun k => k = md) ho7 (fun j hj => .inl hj)
        have HFIN : Hid (RetA w tb f K B g (.returned (.int .i64 0)) w7) := Lib.hid (by
          have ho57 : Only (fun b => b = mo ∨ b = md) w5 w7 := (ho56.mono (fun k hk => .inl hk)).trans (T := fun k => k = md) ho67 (fun j hj => .inl (.inr hj))
          have hres := treeIs_move (w' := w7) HT5.out HLV.out H0N.out hdl hdk hnm hch HNU.out hfo hfd ho57 hbo hbd
            (hd7.congr fun m => by
              unfold updD
              by_cases e : m = nm
              · rw [if_pos e, if_pos e]; unfold vtx; rw [← HTT.out]
              · rw [if_neg e, if_neg e, hM2 m])
            (fun hne => ((hd6.only ho67 (fun e => hne (by rw [← e, hfo] at hfd; injection hfd with hfd; injection hfd))).mono (Nat.le_succ K)))
          rw [HG0.out, moveOn_out HNU.out]
          exact ⟨f, p, rfl, hres, (only_new HB5'.out).trans (T := fun b => b = mo ∨ b = md) ho57 (fun j hj => .inl (by rcases hj with e | e <;> rw [e]; rw [hfo]; simp; rw [hfd]; simp)), fun b hb => .inl hb⟩)
        clear hm2 hM2 hd6 hd7 ho7 ho6 ho56 ho67 hx7 hbo hbd hdo hdd hfo hfd hfop hfdp hpl hpk hl0 hl1 hdl hdk hnm hch
        go_region
        go_upto_region 10 with fail
        go_region
        go_wp2_with fail
        go_ret
        exact HFIN.out

end Go.Proofs.YthjpighlcalocaaGreatDoor
