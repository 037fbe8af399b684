/-
  Marks do not matter to who serves. Mathematics alone.
  What who serves replies is small. Mathematics alone.
  sameReply of two equal replies.
  The table of acts as the law's condition lays it.
  How a list of Calls that comes in is opened.
  The walk of ServeMarks.
-/
import Derived.Test.YthjpighlcalocaaGreatDoorSvBase
import Derived.Test.YthjpighlcalocaaGreatDoorSvDo
import Derived.Test.YthjpighlcalocaaGreatDoorSameKeep
import Derived.Test.YthjpighlcalocaaGreatDoorStKeep
import Derived.Test.YthjpighlcalocaaGreatDoorBox7
import Derived.Test.YthjpighlcalocaaGreatDoorTool
import Derived.Test.YthjpighlcalocaaGreatDoorRows
import Derived.Lib.LaidTab
import Derived.Stop.LaidErr
import Derived.Test.YthjpighlcalocaaGreatDoorRowArg
import Derived.Test.YthjpighlcalocaaGreatDoorSvKeep
import Derived.Deep.Fields
namespace Go.Proofs.YthjpighlcalocaaGreatDoor
set_option linter.unusedVariables false

def bumpQ (b : Int) (r : Sq) : Sq := { r with mrk := r.mrk + b }
def bumpR (b : Int) (r : Sr) : Sr := { r with mrk := r.mrk + b }
theorem serveS_bump (s : Sd) (b : Int) (r : Sq) : serveS s (bumpQ b r) = serveS s r := by
  rcases r with ⟨kd, mrk, p, q, how, han, a, c, data⟩; rfl
theorem doS_bump (s : Sd) (b : Int) (r : Sq) : doS s (bumpQ b r) = ((doS s r).1, bumpR b (doS s r).2) := by
  unfold doS
  rw [serveS_bump]
  rfl
theorem repS_bump (b : Int) (l : List Sq) : ∀ s, repS s (l.map (bumpQ b)) = (repS s l).map (bumpR b) := by
  induction l with
  | nil => intro s; rfl
  | cons r l ih =>
    intro s
    show (doS s (bumpQ b r)).2 :: repS (doS s (bumpQ b r)).1 (l.map (bumpQ b)) = bumpR b (doS s r).2 :: (repS (doS s r).1 l).map (bumpR b)
    rw [doS_bump, ih]
theorem repS_mrk (l : List Sq) : ∀ s, (repS s l).map Sr.mrk = l.map Sq.mrk := by
  induction l with
  | nil => intro s; rfl
  | cons r l ih => intro s; show r.mrk :: _ = _; rw [ih]; rfl

end Go.Proofs.YthjpighlcalocaaGreatDoor

namespace Go.Proofs.YthjpighlcalocaaGreatDoor
set_option linter.unusedVariables false

def SmallN (T : Wd) (c : Nat) (x : Sn) : Prop := x.data.length ≤ c ∧ x.names.length ≤ T.length
theorem small_e (T : Wd) (c : Nat) (e : Int) : SmallN T c (snE e) := ⟨Nat.zero_le _, Nat.zero_le _⟩
theorem act_small (T : Wd) (a : Ac) (c : Nat) (hc : a.kind = 4 → a.count.toNat ≤ c) : SmallN T c (actT T a).2 := by
  unfold actT
  split
  · exact small_e _ _ _
  · split
    · exact small_e _ _ _
    · split
      · split
        · exact small_e _ _ _
        · exact small_e _ _ _
      · split
        · unfold workT
          split
          · exact small_e _ _ _
          · split
            · unfold fileT
              split
              · split
                · exact small_e _ _ _
                · split
                  · exact small_e _ _ _
                  · exact ⟨Nat.zero_le _, Nat.zero_le _⟩
              · split
                · rename_i h4
                  split
                  · exact small_e _ _ _
                  · refine ⟨?_, Nat.zero_le _⟩
                    have := hc h4
                    simp only [List.length_take]
                    omega
                · split
                  · exact small_e _ _ _
                  · exact ⟨Nat.zero_le _, Nat.zero_le _⟩
            · exact small_e _ _ _
        · split
          · unfold statT
            split
            · exact small_e _ _ _
            · split <;> exact ⟨Nat.zero_le _, Nat.zero_le _⟩
          · split
            · unfold listT
              split
              · exact small_e _ _ _
              · split
                · refine ⟨Nat.zero_le _, ?_⟩
                  show (sorted _).length ≤ _
                  unfold sorted
                  rw [List.length_mergeSort]
                  exact kids_length _
                · exact small_e _ _ _
            · split
              · exact small_e _ _ _
              · split <;> exact small_e _ _ _
theorem doS_small (s : Sd) (r : Sq) : (doS s r).2.data.length ≤ 100 ∧ (doS s r).2.names.length ≤ s.T.length := by
  show (serveS s r).2.data.length ≤ 100 ∧ (serveS s r).2.names.length ≤ s.T.length
  have hact : ∀ path, (r.kd = 3 → r.c ≤ 100) → (actS s path r).2.data.length ≤ 100 ∧ (actS s path r).2.names.length ≤ s.T.length := fun path h3 => by
    refine act_small s.T (acOf path r) 100 (fun h4 => ?_)
    have : actK r.kd = 4 := h4
    have hk : r.kd = 3 := by
      unfold actK at this
      split at this
      · assumption
      · repeat' split at this
        all_goals omega
    have := h3 hk
    show r.c.toNat ≤ 100
    omega
  unfold serveS
  split
  · exact ⟨Nat.zero_le _, Nat.zero_le _⟩
  · split
    · exact ⟨Nat.zero_le _, Nat.zero_le _⟩
    · split
      · unfold workS
        rcases findH s.hs r.han with _ | i
        · exact ⟨Nat.zero_le _, Nat.zero_le _⟩
        · simp only
          by_cases c1 : bt (if r.kd = 4 then 2 else 1) (plAt s.hs i).how = false
          · rw [if_pos c1]; exact ⟨Nat.zero_le _, Nat.zero_le _⟩
          · rw [if_neg c1]
            by_cases c2 : (if r.kd = 4 then decide (r.data.length ≤ 100) else decide (1 ≤ r.c ∧ r.c ≤ 100)) = false
            · rw [if_pos c2]; exact ⟨Nat.zero_le _, Nat.zero_le _⟩
            · rw [if_neg c2]
              refine hact _ (fun h3 => ?_)
              rw [if_neg (by omega)] at c2
              simp at c2
              exact c2.2
      · split
        · exact hact _ (fun h3 => by omega)
        · exact ⟨Nat.zero_le _, Nat.zero_le _⟩
theorem repS_small (l : List Sq) : ∀ s, ∀ t ∈ repS s l, t.data.length ≤ 100 ∧ t.names.length ≤ s.T.length + l.length := by
  induction l with
  | nil => intro s t h; cases h
  | cons r l ih =>
    intro s t h
    have h1 := doS_small s r
    have h2 := doS_len s r (actT_len s.T)
    rcases List.mem_cons.1 h with rfl | h
    · exact ⟨h1.1, by simp only [List.length_cons]; omega⟩
    · have := ih _ t h
      exact ⟨this.1, by simp only [List.length_cons]; omega⟩

end Go.Proofs.YthjpighlcalocaaGreatDoor

namespace Go.Proofs.YthjpighlcalocaaGreatDoor
open Go.RowKit
set_option linter.unusedVariables false
set_option linter.unusedSimpArgs false

theorem Bx.cells7 {t : TypeId} {w : World} {B : Nat} {a0 a1 a2 a3 a4 a5 a6 : Value} (h : Bx t w B #[a0, a1, a2, a3, a4, a5, a6]) :
    B < w.heap.size ∧ w.cell? ⟨B, 0, none⟩ = some a0 ∧ w.cell? ⟨B, 1, none⟩ = some a1 ∧ w.cell? ⟨B, 2, none⟩ = some a2 ∧ w.cell? ⟨B, 3, none⟩ = some a3 ∧ w.cell? ⟨B, 4, none⟩ = some a4 ∧ w.cell? ⟨B, 5, none⟩ = some a5 ∧ w.cell? ⟨B, 6, none⟩ = some a6 ∧ ∀ j, w.frozen? ⟨B, j, none⟩ = false :=
  ⟨h.lt, h.cell 0 _ rfl, h.cell 1 _ rfl, h.cell 2 _ rfl, h.cell 3 _ rfl, h.cell 4 _ rfl, h.cell 5 _ rfl, h.cell 6 _ rfl, fun j => h.soft j⟩
set_option maxHeartbeats 4000000 in
theorem rep_at_packthreadkeep (mrk code han kd sz : Int) (D E N M : Option Addr) (m d d' n c c' : Nat) (zs : List Int) (ns : List Byt) (w : World) (hD : Ls byS w D zs) (hE : Ls byS w E zs) (hm : zs.length = m) (h47 : m ≤ 140737488355328) (hN : Ls stS w N ns) (hM : Ls stS w M ns) (hn : ns.length = n) (hn2 : n ≤ 1000000) :
    Calls Tryz.prog 17 #[.agg #[.int .i64 mrk, .int .i64 code, .int .i64 han, .int .i64 kd, .int .i64 sz, .slice D m d, .slice N n c], .agg #[.int .i64 mrk, .int .i64 code, .int .i64 han, .int .i64 kd, .int .i64 sz, .slice E m d', .slice M n c']] w fun e w' => e = .returned (.bool true) ∧ Below w.heap.size w w' := by
  obtain ⟨wx, hwx⟩ : ∃ wx, wx = (w.alloc (.cells #[.int .i64 mrk, .int .i64 code, .int .i64 han, .int .i64 kd, .int .i64 sz, .slice D m d, .slice N n c] 39)).alloc (.cells #[.int .i64 mrk, .int .i64 code, .int .i64 han, .int .i64 kd, .int .i64 sz, .slice E m d', .slice M n c'] 39) := ⟨_, rfl⟩
  obtain ⟨P, hP⟩ : ∃ P, P = w.heap.size := ⟨_, rfl⟩
  obtain ⟨Q, hQ⟩ : ∃ Q, Q = w.heap.size + 1 := ⟨_, rfl⟩
  have HBX : Hid (Below w.heap.size w wx) := Lib.hid (by rw [hwx]; exact ba2 _ _ _)
  have hp : Bx 39 wx P #[.int .i64 mrk, .int .i64 code, .int .i64 han, .int .i64 kd, .int .i64 sz, .slice D m d, .slice N n c] := by rw [hwx, hP]; exact (bx_new w _ _).below (ba1 _ _)
  have hq : Bx 39 wx Q #[.int .i64 mrk, .int .i64 code, .int .i64 han, .int .i64 kd, .int .i64 sz, .slice E m d', .slice M n c'] := by
    have := bx_new (w.alloc (.cells #[.int .i64 mrk, .int .i64 code, .int .i64 han, .int .i64 kd, .int .i64 sz, .slice D m d, .slice N n c] 39)) 39 #[.int .i64 mrk, .int .i64 code, .int .i64 han, .int .i64 kd, .int .i64 sz, .slice E m d', .slice M n c']
    rw [World.size_alloc] at this
    rw [hwx, hQ]; exact this
  obtain ⟨lp, p0, p1, p2, p3, p4, p5, p6, -⟩ := hp.cells7
  have HP := Lib.hid hp
  have HQ := Lib.hid hq
  obtain ⟨lq, q0, q1, q2, q3, q4, q5, q6, -⟩ := hq.cells7
  have HSM : Hid (Calls Tryz.prog 19 #[.slice D m d, .slice E m d'] wx fun e w' => e = .returned (.bool true) ∧ Below wx.heap.size wx w') := Lib.hid (same_keep D m d E d' zs wx (hD.below HBX.out) (hE.below HBX.out) hm h47)
  have HN := Lib.hid (hN.below HBX.out)
  have HM := Lib.hid (hM.below HBX.out)
  have HNL := Lib.hid hn
  clear hD hE hm hp hq hN hM hn
  go_enter Tryz.func17, Tryz.ntmps17
  go_upto_region 1 with fail
  rw [← hwx, ← hQ, ← hP]
  clear hwx hP hQ
  go_wp2_with (first
    | (go_at_call 19; (with_reducible refine HSM.out.mono ?_); rintro e w3 ⟨rfl, hb3⟩; have HB3 := Lib.hid hb3; have HTX : Hid (Calls Tryz.prog 31 #[.slice N n c, .slice M n c'] w3 fun e w' => e = .returned (.bool true) ∧ Below w3.heap.size w3 w') := Lib.hid (texts_keep N n c M c' ns w3 (HN.out.below hb3) (HM.out.below hb3) HNL.out hn2); have p6 := (HP.out.below hb3).cell 6 _ rfl; have q6 := (HQ.out.below hb3).cell 6 _ rfl; have lp := (HP.out.below hb3).lt; have lq := (HQ.out.below hb3).lt; clear hb3)
    | (go_at_call 31; (with_reducible refine HTX.out.mono ?_); rintro e w4 ⟨rfl, hb4⟩; have HB4 := Lib.hid hb4; clear hb4))
  go_ret
  exact ⟨rfl, bthen HBX.out (bthen HB3.out HB4.out)⟩

end Go.Proofs.YthjpighlcalocaaGreatDoor

namespace Go.Proofs.YthjpighlcalocaaGreatDoor
set_option linter.unusedVariables false

theorem tab_laid {W : World} {x : String × DataW Unit} {r : List (String × DataW Unit)} (h : laidMet Tryz.prog (x :: ("packthread/server.acts", Rows.laid_packthread_server_acts) :: r) W) : TabAt W ∧ 0 < W.heap.size := by
  have hg : Tryz.prog.globalNamed "packthread/server.acts" = some 0 := by kernel_rfl
  have hT : Lib.TabIs Tryz.prog W "packthread/server.acts" .i64 actZ := Lib.tabIs_of_head hg (by kernel_rfl) Tryz.underlying155 Tryz.underlying3 (by kernel_rfl) (by kernel_rfl) h.tail
  exact ⟨fun i hi => hT.cell hg i hi, World.block_lt_of_cell? W ⟨0, 0, none⟩ (hT.cell hg 0 (by decide))⟩

end Go.Proofs.YthjpighlcalocaaGreatDoor

namespace Go.Proofs.YthjpighlcalocaaGreatDoor
open Go.Joins Go.ChangeShapes Go.WideShapes Go.ChangeAt Go.RowKit Go.Deep
set_option linter.unusedVariables false

theorem cvrSize : Tryz.prog.bytesOf 66 = 48 := by kernel_rfl
def CvIn1 (W : World) (x : Cv) : Prop := (Ls byS W x.D x.data ∧ x.data.length = x.m ∧ x.m ≤ x.d ∧ x.d ≤ 140737488351232) ∧ Oct x.data ∧ i64in' x.kind ∧ i64in' x.a ∧ i64in' x.b
theorem cv_each {H : Type} {enc : TypeId × Value → H} {W : World} {fs : Array Field} (hu : Tryz.prog.underlying 66 = some (.struct fs)) (n : Nat) (vs : List Value) (ys : List (DataW H × List MemPlace)) (hv : vs.length = 4) (hy : ys.length = 4)
    (hf : ∀ (j : Nat) f u, fs[j]? = some f → vs[j]? = some u → DataW.trod enc Tryz.prog W 0 (fun _ => true) true n f.type [u] = ys[j]?) (hw : ∀ z ∈ DataW.weightsEach Tryz.prog (fs.toList.map (·.type)) (ys.map (·.1)), z ≤ reachBytes) :
    ∃ y : Cv, cvS.cells y = vs ∧ CvIn1 W y := by
  have hu' := Tryz.underlying66
  rw [hu] at hu'
  injection hu' with hu'
  injection hu' with hu'
  subst hu'
  match vs, ys, hv, hy with
  | [v0, v1, v2, v3], [y0, y1, y2, y3], _, _ =>
    have w3 : ∀ z ∈ y3.1.weights Tryz.prog 28, z ≤ reachBytes := fun z hz => hw z (DataW.weights_mem_each (j := 3) rfl rfl z hz)
    obtain ⟨z0, e0, -, f0⟩ := DataW.trod_int Tryz.underlying3 (hf 0 _ _ rfl rfl)
    obtain ⟨z1, e1, -, f1⟩ := DataW.trod_int Tryz.underlying3 (hf 1 _ _ rfl rfl)
    obtain ⟨z2, e2, -, f2⟩ := DataW.trod_int Tryz.underlying3 (hf 2 _ _ rfl rfl)
    obtain ⟨A3, n3, c3, l3, rfl, g1, g2, g3, g4, g5⟩ := open_by (hf 3 _ _ rfl rfl) w3
    simp at e0 e1 e2
    subst e0; subst e1; subst e2
    have h0 : i64in' z0 := by simpa [i64in', Lit.wf, IntKind.min, IntKind.max, IntKind.signed, IntKind.bits] using f0
    have h1 : i64in' z1 := by simpa [i64in', Lit.wf, IntKind.min, IntKind.max, IntKind.signed, IntKind.bits] using f1
    have h2 : i64in' z2 := by simpa [i64in', Lit.wf, IntKind.min, IntKind.max, IntKind.signed, IntKind.bits] using f2
    exact ⟨⟨z0, z1, z2, A3, n3, c3, l3⟩, rfl, ⟨g1, g2, g3, by simp only; omega⟩, g5, h0, h1, h2⟩

set_option maxRecDepth 100000 in
theorem open_cvs {H : Type} {enc : TypeId × Value → H} {W : World} {base : Nat} {v : Value} {d : DataW H} {ps : List MemPlace}
    (hval : Value.okWide Tryz.prog W .any base 41 v) (h : DataW.Trod enc Tryz.prog W 0 (fun _ => true) true 41 v d ps) (hs : ∀ z ∈ d.weights Tryz.prog 41, z ≤ reachBytes) :
    ∃ A n c l, v = .slice A n c ∧ Ls cvS W A l ∧ l.length = n ∧ n ≤ c ∧ c ≤ 2932031007402 ∧ ∀ x ∈ l, CvIn1 W x := by
  obtain ⟨A, n, c, rfl⟩ := okWide_slice Tryz.underlying41 hval
  obtain ⟨fuel, hf⟩ := h
  have hf' : DataW.trod enc Tryz.prog W 0 (fun _ => true) true fuel 41 [.slice A n c] = some (d, ps) := by simpa [Value.cells] using hf
  obtain ⟨A', n', c', l, h1, h2, h3, h4, h5, h6⟩ := open_rows (F := cvS) (Q := CvIn1 W) Tryz.underlying41 Tryz.underlying66 (by kernel_rfl) rfl (fun j f hj => hone_of (by kernel_rfl) j f hj) (cv_each Tryz.underlying66) hf' hs
  rw [cvrSize] at h5
  simp only [reachBytes] at h5
  injection h1 with e1 e2 e3
  subst e1; subst e2; subst e3
  exact ⟨A, n, c, l, rfl, h2, h3, h4, by omega, h6⟩

end Go.Proofs.YthjpighlcalocaaGreatDoor

namespace Go.Proofs.YthjpighlcalocaaGreatDoor
open Go.RowKit
set_option linter.unusedVariables false
set_option linter.unusedSimpArgs false

theorem OwnL.putP {α : Type} {F : Shape α} {e : TypeId} {w : World} {base g : Nat} {n c : Nat} {l : List α} (h : OwnL F e w base (some ⟨g, 0, none⟩) n c l) (k : Nat) (x y : α) (j : Nat) (v : Value) (hk : l[k]? = some x) (hj : j < F.size) (hy : F.cells y = (F.cells x).set j v) :
    OwnL F e (w.setCell ⟨g, k * F.size + j, none⟩ v) base (some ⟨g, 0, none⟩) n c (l.set k y) := by
  obtain ⟨h1, h2⟩ := h.2.stored (k * F.size + j) v
  refine ⟨by rw [List.length_set]; exact h.1, ?_⟩
  rw [flat_setP F l k x y j v hk hj hy]; exact h1
theorem OwnL.softP {α : Type} {F : Shape α} {e : TypeId} {w : World} {base g : Nat} {n c : Nat} {l : List α} (h : OwnL F e w base (some ⟨g, 0, none⟩) n c l) (j : Nat) : w.frozen? ⟨g, j, none⟩ = false := h.2.frozenAt j
def bumpV (b : Int) (y : Sqv) : Sqv := { y with x := bumpQ b y.x }
/-- the first j are raised -/
def bumpL (b : Int) (xs : List Sqv) (j : Nat) : List Sqv := (xs.take j).map (bumpV b) ++ xs.drop j
theorem bumpL_zero (b : Int) (xs : List Sqv) : bumpL b xs 0 = xs := by simp [bumpL]
theorem bumpL_all (b : Int) (xs : List Sqv) {k : Nat} (h : xs.length = k) : bumpL b xs k = xs.map (bumpV b) := by
  unfold bumpL
  rw [List.take_of_length_le (by omega), List.drop_of_length_le (by omega), List.append_nil]
theorem bumpL_at (b : Int) (xs : List Sqv) (j : Nat) (y : Sqv) (h : xs[j]? = some y) : (bumpL b xs j)[j]? = some y ∧ (bumpL b xs j).set j (bumpV b y) = bumpL b xs (j + 1) := by
  have hl := (List.getElem?_eq_some_iff.1 h).1
  have hd : xs.drop j = y :: xs.drop (j + 1) := by rw [List.drop_eq_getElem_cons hl]; congr 1; simpa [List.getElem?_eq_getElem hl] using h
  have ht : ((xs.take j).map (bumpV b)).length = j := by simp; omega
  unfold bumpL
  constructor
  · rw [List.getElem?_append_right (by omega), ht, Nat.sub_self, hd]; rfl
  · rw [List.set_append_right _ _ (by omega), ht, Nat.sub_self, hd, List.take_add_one, h]
    simp

set_option maxRecDepth 100000 in
set_option maxHeartbeats 8000000 in
theorem walkServeMarks (L : Option Addr) (n c : Nat) (l : List Cv) (by_ : Int) (w : World) (ht : TabAt w) (h0w : 0 < w.heap.size) (hb : Ls cvS w L l) (hl : l.length = n) (hin : CvIn w l) (hn : n ≤ 100000000000000) (hby : i64in' by_) :
    Calls Tryz.prog 5 #[.slice L n c, .int .i64 by_] w fun e w' => e = .returned (.bool true) ∧ Below w.heap.size w w' := by
  have HT := Lib.hid ht
  have HRQ : Hid (Calls Tryz.prog 14 #[.slice L n c, .int .i64 80] w (RetRq w 80)) := Lib.hid (requests_any L n c 80 l w hb hl hin hn (by omega))
  obtain ⟨b, HBB, hb1000⟩ := pick_nat by_ 1000 (by omega)
  have HPB := Lib.hid (fun wx => picked_n by_ 1000 b wx HBB hby.1 hby.2 (by omega) (by omega))
  have HSD : Hid (∀ (A : Option Addr) (k c : Nat) (xs : List Sqv) wx, Below w.heap.size w wx → k ≤ 300 → Ls sqS wx A xs → xs.length = k → SqIn wx xs → Calls Tryz.prog 15 #[.slice A k c] wx (RetSd wx (repS sd0 (xs.map Sqv.x)))) := Lib.hid (fun A k c xs wx hw hk hx hk2 hi => served_any A k c xs wx (HT.out.below hw h0w) (Nat.lt_of_lt_of_le h0w hw.size) hk hx hk2 hi)
  clear ht hb hl hin hby
  go_enter Tryz.func5, Tryz.ntmps5
  go_upto_region 2 with (go_at_call 14; (with_reducible refine HRQ.out.mono ?_); rintro e w1 ⟨k, A1, c1, xs, rfl, hk80, ho1, hs1, hb1⟩; have HO1 := Lib.hid ho1; have HS1 := Lib.hid hs1; have HB1 := Lib.hid hb1; clear ho1 hs1 hb1)
  obtain ⟨ts, hts⟩ : ∃ ts, ts = repS sd0 (xs.map Sqv.x) := ⟨_, rfl⟩
  have HTL : Hid (ts.length = k) := Lib.hid (by rw [hts, repS_len, List.length_map, HO1.out.1])
  have HTS := Lib.hid hts
  have HSM : Hid (∀ t ∈ ts, t.data.length ≤ 100 ∧ t.names.length ≤ 1000) := Lib.hid (fun t h => by
    rw [hts] at h
    have h1 := repS_small _ _ t h
    have h2 : sd0.T.length = 1 := rfl
    rw [List.length_map, HO1.out.1, h2] at h1
    exact ⟨h1.1, by omega⟩)
  have HC1 : Hid (Calls Tryz.prog 15 #[.slice A1 k c1] w1 (RetSd w1 ts)) := Lib.hid (by rw [hts]; exact HSD.out A1 k c1 xs w1 HB1.out (by omega) HO1.out.ls HO1.out.1 HS1.out.sqin)
  clear hts
  go_upto_region 3 with (go_at_call 15; (with_reducible refine HC1.out.mono ?_); rintro e w2 ⟨A2, c2, l2, rfl, ho2, hm2, hi2, hb2⟩; have HO2 := Lib.hid ho2; have HM2 := Lib.hid hm2; have HI2 := Lib.hid hi2; have HB2 := Lib.hid hb2; clear ho2 hm2 hi2 hb2)
  rw [HTL.out] at HO2 ⊢
  have HO12 := Lib.hid (HO1.out.below HB2.out)
  have HS12 := Lib.hid (HS1.out.new HB2.out)
  have HB12 : Hid (Below w.heap.size w w2) := Lib.hid (bthen HB1.out HB2.out)
  go_upto_region 5 with (at_builtin; refine wpList_appL (F := sqS) rfl _ (.const (.slice none 0 0)) (.tmp 21) 33 rfl _ 104 Tryz.underlying33 sqInfo rfl w2.heap.size none 0 0 [] rfl (OwnL.nil _ _) A1 k c1 xs rfl HO12.out.ls HO12.out.1 k (by omega) (by omega) (by omega) (Nat.le_refl _) ?_; intro A3 c3 w3 ho3 hb3 _; rw [List.nil_append] at ho3; have HO3 := Lib.hid ho3; have HB3 := Lib.hid hb3; clear ho3 hb3)
  have HO13 := Lib.hid (HO12.out.below HB3.out)
  have HS13 := Lib.hid (HS12.out.new HB3.out)
  have HO23 := Lib.hid (HO2.out.below HB3.out)
  have HI23 := Lib.hid (HI2.out.new HB3.out)
  have HB13 : Hid (Below w.heap.size w w3) := Lib.hid (bthen HB12.out HB3.out)
  go_loopw [9] (fun i wr => ∃ j : Nat, j ≤ k ∧ i = .int .i64 j ∧ OwnL sqS 46 wr w2.heap.size A3 k c3 (bumpL b xs j) ∧ Only (fun q => (Value.slice A3 k c3).ownBlock = some q) w3 wr) (fun i _ => k - (intOf i).toNat)
  case atStart => exact ⟨0, Nat.zero_le _, rfl, by rw [bumpL_zero]; exact HO3.out, Only.refl _ _⟩
  case round =>
    obtain ⟨j, hj, rfl, hoj, hon⟩ := hrel
    have HOJ := Lib.hid hoj
    have HON := Lib.hid hon
    clear hoj hon
    by_cases hlt : j < k
    · have hji : (j : Int) < (k : Int) := by omega
      obtain ⟨⟨⟨kd, mrk, pp, qq, how, han, a, cc, data⟩, D, dm, dd⟩, hy⟩ : ∃ y, xs[j]? = some y := ⟨_, List.getElem?_eq_getElem (by rw [HO1.out.1]; exact hlt)⟩
      obtain ⟨g1, g2⟩ := bumpL_at b xs j _ hy
      obtain ⟨gg, rfl⟩ : ∃ g, A3 = some ⟨g, 0, none⟩ := by
        rcases HOJ.out.addr with ⟨-, h0, -⟩ | ⟨g, h, -⟩
        · omega
        · exact ⟨g, h⟩
      obtain ⟨b3, o3, he, hbl, hcc⟩ := HOJ.out.ls.at j _ g1
      injection he with he
      injection he with e1 e2
      subst e1; subst e2
      have r1 := hcc 1 (.int .i64 mrk) rfl
      simp only [sqS, Nat.zero_add] at r1
      have f1 := HOJ.out.softP (j * 9 + 1)
      have HPUT := Lib.hid (HOJ.out.putP j ⟨⟨kd, mrk, pp, qq, how, han, a, cc, data⟩, D, dm, dd⟩ (bumpV b ⟨⟨kd, mrk, pp, qq, how, han, a, cc, data⟩, D, dm, dd⟩) 1 (.int .i64 (mrk + b)) g1 (by decide) rfl)
      rw [g2] at HPUT
      obtain ⟨-, -, -, hmr, -⟩ := HS13.out _ (List.mem_of_getElem? hy)
      simp only at hmr
      have hwm : IntKind.i64.wrap (mrk + (b : Int)) = mrk + (b : Int) := by rw [IntKind.wrap_i64]; omega
      have b1 := cell_drew1 r1
      clear hcc hy g1 g2 hmr
      go_upto_region 7 with fail
      go_region_with ((go_at_call 16; (with_reducible refine (HPB.out _).mono ?_); rintro e w9 ⟨rfl, rfl⟩))
      all_goals
        go_wp2_with fail
      all_goals
        exact ⟨⟨j + 1, by omega, by go_num, HPUT.out.below (Below.refl _ _).drew, (HON.out.setCell (.inl rfl) _).drew⟩, by simp [intOf]; omega⟩
    · obtain rfl : j = k := by omega
      have hjj : ¬ (j : Int) < (j : Int) := by omega
      obtain ⟨wo, rfl⟩ : ∃ wo, wo = wr := ⟨_, rfl⟩
      rw [bumpL_all _ _ HO1.out.1] at HOJ
      have HO3F := HOJ
      have hrow := fun q (hq : (Value.slice A3 j c3).ownBlock = some q) => HO3.out.lt q hq
      have hB3 := HB3.out.size
      have hoff1 : ∀ q, (Value.slice A1 j c1).ownBlock = some q → q < w2.heap.size := fun q hq => (HO12.out.lt q hq).2
      have hoff2 : ∀ q, (Value.slice A2 j c2).ownBlock = some q → q < w2.heap.size := fun q hq => (HO2.out.lt q hq).2
      have HO1F : Hid (OwnL sqS 46 wo w.heap.size A1 j c1 xs) := Lib.hid (HO13.out.only HON.out (fun q hq g => by have := hoff1 q hq; have := (hrow q g).1; omega))
      have HO2F : Hid (OwnL rvS 39 wo w1.heap.size A2 j c2 l2) := Lib.hid (HO23.out.only HON.out (fun q hq g => by have := hoff2 q hq; have := (hrow q g).1; omega))
      have HS1F : Hid (SqI wo (fun q => (Value.slice A1 j c1).ownBlock = some q) xs) := Lib.hid (HS12.out.only (S' := fun q => w2.heap.size ≤ q) ((only_new HB3.out).trans (T := fun q => (Value.slice A3 j c3).ownBlock = some q) HON.out (fun q hq => .inl (hrow q hq).1)) (fun q hq => .inr hq) (fun q hq => .inl hq))
      have HI2F : Hid (RvI wo (fun _ => False) l2) := Lib.hid (HI2.out.only (S' := fun q => w2.heap.size ≤ q) ((only_new HB3.out).trans (T := fun q => (Value.slice A3 j c3).ownBlock = some q) HON.out (fun q hq => .inl (hrow q hq).1)) (fun q hq => .inr hq) (fun q hq => .inl hq))
      have HBF : Hid (Below w.heap.size w wo) := Lib.hid (HB13.out.trans (HON.out.below (B := w.heap.size) (fun q hq => by have := (hrow q hq).1; have := HB12.out.size; omega) HB13.out.size))
      have HTB : Hid (repS sd0 ((xs.map (bumpV b)).map Sqv.x) = ts.map (bumpR b)) := Lib.hid (by
        rw [HTS.out, ← repS_bump, List.map_map, List.map_map]
        rfl)
      have HSQB : Hid (SqIn wo (xs.map (bumpV b))) := Lib.hid (fun y hy => by
        obtain ⟨z, hz, rfl⟩ := List.mem_map.1 hy
        exact HS1F.out.sqin z hz)
      have HC2 : Hid (Calls Tryz.prog 15 #[.slice A3 j c3] wo (RetSd wo (ts.map (bumpR b)))) := Lib.hid (by rw [← HTB.out]; exact HSD.out A3 j c3 (xs.map (bumpV b)) wo HBF.out (by omega) HO3F.out.ls HO3F.out.1 HSQB.out)
      clear hrow hoff1 hoff2
      go_upto_region 9 with (go_at_call 15; (with_reducible refine HC2.out.mono ?_); rintro e w4 ⟨A4, c4, l4, rfl, ho4, hm4, hi4, hb4⟩; have HO4 := Lib.hid ho4; have HM4 := Lib.hid hm4; have HI4 := Lib.hid hi4; have HB4 := Lib.hid hb4; clear ho4 hm4 hi4 hb4)
      have h4l : (ts.map (bumpR b)).length = j := by rw [List.length_map]; exact HTL.out
      rw [h4l] at HO4
      rw [HTL.out]
      have HO34 := Lib.hid (HO3F.out.below HB4.out)
      have HO14 := Lib.hid (HO1F.out.below HB4.out)
      have HO24 := Lib.hid (HO2F.out.below HB4.out)
      have HI24 := Lib.hid (HI2F.out.new HB4.out)
      have HBF4 : Hid (Below w.heap.size w w4) := Lib.hid (bthen HBF.out HB4.out)
      go_upto_region 12 with fail
      go_loopw [12] (fun i wr => ∃ q : Nat, q ≤ j ∧ i = .int .i64 q ∧ Below w4.heap.size w4 wr) (fun i _ => j - (intOf i).toNat)
      case atStart => exact ⟨0, Nat.zero_le _, rfl, Below.refl _ _⟩
      case round =>
        obtain ⟨q, hq, rfl, hbq⟩ := hrel
        have HBQ := Lib.hid hbq
        by_cases hql : q < j
        · have hqi : (q : Int) < (j : Int) := by omega
          obtain ⟨y, hy⟩ : ∃ y, xs[q]? = some y := ⟨_, List.getElem?_eq_getElem (by rw [HO1.out.1]; exact hql)⟩
          obtain ⟨x1, hx1⟩ : ∃ x, l2[q]? = some x := ⟨_, List.getElem?_eq_getElem (by rw [HO2.out.1]; exact hql)⟩
          obtain ⟨x2, hx2⟩ : ∃ x, l4[q]? = some x := ⟨_, List.getElem?_eq_getElem (by rw [HO4.out.1]; exact hql)⟩
          have ht1 : ts[q]? = some x1.r := by rw [← HM2.out, List.getElem?_map, hx1]; rfl
          have ht2 : x2.r = bumpR b x1.r := by
            have h1 : (ts.map (bumpR b))[q]? = some x2.r := by rw [← HM4.out, List.getElem?_map, hx2]; rfl
            rw [List.getElem?_map, ht1] at h1
            injection h1 with h1
            exact h1.symm
          have hmy : y.x.mrk = x1.r.mrk := by
            have h1 := repS_mrk (xs.map Sqv.x) sd0
            rw [← HTS.out] at h1
            have h2 := congrArg (fun l => l[q]?) h1
            simp only [List.getElem?_map, ht1, hy, Option.map_some] at h2
            injection h2 with h2
            exact h2.symm
          have hyb : (xs.map (bumpV b))[q]? = some (bumpV b y) := by rw [List.getElem?_map, hy]; rfl
          obtain ⟨ba, oa, rfl, hla, hca⟩ := (HO24.out.below hbq).ls.at q x1 hx1
          obtain ⟨bb, ob, rfl, hlb, hcb⟩ := (HO4.out.below hbq).ls.at q x2 hx2
          obtain ⟨br, or_, rfl, hlr, hcr⟩ := (HO14.out.below hbq).ls.at q y hy
          obtain ⟨bo, oo, rfl, hlo, hco⟩ := (HO34.out.below hbq).ls.at q _ hyb
          obtain ⟨⟨i1, i2, -⟩, i3, i4, -⟩ := HI24.out x1 (List.mem_of_getElem? hx1)
          obtain ⟨⟨j1, j2, -⟩, j3, j4, -⟩ := HI4.out x2 (List.mem_of_getElem? hx2)
          obtain ⟨k1, k2⟩ := HSM.out _ (List.mem_of_getElem? ht1)
          obtain ⟨⟨mrk, code, han, kd, sz, data, names⟩, XA, xn, xc, XN, xm, xd⟩ := x1
          obtain ⟨xr2, YA, yn, yc, YN, ym, yd⟩ := x2
          simp only at ht2 hmy i1 i2 i3 i4 j1 j2 j3 j4 k1 k2
          subst ht2
          have u0 := hca 0 (.int .i64 mrk) rfl
          have u1 := hca 1 (.int .i64 code) rfl
          have u2 := hca 2 (.int .i64 han) rfl
          have u3 := hca 3 (.int .i64 kd) rfl
          have u4 := hca 4 (.int .i64 sz) rfl
          have u5 := hca 5 (.slice XA xn xc) rfl
          have u6 := hca 6 (.slice XN xm xd) rfl
          have v0 := hcb 0 (.int .i64 (mrk + b)) rfl
          have v1 := hcb 1 (.int .i64 code) rfl
          have v2 := hcb 2 (.int .i64 han) rfl
          have v3 := hcb 3 (.int .i64 kd) rfl
          have v4 := hcb 4 (.int .i64 sz) rfl
          have v5 := hcb 5 (.slice YA yn yc) rfl
          have v6 := hcb 6 (.slice YN ym yd) rfl
          have r1 := hcr 1 (.int .i64 y.x.mrk) rfl
          have s1 := hco 1 (.int .i64 (y.x.mrk + b)) rfl
          rw [hmy] at r1 s1
          simp only [rvS, sqS, Nat.add_zero] at u0 u1 u2 u3 u4 u5 u6 v0 v1 v2 v3 v4 v5 v6 r1 s1
          obtain rfl : yn = xn := by simp only [bumpR] at j1; omega
          obtain rfl : ym = xm := by simp only [bumpR] at j3; omega
          have hce : ∀ W, Below w4.heap.size w4 W → (ba < W.heap.size ∧ W.cell? ⟨ba, oa + q * 7, none⟩ = some (.int .i64 mrk) ∧ W.cell? ⟨ba, oa + q * 7 + 1, none⟩ = some (.int .i64 code) ∧ W.cell? ⟨ba, oa + q * 7 + 2, none⟩ = some (.int .i64 han) ∧ W.cell? ⟨ba, oa + q * 7 + 3, none⟩ = some (.int .i64 kd) ∧ W.cell? ⟨ba, oa + q * 7 + 4, none⟩ = some (.int .i64 sz) ∧ W.cell? ⟨ba, oa + q * 7 + 5, none⟩ = some (.slice XA yn xc) ∧ W.cell? ⟨ba, oa + q * 7 + 6, none⟩ = some (.slice XN ym xd)) ∧ (bb < W.heap.size ∧ W.cell? ⟨bb, ob + q * 7, none⟩ = some (.int .i64 (mrk + b)) ∧ W.cell? ⟨bb, ob + q * 7 + 1, none⟩ = some (.int .i64 code) ∧ W.cell? ⟨bb, ob + q * 7 + 2, none⟩ = some (.int .i64 han) ∧ W.cell? ⟨bb, ob + q * 7 + 3, none⟩ = some (.int .i64 kd) ∧ W.cell? ⟨bb, ob + q * 7 + 4, none⟩ = some (.int .i64 sz) ∧ W.cell? ⟨bb, ob + q * 7 + 5, none⟩ = some (.slice YA yn yc) ∧ W.cell? ⟨bb, ob + q * 7 + 6, none⟩ = some (.slice YN ym yd)) := fun W hW => by
            obtain ⟨b1, o1, e1, l1, k1⟩ := (HO24.out.below hW).ls.at q _ hx1
            obtain ⟨b2, o2, e2, l2', k2⟩ := (HO4.out.below hW).ls.at q _ hx2
            injection e1 with e1
            injection e1 with e1 e1'
            injection e2 with e2
            injection e2 with e2 e2'
            subst e1; subst e1'; subst e2; subst e2'
            refine ⟨⟨l1, ?_, ?_, ?_, ?_, ?_, ?_, ?_⟩, l2', ?_, ?_, ?_, ?_, ?_, ?_, ?_⟩
            · exact k1 0 (.int .i64 mrk) rfl
            · exact k1 1 (.int .i64 code) rfl
            · exact k1 2 (.int .i64 han) rfl
            · exact k1 3 (.int .i64 kd) rfl
            · exact k1 4 (.int .i64 sz) rfl
            · exact k1 5 (.slice XA yn xc) rfl
            · exact k1 6 (.slice XN ym xd) rfl
            · exact k2 0 (.int .i64 (mrk + b)) rfl
            · exact k2 1 (.int .i64 code) rfl
            · exact k2 2 (.int .i64 han) rfl
            · exact k2 3 (.int .i64 kd) rfl
            · exact k2 4 (.int .i64 sz) rfl
            · exact k2 5 (.slice YA yn yc) rfl
            · exact k2 6 (.slice YN ym yd) rfl
          have HCE := Lib.hid hce
          have HDA := Lib.hid i2
          have HDB := Lib.hid j2
          have HNA := Lib.hid i4
          have HNB := Lib.hid j4
          have HIL := Lib.hid (And.intro (And.intro i1 i3) (And.intro k1 k2))
          clear hce hca hcb hcr hco i2 j2 i4 j4 i1 i3 j1 j3 k1 k2 hx1 hx2 hy hyb ht1 hmy hbq
          go_upto_region 14 with fail
          go_quiet (fail)
          generalize hwd : World.drewN wr _ = wd
          have HBd : Hid (Below w4.heap.size w4 wd) := Lib.hid (by rw [← hwd]; exact bthen HBQ.out (below_drewN (Below.refl _ _) _))
          clear hwd u0 u1 u2 u3 u4 u5 u6 v0 v1 v2 v3 v4 v5 v6 r1 s1 hla hlb hlr hlo
          obtain ⟨⟨hla, u0, u1, u2, u3, u4, u5, u6⟩, hlb, v0, v1, v2, v3, v4, v5, v6⟩ := HCE.out wd HBd.out
          go_upto_region 17 with fail
          obtain ⟨q13, hq13⟩ : ∃ q, q = wd.heap.size := ⟨_, rfl⟩
          obtain ⟨w7, hw7⟩ : ∃ w7, w7 = wd.alloc (.cells #[.int .i64 (mrk + b), .int .i64 code, .int .i64 han, .int .i64 kd, .int .i64 sz, .slice YA yn yc, .slice YN ym yd] 39) := ⟨_, rfl⟩
          have HB7 : Hid (Below w4.heap.size w4 w7) := Lib.hid (by rw [hw7]; exact bthen HBd.out (ba1 _ _))
          have HX13 : Hid (Bx 39 w7 q13 #[.int .i64 (mrk + b), .int .i64 code, .int .i64 han, .int .i64 kd, .int .i64 sz, .slice YA yn yc, .slice YN ym yd]) := Lib.hid (by rw [hw7, hq13]; exact bx_new _ _ _)
          have HQ13 : Hid (w4.heap.size ≤ q13) := Lib.hid (by rw [hq13]; exact HBd.out.size)
          rw [← hw7, ← hq13]
          clear hw7 hq13 u0 u1 u2 u3 u4 u5 u6 v0 v1 v2 v3 v4 v5 v6 hla hlb
          obtain ⟨⟨hla, u0, -⟩, -⟩ := HCE.out w7 HB7.out
          have z0 := HX13.out.cell 0 _ rfl
          have zf := HX13.out.soft 0
          have zl := HX13.out.lt
          go_upto_region 18 with fail
          obtain ⟨w8, hw8⟩ : ∃ w8, w8 = w7.setCell ⟨q13, 0, none⟩ (.int .i64 mrk) := ⟨_, rfl⟩
          have HX8 : Hid (Bx 39 w8 q13 #[.int .i64 mrk, .int .i64 code, .int .i64 han, .int .i64 kd, .int .i64 sz, .slice YA yn yc, .slice YN ym yd]) := Lib.hid (by rw [hw8]; exact HX13.out.set 0 _)
          have HB8 : Hid (Below w4.heap.size w4 w8) := Lib.hid (by rw [hw8]; exact HB7.out.setCell HQ13.out _)
          rw [← hw8]
          clear hw8 u0 z0 zf zl hla
          obtain ⟨⟨hla, u0, u1, u2, u3, u4, u5, u6⟩, -⟩ := HCE.out w8 HB8.out
          obtain ⟨zl, z0, z1, z2, z3, z4, z5, z6, -⟩ := HX8.out.cells7
          have HSR : Hid (∀ W, Below w8.heap.size w8 W → Calls Tryz.prog 17 #[.agg #[.int .i64 mrk, .int .i64 code, .int .i64 han, .int .i64 kd, .int .i64 sz, .slice XA yn xc, .slice XN ym xd], .agg #[.int .i64 mrk, .int .i64 code, .int .i64 han, .int .i64 kd, .int .i64 sz, .slice YA yn yc, .slice YN ym yd]] W fun e w' => e = .returned (.bool true) ∧ Below W.heap.size W w') := Lib.hid (fun W hW => by
            obtain ⟨⟨n1, n2⟩, n3, n4⟩ := HIL.out
            have hw : Below w4.heap.size w4 W := bthen HB8.out hW
            exact rep_at_packthreadkeep mrk code han kd sz XA YA XN YN yn xc yc ym xd yd data names W (HDA.out.below hw) (HDB.out.below hw) n1 (by omega) (HNA.out.below hw) (HNB.out.below hw) n2 (by omega))
          go_region_with ((go_at_call 17; (with_reducible refine (HSR.out _ (by first | exact (Below.refl _ _).drew | exact Below.refl _ _)).mono ?_); rintro e w9 ⟨rfl, hb9⟩; have HB9 := Lib.hid hb9; clear hb9))
          all_goals
            go_wp2_with fail
          all_goals
            exact ⟨⟨q + 1, by omega, by go_num, bthen HB8.out (by first | exact (Below.refl _ _).drew.trans HB9.out | exact HB9.out | exact HB9.out.drew)⟩, by simp [intOf]; omega⟩
        · have hqq : ¬ (q : Int) < (j : Int) := by omega
          go_wp2_with fail
          go_ret
          exact ⟨rfl, bthen HBF4.out HBQ.out⟩

end Go.Proofs.YthjpighlcalocaaGreatDoor
