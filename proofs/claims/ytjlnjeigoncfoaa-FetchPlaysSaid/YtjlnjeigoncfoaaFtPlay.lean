/-
  The program's fetch.Play.
-/
import Derived.Test.YtjlnjeigoncfoaaFtTake
namespace Go.Proofs.Ytjlnjeigoncfoaa
open Go.RowKit
set_option linter.unusedVariables false
set_option linter.unusedSimpArgs false

set_option maxRecDepth 100000 in
theorem ftZero : (Try.prog.info? 46).map (fun i => i.zero) = some (some (.agg (ftL fs0 none 0).toArray)) := by kernel_rfl
theorem ft_zero (w : World) : (zeroValue 46).run Try.prog w = .ok (.agg (ftL fs0 none 0).toArray) w := by
  have h := ftZero
  cases hq : Try.prog.info? 46 with
  | none => rw [hq] at h; cases h
  | some i =>
    rw [hq] at h
    have hz : i.zero = some (.agg (ftL fs0 none 0).toArray) := by simpa using h
    simp only [zeroValue, typeInfo, Sem.run_bind, hq]
    simp [hq, hz]
theorem fplay_size (L : Option Addr) (n c : Nat) (w : World) (hn : 300 < n) :
    Calls Try.prog 6 #[.slice L n c] w fun e w' => e = .returned (.tuple #[.slice none 0 0, .int .i64 1]) ∧ Below w.heap.size w w' := by
  have h3 : (300 : Int) < (n : Int) := by omega
  go_enter Try.func6, Try.ntmps6
  go_wp2
  go_ret2
  exact ⟨rfl, Below.refl _ _⟩
theorem fold_take (s : Fs) (l : List Gt) (k : Nat) (g : Gt) (h : l[k]? = some g) : fold s (l.take (k + 1)) = ((fold s (l.take k)).1 ++ [(takeG (fold s (l.take k)).2 g).1], (takeG (fold s (l.take k)).2 g).2) := by
  have e : l.take (k + 1) = l.take k ++ [g] := by rw [List.take_add_one, h]; rfl
  rw [e, fold_snoc]
/-- what a file must leave: what was ahead of it, a row, and the lists told in it -/
def TTn (B : Nat) (v : Value) (ts : List Nv) (j : Nat) : Prop := j < B ∨ v.ownBlock = some j ∨ ∃ x ∈ ts, TS x.A j ∨ TS x.S j
/-- the lists that are told lie in new memory -/
def NewL (base : Nat) (l : List Nv) : Prop := ∀ x ∈ l, ∀ j, TS x.S j ∨ TS x.A j → base ≤ j
theorem NewL.app {base : Nat} {l : List Nv} {x : Nv} (h : NewL base l) (hx : ∀ j, TS x.S j ∨ TS x.A j → base ≤ j) : NewL base (l ++ [x]) := fun y hy => by
  rcases List.mem_append.1 hy with hy | hy
  · exact h y hy
  · simp at hy; subst hy; exact hx
/-- what Play answers; what it tells is new -/
def RetN2 (w : World) (ts : List Nx) (e : Ending) (w' : World) : Prop :=
  ∃ A c l, e = .returned (.tuple #[.slice A ts.length c, .int .i64 0]) ∧ OwnL neS 30 w' w.heap.size A ts.length c l ∧ l.map Nv.x = ts ∧ EIn w' (fun _ => False) l ∧ Below w.heap.size w w' ∧ NewL w.heap.size l
/-- how far the walk has come -/
def FPlX (w : World) (n : Nat) (B : Nat) (s0 : Fs) (x0 : Nx) (l : List Gv) (o i : Value) (wr : World) : Prop :=
  ∃ (k : Nat) (A : Option Addr) (c : Nat) (ts : List Nv), k ≤ n ∧ i = .int .i64 k ∧ o = .slice A (k + 1) c ∧ OwnL neS 30 wr (B + 1) A (k + 1) c ts ∧ ts.map Nv.x = x0 :: (fold s0 ((l.map Gv.g).take k)).1 ∧
    FM wr (TTn B (.slice A (k + 1) c) ts) B (fold s0 ((l.map Gv.g).take k)).2 ∧ EIn wr (fun j => (Value.slice A (k + 1) c).ownBlock = some j) ts ∧ Below w.heap.size w wr ∧ NewL w.heap.size ts
theorem ein_lt {w : World} {S : Nat → Prop} {ts : List Nv} (h : EIn w S ts) {y : Nv} (hy : y ∈ ts) {j : Nat} (hj : TS y.A j ∨ TS y.S j) : j < w.heap.size := by
  obtain ⟨⟨-, -, q1⟩, -, -, q2⟩ := h y hy
  rcases hj with ⟨a, ha, rfl⟩ | ⟨a, ha, rfl⟩
  · by_cases g : a.block < w.heap.size
    · exact g
    · exact absurd (.inr (by omega)) (q1 a ha)
  · by_cases g : a.block < w.heap.size
    · exact g
    · exact absurd (.inr (by omega)) (q2 a ha)
/-- one more is told: the list of what was told grows -/
theorem told_grow {w6 w7 w8 : World} {B : Nat} {A A8 : Option Addr} {m m' c c8 : Nat} {ts : List Nv} {r : Nx × Fs} {S7 A7 : Option Addr} {m7 sc7 n7 c7 : Nat} {s : Fs}
    (hHM : FM w6 (TTn B (.slice A m c) ts) B s) (how : OwnL neS 30 w6 (B + 1) A m c ts) (hei : EIn w6 (fun j => (Value.slice A m c).ownBlock = some j) ts)
    (h1 : r.1.wants.length = m7) (h2 : OwnL wtS 33 w7 w6.heap.size S7 m7 sc7 r.1.wants) (h3 : r.1.data.length = n7) (h4 : OwnL byS 5 w7 w6.heap.size A7 n7 c7 r.1.data)
    (h5 : FM w7 (fun j => TTn B (.slice A m c) ts j ∨ TS S7 j ∨ TS A7 j) B r.2) (h6 : Only (fun k => B ≤ k ∧ ¬ TTn B (.slice A m c) ts k) w6 w7)
    (o : Obj) (hb8 : Below (B + 1) (w7.alloc o) w8) (hs8 : Beside (.slice A m c) (.slice A8 m' c8) (w7.alloc o) w8) :
    FM w8 (TTn B (.slice A8 m' c8) (ts ++ [⟨r.1, S7, m7, sc7, A7, n7, c7⟩])) B r.2 ∧ EIn w8 (fun j => (Value.slice A8 m' c8).ownBlock = some j) (ts ++ [⟨r.1, S7, m7, sc7, A7, n7, c7⟩]) := by
  have hrow6 := fun j (hj : (Value.slice A m c).ownBlock = some j) => (how.lt j hj).2
  have hS7 : ∀ j, TS S7 j → w6.heap.size ≤ j ∧ j < w7.heap.size := fun j hj => h2.lt j (own_ts.2 hj)
  have hA7 : ∀ j, TS A7 j → w6.heap.size ≤ j ∧ j < w7.heap.size := fun j hj => h4.lt j (own_ts.2 hj)
  have hei7 : EIn w7 (fun j => (Value.slice A m c).ownBlock = some j) (ts ++ [⟨r.1, S7, m7, sc7, A7, n7, c7⟩]) := by
    refine EIn.app ?_ ⟨⟨h3, h4.ls, fun a ha g => ?_⟩, h1, h2.ls, fun a ha g => ?_⟩
    · have hal : EIn w6 (fun j => (Value.slice A m c).ownBlock = some j ∨ (B ≤ j ∧ ¬ TTn B (.slice A m c) ts j)) ts := fun y hy => by
        obtain ⟨⟨q0, q1, q2⟩, q3, q4, q5⟩ := hei y hy
        refine ⟨⟨q0, q1, fun a ha g => ?_⟩, q3, q4, fun a ha g => ?_⟩
        · rcases g with (g | g) | g
          · exact q2 a ha (.inl g)
          · exact g.2 (.inr (.inr ⟨y, hy, .inl ⟨a, ha, rfl⟩⟩))
          · exact q2 a ha (.inr g)
        · rcases g with (g | g) | g
          · exact q5 a ha (.inl g)
          · exact g.2 (.inr (.inr ⟨y, hy, .inr ⟨a, ha, rfl⟩⟩))
          · exact q5 a ha (.inr g)
      exact hal.only h6 (fun j hj => .inl (.inr hj)) (fun j hj => .inl (.inl hj))
    · have := hA7 _ ⟨a, ha, rfl⟩
      rcases g with g | g
      · have := hrow6 _ g; omega
      · omega
    · have := hS7 _ ⟨a, ha, rfl⟩
      rcases g with g | g
      · have := hrow6 _ g; omega
      · omega
  refine ⟨?_, ?_⟩
  · have hs7 : FM w7 (TTn B (.slice A m c) (ts ++ [⟨r.1, S7, m7, sc7, A7, n7, c7⟩])) B r.2 := h5.less (fun j hj => by
      rcases hj with hj | hj | ⟨y, hy, hj⟩
      · exact .inl (.inl hj)
      · exact .inl (.inr (.inl hj))
      · rcases List.mem_append.1 hy with hy | hy
        · exact .inl (.inr (.inr ⟨y, hy, hj⟩))
        · simp at hy; subst hy
          rcases hj with hj | hj
          · exact .inr (.inr hj)
          · exact .inr (.inl hj))
    exact (hs7.new (ba1 _ _)).only (hs8.only hb8) (fun j hj => .inl (.inr (.inl hj))) (fun j hj => by
      rcases hj with hj | hj | hj
      · exact .inl (.inl hj)
      · rcases hs8.own j hj with g | g
        · exact .inl (.inr (.inl g))
        · exact .inr g
      · exact .inl (.inr (.inr hj)))
  · refine EIn.only (hei7.new (ba1 _ _)) (hs8.only hb8) (fun j hj => .inl hj) (fun j hj => ?_)
    exact hs8.own j hj

set_option maxHeartbeats 8000000 in
theorem fplay_ok2 (L : Option Addr) (n c : Nat) (l : List Gv) (w : World) (hn : n ≤ 300) (hb : Ls gtS w L l) (hl : l.length = n) (hin : GIn w l) :
    Calls Try.prog 6 #[.slice L n c] w (RetN2 w (fetchT (l.map Gv.g))) := by
  have HL := Lib.hid hb
  have HN := Lib.hid hl
  have HI := Lib.hid hin
  have h3 : ¬ (300 : Int) < (n : Int) := by omega
  clear hb hl hin
  obtain ⟨Z, hZ⟩ : ∃ Z, Z = (ftL fs0 none 0).toArray := ⟨_, rfl⟩
  have hz : ∀ w, (zeroValue 46).run Try.prog w = .ok (.agg Z) w := fun w => by rw [hZ]; exact ft_zero w
  obtain ⟨B, hB⟩ : ∃ B, B = w.heap.size := ⟨_, rfl⟩
  obtain ⟨w1, hw1⟩ : ∃ w1, w1 = w.alloc (.cells Z 46) := ⟨_, rfl⟩
  have HB1 : Hid (Below w.heap.size w w1) := Lib.hid (by rw [hw1]; exact ba1 _ _)
  have HF1 : Hid (FM w1 (fun k => k < B) B fs0) := Lib.hid (by
    rw [hw1, hB, hZ]
    exact ⟨none, 0, bx_new _ _ _, OwnL.nil _ _, fun k hk => (by cases hk), by omega, List.length_replicate⟩)
  have HBB : Hid (w.heap.size = B) := Lib.hid hB.symm
  obtain ⟨r0, hr0⟩ : ∃ r, r = nextT 0 fs0 := ⟨_, rfl⟩
  have HK0 : Hid (FsOk r0.2) := Lib.hid (by rw [hr0]; exact fsOk0.on)
  have HRT : Hid (fetchT (l.map Gv.g) = r0.1 :: (fold r0.2 (l.map Gv.g)).1) := Lib.hid (by rw [hr0]; rfl)
  have HR0 := Lib.hid hr0
  obtain ⟨rt, hrt⟩ : ∃ r, r = fetchT (l.map Gv.g) := ⟨_, rfl⟩
  have HRT2 := Lib.hid hrt
  rw [← hrt]
  obtain ⟨n1, hn1⟩ : ∃ n1, n1 = n + 1 := ⟨_, rfl⟩
  have hwn : IntKind.i64.wrap ((n : Int) + 1) = (n1 : Int) := by rw [IntKind.wrap_i64]; omega
  have hn301 : n1 ≤ 301 := by omega
  have HN1 := Lib.hid hn1
  clear hrt hr0 hn1 hZ
  go_enter Try.func6, Try.ntmps6
  go_upto_region 4 with fail
  rw [← hw1, ← hB]
  clear hw1 hB hz
  have hBl := HF1.out.lt
  go_upto_region 5 with (at_make; refine wpList_makeL (F := neS) rfl _ _ _ 23 rfl _ 64 Try.underlying23 neInfo (B + 1) _ _ _ n1 rfl rfl rfl (by omega) (by omega) (by omega) ?_; intro w2 ho2 hb2 hs2; have O2 := Lib.hid ho2; have HB2 := Lib.hid hb2; clear ho2 hb2 hs2)
  obtain ⟨q7, hq7⟩ : ∃ q, q = w1.heap.size := ⟨_, rfl⟩
  rw [← hq7] at O2 ⊢
  have HQ7 := Lib.hid hq7
  clear hq7
  have HF2 : Hid (FM w2 (TTn B (.slice (some ⟨q7, 0, none⟩) 0 n1) []) B fs0) := Lib.hid (HF1.out.only (S := fun _ => False) (only_new HB2.out) (fun _ h => h.elim) (fun j hj => by
    rcases hj with hj | hj | ⟨x, hx, _⟩
    · exact .inl hj
    · injection hj with hj; right; rw [← hj, HQ7.out]; exact Nat.le_refl _
    · cases hx))
  have HT2 : Hid (∀ j, TTn B (.slice (some ⟨q7, 0, none⟩) 0 n1) [] j → j < w2.heap.size) := Lib.hid (fun j hj => by
    have := HF2.out.lt
    rcases hj with hj | hj | ⟨x, hx, _⟩
    · omega
    · exact (O2.out.lt j hj).2
    · cases hx)
  have HNX : Hid (Calls Try.prog 13 #[.pointer (some ⟨B, 0, none⟩), .int .i64 0] w2 (RetX w2 (TTn B (.slice (some ⟨q7, 0, none⟩) 0 n1) []) B (nextT 0 fs0))) := Lib.hid (next_any w2 _ B fs0 HF2.out fsOk0 HT2.out 0 (Nat.zero_le _))
  rw [← HR0.out] at HNX
  go_upto_region 6 with (first
    | (go_at_call 13; (with_reducible refine HNX.out.mono ?_); rintro e w3 ⟨S3, m3, sc3, A3, n3, c3, rfl, h1, h2, h3', h4, h5, h6⟩; have G1 := Lib.hid h1; have G2 := Lib.hid h2; have G3 := Lib.hid h3'; have G4 := Lib.hid h4; have G5 := Lib.hid h5; have G6 := Lib.hid h6; clear h1 h2 h3' h4 h5 h6)
    | (at_builtin; refine wpList_appL (F := neS) rfl _ (.tmp 15) (.tmp 17) 23 rfl _ 64 Try.underlying23 neInfo rfl (B + 1) (some ⟨q7, 0, none⟩) 0 n1 [] rfl ((O2.out.only G6.out (fun j hj hB => hB.2 (.inr (.inl hj)))).below (ba1 _ _)) (some ⟨w3.heap.size, 0, none⟩) 1 1 [⟨r0.1, S3, m3, sc3, A3, n3, c3⟩] rfl (ls_new w3 _ _ _ rfl _ rfl) rfl 1 rfl (by omega) (by omega) (by have := G6.out.size; have := HF2.out.lt; simp; omega) ?_; intro A8 c8 w8 ho8 hb8 hs8; have HO8 := Lib.hid ho8; have HB8 := Lib.hid hb8; have HS8 := Lib.hid hs8; clear ho8 hb8 hs8))
  obtain ⟨hg1, hg2⟩ := told_grow (s := fs0) HF2.out O2.out (fun x hx => by cases hx) G1.out G2.out G3.out G4.out G5.out G6.out _ HB8.out HS8.out
  have HW8 : Hid (Below w.heap.size w w8) := Lib.hid (by
    have z0 := HBB.out
    have z1 := HB1.out.size
    have z2 := HB2.out.size
    have z3 := G6.out.size
    exact (((HB1.out.trans (HB2.out.mono z1)).trans (G6.out.below (B := w.heap.size) (fun j hj => by omega) (by omega))).trans ((ba1 w3 _).mono (by omega))).trans (HB8.out.mono (by omega)))
  have HGG := Lib.hid (And.intro hg1 hg2)
  clear hg1 hg2
  go_wp2
  go_loopw [5, 21] (fun o i wr => FPlX w n B r0.2 r0.1 l o i wr) (fun _ i _ => n - (intOf i).toNat)
  case atStart => exact ⟨0, A8, c8, _, Nat.zero_le _, rfl, rfl, HO8.out, rfl, HGG.out.1, HGG.out.2, HW8.out, (fun x hx j hj => by
    simp at hx; subst hx
    have z1 := HB1.out.size
    have z2 := HB2.out.size
    rcases hj with hj | hj
    · have := (G2.out.lt j (own_ts.2 hj)).1; omega
    · have := (G4.out.lt j (own_ts.2 hj)).1; omega)⟩
  case round =>
    obtain ⟨k, A, c', ts, hk, rfl, rfl, hown, hts, hol, hei, hbw, hnl⟩ := hrel
    have HNL := Lib.hid hnl
    clear hnl
    have HOW := Lib.hid hown
    have HTS := Lib.hid hts
    have HOL := Lib.hid hol
    have HEI := Lib.hid hei
    have HBW := Lib.hid hbw
    clear hown hts hol hei hbw
    by_cases hlt : k < n
    · obtain ⟨x, hx⟩ : ∃ x, l[k]? = some x := ⟨_, List.getElem?_eq_getElem (by rw [HN.out]; exact hlt)⟩
      obtain ⟨bL, oL, rfl, hbl, hcc⟩ := (HL.out.below HBW.out).at k x hx
      have g0 := hcc 0 (.int .i64 x.g.at_) rfl
      have g1 := hcc 1 (.int .i64 x.g.cnt) rfl
      have g2 := hcc 2 (.slice x.A x.n x.c) rfl
      simp only [gtS, Nat.add_zero] at g0 g1 g2
      have hki : (k : Int) < (n : Int) := by omega
      have HST := Lib.hid (fold_take r0.2 (l.map Gv.g) k x.g (by rw [List.getElem?_map, hx]; rfl))
      obtain ⟨sk, hsk⟩ : ∃ s, s = (fold r0.2 ((l.map Gv.g).take k)).2 := ⟨_, rfl⟩
      have HKK : Hid (FsOk sk) := Lib.hid (by rw [hsk]; exact fold_ok _ _ HK0.out)
      rw [← hsk] at HOL HST
      obtain ⟨hi1, hi2, hi3⟩ := HI.out x (List.mem_of_getElem? hx)
      obtain ⟨q9, hq9⟩ : ∃ q, q = wr.heap.size := ⟨_, rfl⟩
      obtain ⟨w6, hw6⟩ : ∃ w6, w6 = wr.alloc (.cells #[.int .i64 x.g.at_, .int .i64 x.g.cnt, .slice x.A x.n x.c] 42) := ⟨_, rfl⟩
      have HB6 : Hid (Below wr.heap.size wr w6) := Lib.hid (by rw [hw6]; exact ba1 _ _)
      have HX9 : Hid (Bx 42 w6 q9 #[.int .i64 x.g.at_, .int .i64 x.g.cnt, .slice x.A x.n x.c]) := Lib.hid (by rw [hw6, hq9]; exact bx_new _ _ _)
      have HO6 : Hid (FM w6 (TTn B (.slice A (k + 1) c') ts) B sk) := Lib.hid (HOL.out.new HB6.out)
      have HOW6 : Hid (OwnL neS 30 w6 (B + 1) A (k + 1) c' ts) := Lib.hid (HOW.out.below HB6.out)
      have HEI6 : Hid (EIn w6 (fun j => (Value.slice A (k + 1) c').ownBlock = some j) ts) := Lib.hid (HEI.out.new HB6.out)
      have hB6 := HO6.out.lt
      have HT6 : Hid (∀ j, TTn B (.slice A (k + 1) c') ts j → j < w6.heap.size) := Lib.hid (fun j hj => by
        rcases hj with hj | hj | ⟨y, hy, hj⟩
        · omega
        · exact (HOW6.out.lt j hj).2
        · exact ein_lt HEI6.out hy hj)
      have HAC : Hid (Calls Try.prog 14 #[.pointer (some ⟨B, 0, none⟩), .agg #[.int .i64 x.g.at_, .int .i64 x.g.cnt, .slice x.A x.n x.c]] w6 (RetX w6 (TTn B (.slice A (k + 1) c') ts) B (takeG sk x.g))) := Lib.hid (by
        refine take_any w6 _ B sk HO6.out HKK.out HT6.out x.g x.A x.n x.c ((hi1.below HBW.out).below HB6.out) hi2 hi3 ?_
        rcases hi1 with hz | ⟨b, o', e, hlt2, -⟩
        · left
          have : x.g.data = [] := by
            rcases hdz : x.g.data with _ | ⟨z, zt⟩
            · rfl
            · rw [hdz] at hz; simp [Shape.flat, byS] at hz
          rw [this] at hi2; exact hi2.symm
        · right
          intro a ha
          rw [e] at ha; injection ha with ha; subst ha
          have := HBB.out; simp only; omega)
      obtain ⟨tr, htr⟩ : ∃ tr, tr = takeG sk x.g := ⟨_, rfl⟩
      rw [← htr] at HAC HST
      clear hcc hx hsk hi1 hi2 hi3 htr
      go_upto_region 9 with fail
      rw [← hw6, ← hq9]
      clear hw6 hq9 g0 g1 g2
      have a0 := HX9.out.cell 0 (.int .i64 x.g.at_) rfl
      have a1 := HX9.out.cell 1 (.int .i64 x.g.cnt) rfl
      have a2 := HX9.out.cell 2 (.slice x.A x.n x.c) rfl
      have hq9l := HX9.out.lt
      go_wp2_with (first
        | (go_at_call 14; refine HAC.out.mono ?_; rintro e w7 ⟨S7, m7, sc7, A7, n7, c7, rfl, h1, h2, h3', h4, h5, h6⟩; have F1 := Lib.hid h1; have F2 := Lib.hid h2; have F3 := Lib.hid h3'; have F4 := Lib.hid h4; have F5 := Lib.hid h5; have F6 := Lib.hid h6; clear h1 h2 h3' h4 h5 h6 a0 a1 a2 hq9l)
        | (at_builtin; refine wpList_appL (F := neS) rfl _ (.tmp 25) (.tmp 28) 23 rfl _ 64 Try.underlying23 neInfo rfl (B + 1) A (k + 1) c' ts rfl ((HOW6.out.only F6.out (fun j hj hB => hB.2 (.inr (.inl hj)))).below (ba1 _ _)) (some ⟨w7.heap.size, 0, none⟩) 1 1 [⟨tr.1, S7, m7, sc7, A7, n7, c7⟩] rfl (ls_new w7 _ _ _ rfl _ rfl) rfl (k + 1 + 1) rfl (by omega) (by omega) (by have := F6.out.size; simp; omega) ?_; intro A10 c10 w10 ho8 hb8 hs8; have O10 := Lib.hid ho8; have B10 := Lib.hid hb8; have S10 := Lib.hid hs8; clear ho8 hb8 hs8))
      obtain ⟨hg1, hg2⟩ := told_grow HO6.out HOW6.out HEI6.out F1.out F2.out F3.out F4.out F5.out F6.out _ B10.out S10.out
      refine ⟨⟨k + 1, A10, c10, ts ++ [⟨tr.1, S7, m7, sc7, A7, n7, c7⟩], by omega, by go_num, rfl, O10.out, ?_, ?_, hg2, ?_, HNL.out.app (fun j hj => by
        have z1 := HBW.out.size
        have z2 := HB6.out.size
        rcases hj with hj | hj
        · have := (F2.out.lt j (own_ts.2 hj)).1; omega
        · have := (F4.out.lt j (own_ts.2 hj)).1; omega)⟩, by simp [intOf]; omega⟩
      · rw [List.map_append, HTS.out, HST.out]; rfl
      · rw [HST.out]; exact hg1
      · have z0 := HBB.out
        have z1 := HBW.out.size
        have z2 := HB6.out.size
        have z3 := F6.out.size
        exact (((HBW.out.trans (HB6.out.mono z1)).trans (F6.out.below (B := w.heap.size) (fun j hj => by omega) (by omega))).trans ((ba1 w7 _).mono (by omega))).trans (B10.out.mono (by omega))
    · obtain rfl : k = n := by omega
      have hki : ¬ (k : Int) < (k : Int) := by omega
      have hall : (l.map Gv.g).take k = l.map Gv.g := List.take_of_length_le (by rw [List.length_map, HN.out]; exact Nat.le_refl _)
      rw [hall] at HTS
      have hlen : Hid (rt.length = k + 1) := Lib.hid (by rw [HRT2.out, fetchT_len, List.length_map, HN.out])
      go_wp2_with fail
      go_ret2
      exact ⟨A, c', ts, by rw [hlen.out]; rfl, by rw [hlen.out]; exact HOW.out.base (by have := HBB.out; omega), by rw [HTS.out, HRT2.out, HRT.out], HEI.out.only (Only.refl (fun _ => False) _) (fun _ h => h.elim) (fun _ h => h.elim), HBW.out, HNL.out⟩
theorem fplay_ok (L : Option Addr) (n c : Nat) (l : List Gv) (w : World) (hn : n ≤ 300) (hb : Ls gtS w L l) (hl : l.length = n) (hin : GIn w l) :
    Calls Try.prog 6 #[.slice L n c] w (RetN w (fetchT (l.map Gv.g))) :=
  (fplay_ok2 L n c l w hn hb hl hin).mono fun e w' ⟨A, c, l, h1, h2, h3, h4, h5, _⟩ => ⟨A, c, l, h1, h2, h3, h4, h5⟩

end Go.Proofs.Ytjlnjeigoncfoaa
