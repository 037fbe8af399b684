/-
  The program's tree.Play.
-/
import Derived.Test.YthjpighlcalocaaGreatDoorTDos
namespace Go.Proofs.YthjpighlcalocaaGreatDoor
open Go.RowKit Go.Maps
set_option linter.unusedVariables false
set_option linter.unusedSimpArgs false

/-! ### lists of acts, and of what they come to -/
def acS : Shape Acv := { cells := fun x => [.int .i64 x.a.kind, .string (tx x.a.path), .string (tx x.a.to), .int .i64 x.a.at_, .int .i64 x.a.count, .slice x.D x.m x.d], size := 6, len := fun _ => rfl, pos := by decide, one := by intro x u hu; simp at hu; rcases hu with rfl | rfl | rfl | rfl | rfl | rfl <;> rfl }
theorem acInfo : (Tryz.prog.info? 55).map (fun i => (i.zero, i.size, i.bytes)) = some (some (.agg #[.int .i64 0, .string ⟨#[]⟩, .string ⟨#[]⟩, .int .i64 0, .int .i64 0, .slice none 0 0]), acS.size, 80) := by kernel_rfl
/-- the acts' bytes lie where they say -/
def AcIn (w : World) (l : List Acv) : Prop := ∀ x ∈ l, Ls byS w x.D x.a.data ∧ x.a.data.length = x.m ∧ ∀ z ∈ x.a.data, 0 ≤ z ∧ z ≤ 255
theorem AcIn.below {w w' : World} {l : List Acv} (h : AcIn w l) (hb : Below w.heap.size w w') : AcIn w' l := fun x hx => by
  obtain ⟨h1, h2⟩ := h x hx
  exact ⟨h1.below hb, h2⟩
/-- the lists of what acts came to lie where they say, and in none of S -/
def SeI (w : World) (S : Nat → Prop) (l : List Sv) : Prop := ∀ x ∈ l, (x.s.data.length = x.n ∧ Ls byS w x.A x.s.data ∧ Clear (fun k => S k ∨ w.heap.size ≤ k) x.A) ∧ (x.s.names.length = x.m ∧ Ls stS w x.N x.s.names ∧ Clear (fun k => S k ∨ w.heap.size ≤ k) x.N)
theorem SeI.only {w w' : World} {S S' T : Nat → Prop} {l : List Sv} (h : SeI w S l) (ho : Only S' w w') (hS : ∀ k, S' k → S k ∨ w.heap.size ≤ k) (hT : ∀ k, T k → S k ∨ w.heap.size ≤ k) : SeI w' T l := fun x hx => by
  obtain ⟨⟨h1, h2, h3⟩, h4, h5, h6⟩ := h x hx
  have hm : ∀ k, (T k ∨ w'.heap.size ≤ k) → S k ∨ w.heap.size ≤ k := fun k hk => by
    rcases hk with hk | hk
    · exact hT k hk
    · exact .inr (Nat.le_trans ho.size hk)
  exact ⟨⟨h1, Cs.only h2 ho (h3.mono hS), h3.mono hm⟩, h4, Cs.only h5 ho (h6.mono hS), h6.mono hm⟩
theorem SeI.app {w : World} {S : Nat → Prop} {l : List Sv} {x : Sv} (h : SeI w S l) (hx : SvOwn w 0 x) (hS : ∀ k, S k → ¬ SvB x k) : SeI w S (l ++ [x]) := fun y hy => by
  rcases List.mem_append.1 hy with hy | hy
  · exact h y hy
  · simp at hy; subst hy
    refine ⟨⟨hx.1.1, hx.1.ls, fun a ha g => ?_⟩, hx.2.1, hx.2.ls, fun a ha g => ?_⟩
    · have hb : (Value.slice y.A y.n y.c).ownBlock = some a.block := by rw [ha]; rfl
      rcases g with g | g
      · exact hS _ g (.inl hb)
      · have := (hx.1.lt _ hb).2; omega
    · have hb : (Value.slice y.N y.m y.d).ownBlock = some a.block := by rw [ha]; rfl
      rcases g with g | g
      · exact hS _ g (.inr hb)
      · have := (hx.2.lt _ hb).2; omega
/-- what a call answers that tells what acts came to -/
def RetPl (w : World) (ss : List Sn) (e : Ending) (w' : World) : Prop :=
  ∃ A c l, e = .returned (.tuple #[.slice A ss.length c, .int .i64 0]) ∧ OwnL seS 31 w' w.heap.size A ss.length c l ∧ l.map Sv.s = ss ∧ SeI w' (fun _ => False) l ∧ Below w.heap.size w w'

/-! ### lengths -/
theorem actT_len (T : Wd) (a : Ac) : (actT T a).1.length ≤ T.length + 1 := by
  have hset : ∀ n x, (setI T n x).length = T.length := fun n x => len_set T n x
  have hadd : ∀ q x, (addT T q x).1.length ≤ T.length + 1 := fun q x => by
    unfold addT
    split
    · simp
    · split
      · simp
      · simp
  unfold actT
  split
  · exact hadd _ _
  · split
    · exact hadd _ _
    · split
      · split
        · simp
        · exact hadd _ _
      · split
        · unfold workT
          split
          · simp
          · split
            · rename_i n _ _
              unfold fileT
              split
              · split
                · simp
                · split
                  · simp
                  · simp [hset]
              · split
                · split <;> simp
                · split
                  · simp
                  · simp [hset]
            · simp
        · split
          · simp
          · split
            · simp
            · split
              · unfold snC removeT
                split
                · simp
                · split
                  · simp
                  · simp [hset]
              · split
                · unfold snC renameT
                  split
                  · simp
                  · split
                    · simp
                    · split
                      · simp
                      · simp [hset]
                · simp
theorem actsT_app (T : Wd) (l m : List Ac) : actsT T (l ++ m) = actsT (actsT T l) m := by
  induction l generalizing T with
  | nil => rfl
  | cons a t ih => exact ih _
theorem seenT_app (T : Wd) (l m : List Ac) : seenT T (l ++ m) = seenT T l ++ seenT (actsT T l) m := by
  induction l generalizing T with
  | nil => rfl
  | cons a t ih => show _ :: seenT _ (t ++ m) = _; rw [ih]; rfl
theorem seenT_len (T : Wd) (l : List Ac) : (seenT T l).length = l.length := by
  induction l generalizing T with
  | nil => rfl
  | cons a t ih => show _ + 1 = _; rw [ih]; rfl
theorem actsT_len (l : List Ac) (T : Wd) : (actsT T l).length ≤ T.length + l.length := by
  induction l generalizing T with
  | nil => simp [actsT]
  | cons a t ih => have := ih (actT T a).1; have := actT_len T a; simp only [actsT, List.length_cons]; omega
theorem take_ac {l : List Acv} {k : Nat} {x : Acv} (h : l[k]? = some x) : (l.map Acv.a).take (k + 1) = (l.map Acv.a).take k ++ [x.a] := by
  rw [List.take_add_one, List.getElem?_map, h]; rfl

/-! ### a new tree -/
theorem new_any (w : World) : Calls Tryz.prog 20 #[] w fun e w' => ∃ tb, e = .returned (.pointer (some ⟨tb, 0, none⟩)) ∧ Hid (Below w.heap.size w w' ∧ ∃ f p, TreeIs w' tb root0 f p 0 ∧ ∀ b, f b ≠ none → w.heap.size ≤ b) := by
  go_enter Tryz.func20, Tryz.ntmps20
  go_wp2_with (go_at_call 32; refine (newDir_any w).mono ?_; rintro e w2 ⟨bn, rfl, HN2⟩)
  go_ret
  obtain ⟨hb, hf⟩ := HN2.out
  obtain ⟨f1, f2, f3, hfr⟩ := hf (fun _ => none) (fun b h => absurd rfl h)
  obtain ⟨m, m1, m2, m3, m4, m5⟩ : ∃ m, w.heap.size ≤ m ∧ m ≠ bn ∧ (fun _ => none : Rl) m = none ∧ Bx 107 w2 bn #[.map (some m)] ∧ DirIs w2 m 0 (fun _ => none) := by
    rcases hfr with ⟨-, h⟩ | ⟨h, -⟩ | ⟨h, -⟩
    · exact h
    · cases h
    · cases h
  have hml := m5.lt
  have hba := ba1 w2 (.cells #[.pointer (some ⟨bn, 0, none⟩), .int .i64 1] 71)
  refine ⟨w2.heap.size, by first | rfl | simp, Lib.hid ⟨bthen hb hba, fun b => if b = w2.heap.size then some .top else if b = bn then some (.str 0) else if b = m then some (.map 0) else none, fun _ => bn, ⟨wf_root, ?_, by simp, ?_, ?_⟩, ?_⟩⟩
  · exact bx_new _ _ _
  · intro b hb'
    by_cases e1 : b = w2.heap.size
    · subst e1; simp
    · simp only [if_neg e1] at hb'
      by_cases e2 : b = bn
      · subst e2; have := hba.size; omega
      · simp only [if_neg e2] at hb'
        by_cases e3 : b = m
        · subst e3; have := hba.size; omega
        · simp only [if_neg e3] at hb'; exact absurd rfl hb'
  · intro i hi
    have h0 : i = 0 := by have := hi.1; simp [root0] at this; exact this
    subst h0
    refine ⟨by simp only []; rw [if_neg (by omega)]; simp, .inl ⟨rfl, m, by simp only []; rw [if_neg (by omega), if_neg m2]; simp, m4.below hba, (m5.below hba).congr fun nm => ?_⟩⟩
    rfl
  · intro b hb'
    by_cases e1 : b = w2.heap.size
    · have := hb.size; omega
    · simp only [if_neg e1] at hb'
      by_cases e2 : b = bn
      · omega
      · simp only [if_neg e2] at hb'
        by_cases e3 : b = m
        · omega
        · simp only [if_neg e3] at hb'; exact absurd rfl hb'

/-! ### the play -/
theorem play_size (L : Option Addr) (n c : Nat) (w : World) (hn : 300 < n) :
    Calls Tryz.prog 8 #[.slice L n c] w fun e w' => e = .returned (.tuple #[.slice none 0 0, .int .i64 1]) ∧ Below w.heap.size w w' := by
  have h3 : (300 : Int) < (n : Int) := by omega
  go_enter Tryz.func8, Tryz.ntmps8
  go_wp2
  go_ret2
  exact ⟨rfl, Below.refl _ _⟩

/-- how far the play has come -/
def PlyX (w : World) (n tb : Nat) (l : List Acv) (o i : Value) (wr : World) : Prop :=
  ∃ (k : Nat) (A : Option Addr) (c : Nat) (ts : List Sv) (f : Rl) (p : Nat → Nat), k ≤ n ∧ i = .int .i64 k ∧ o = .slice A k c ∧ OwnL seS 31 wr w.heap.size A k c ts ∧ ts.map Sv.s = seenT root0 ((l.map Acv.a).take k) ∧
    TreeIs wr tb (actsT root0 ((l.map Acv.a).take k)) f p k ∧ (∀ b, f b ≠ none → w.heap.size ≤ b ∧ (Value.slice A k c).ownBlock ≠ some b) ∧ SeI wr (fun j => f j ≠ none ∨ (Value.slice A k c).ownBlock = some j) ts ∧ Below w.heap.size w wr

set_option maxRecDepth 100000 in
set_option maxHeartbeats 8000000 in
theorem play_ok (L : Option Addr) (n c : Nat) (l : List Acv) (w : World) (hn : n ≤ 300) (hb : Ls acS w L l) (hl : l.length = n) (hin : AcIn w l) :
    Calls Tryz.prog 8 #[.slice L n c] w (RetPl w (seenT root0 (l.map Acv.a))) := by
  have HL := Lib.hid hb
  have HN := Lib.hid hl
  have HI := Lib.hid hin
  have h3 : ¬ (300 : Int) < (n : Int) := by omega
  clear hb hl hin
  go_enter Tryz.func8, Tryz.ntmps8
  go_upto_region 4 with (go_at_call 20; (refine (new_any w).mono ?_); rintro e w1 ⟨tb, rfl, HNEW⟩)
  go_wp2_with (at_make; refine wpList_makeL (F := seS) rfl _ _ _ 23 rfl _ 72 Tryz.underlying23 seInfo w.heap.size _ _ _ n rfl rfl rfl (by omega) (by omega) (by have := HNEW.out.1.size; omega) ?_; intro w2 ho2 hb2 hs2; have O2 := Lib.hid ho2; have HB2 := Lib.hid hb2; clear ho2 hb2 hs2)
  obtain ⟨q5, hq5⟩ : ∃ q, q = w1.heap.size := ⟨_, rfl⟩
  rw [← hq5] at O2 ⊢
  have HQ5 := Lib.hid hq5
  clear hq5
  go_loopw [5, 17] (fun o i wr => PlyX w n tb l o i wr) (fun _ i _ => n - (intOf i).toNat)
  case atStart =>
    obtain ⟨hb1, f, p, ht, hf⟩ := HNEW.out
    refine ⟨0, some ⟨q5, 0, none⟩, n, [], f, p, Nat.zero_le _, rfl, rfl, O2.out, rfl, ht.new HB2.out, fun b hb => ⟨hf b hb, fun e => ?_⟩, fun x hx => (by cases hx), bthen hb1 HB2.out⟩
    injection e with e
    have := ht.lt b hb
    have := HQ5.out
    simp only at e
    omega
  case round =>
    obtain ⟨k, A, c', ts, f, p, hk, rfl, rfl, hown, hts, htree, hsep, hei, hbw⟩ := hrel
    have HOW := Lib.hid hown
    have HTS := Lib.hid hts
    have HTR := Lib.hid htree
    have HSEP := Lib.hid hsep
    have HEI := Lib.hid hei
    have HBW := Lib.hid hbw
    clear hown hts htree hsep hei hbw
    by_cases hlt : k < n
    · obtain ⟨x, hx⟩ : ∃ x, l[k]? = some x := ⟨_, List.getElem?_eq_getElem (by rw [HN.out]; exact hlt)⟩
      obtain ⟨bL, oL, rfl, hbl, hcc⟩ := (HL.out.below HBW.out).at k x hx
      have g0 := hcc 0 (.int .i64 x.a.kind) rfl
      have g1 := hcc 1 (.string (tx x.a.path)) rfl
      have g2 := hcc 2 (.string (tx x.a.to)) rfl
      have g3 := hcc 3 (.int .i64 x.a.at_) rfl
      have g4 := hcc 4 (.int .i64 x.a.count) rfl
      have g5 := hcc 5 (.slice x.D x.m x.d) rfl
      simp only [acS, Nat.add_zero] at g0 g1 g2 g3 g4 g5
      have hki : (k : Int) < (n : Int) := by omega
      have htk := take_ac hx
      obtain ⟨hi1, hi2, hi3⟩ := HI.out x (List.mem_of_getElem? hx)
      obtain ⟨Tk, hTk⟩ : ∃ T, T = actsT root0 ((l.map Acv.a).take k) := ⟨_, rfl⟩
      have HSE : Hid (seenT root0 ((l.map Acv.a).take (k + 1)) = seenT root0 ((l.map Acv.a).take k) ++ [(actT Tk x.a).2]) := Lib.hid (by rw [htk, seenT_app, ← hTk]; rfl)
      have HST : Hid (actsT root0 ((l.map Acv.a).take (k + 1)) = (actT Tk x.a).1) := Lib.hid (by rw [htk, actsT_app, ← hTk]; rfl)
      have hln : liveN Tk ≤ 1000000 := by
        have h1 := actsT_len ((l.map Acv.a).take k) root0
        have h2 : liveN Tk ≤ Tk.length := List.length_filter_le _ _
        rw [← hTk] at h1
        have h3 : ((l.map Acv.a).take k).length ≤ k := by rw [List.length_take]; omega
        have h4 : root0.length = 1 := rfl
        omega
      rw [← hTk] at HTR
      obtain ⟨q7, hq7⟩ : ∃ q, q = wr.heap.size := ⟨_, rfl⟩
      obtain ⟨w6, hw6⟩ : ∃ w6, w6 = wr.alloc (.cells (acV x) 55) := ⟨_, rfl⟩
      have HB6 : Hid (Below wr.heap.size wr w6) := Lib.hid (by rw [hw6]; exact ba1 _ _)
      have HX7 : Hid (Bx 55 w6 q7 (acV x)) := Lib.hid (by rw [hw6, hq7]; exact bx_new _ _ _)
      have HT6 := Lib.hid (HTR.out.new HB6.out)
      have HCALL : Hid (Calls Tryz.prog 21 #[.pointer (some ⟨tb, 0, none⟩), .agg (acV x)] w6 (RetDo w6 tb f k (actT Tk x.a))) := Lib.hid (by
        refine do_any x.a x.D x.m x.d w6 tb Tk f p k HT6.out (by omega) hln ((hi1.below HBW.out).below HB6.out) hi2 (fun h0 a ha hfa => ?_) hi3
        rcases hi1 with hz | ⟨b, o', e, hlt2, -⟩
        · have hd0 : x.a.data = [] := by
            rcases hdz : x.a.data with _ | ⟨z, zt⟩
            · rfl
            · rw [hdz] at hz; simp [Shape.flat, byS] at hz
          rw [hd0] at hi2; simp at hi2; omega
        · rw [ha] at e; injection e with e; subst e
          have := (HSEP.out _ hfa).1
          simp only at this; omega)
      clear hcc hx hi1 hi2 hi3 hln htk hTk
      go_upto_region 8 with fail
      have hw6' := hw6
      unfold acV at hw6'
      rw [← hw6', ← hq7]
      clear hw6 hw6' hq7 g0 g1 g2 g3 g4 g5
      have hx7 := HX7.out
      unfold acV at hx7 HCALL
      have a0 := hx7.cell 0 _ rfl
      have a1 := hx7.cell 1 _ rfl
      have a2 := hx7.cell 2 _ rfl
      have a3 := hx7.cell 3 _ rfl
      have a4 := hx7.cell 4 _ rfl
      have a5 := hx7.cell 5 _ rfl
      have hq7l := hx7.lt
      clear hx7
      go_wp2_with (first
        | (go_at_call 21; (with_reducible refine HCALL.out.mono ?_); rintro e w7 ⟨y, f7, p7, hy1, rfl, hy2, hy3, hy4, hy5, hy6⟩; have HY1 := Lib.hid hy1; have HY2 := Lib.hid hy2; have HY3 := Lib.hid hy3; have HY4 := Lib.hid hy4; have HY5 := Lib.hid hy5; have HY6 := Lib.hid hy6; unfold snV; clear hy1 hy2 hy3 hy4 hy5 hy6 a0 a1 a2 a3 a4 a5 hq7l)
        | (at_builtin; refine wpList_appL (F := seS) rfl _ (.tmp 21) (.tmp 25) 23 rfl _ 72 Tryz.underlying23 seInfo rfl w.heap.size A k c' ts rfl (((HOW.out.below HB6.out).keep (fun g hg => HY4.out.block g ((HOW.out.below HB6.out).lt g hg).2 (fun hs => (HSEP.out g hs).2 hg))).below (ba1 _ _)) (some ⟨w7.heap.size, 0, none⟩) 1 1 [y] rfl (ls_new w7 _ _ _ rfl _ rfl) rfl (k + 1) rfl (by omega) (by omega) (by have := HY4.out.size; have := HB6.out.size; have := HBW.out.size; simp; omega) ?_; intro A8 c8 w8 ho8 hb8 hs8; have HO8 := Lib.hid ho8; have HB8 := Lib.hid hb8; have HS8 := Lib.hid hs8; clear ho8 hb8 hs8))
      have z1 := HBW.out.size
      have z2 := HB6.out.size
      have z3 := HY4.out.size
      have hrow6 := fun j (hj : (Value.slice A k c').ownBlock = some j) => ((HOW.out.below HB6.out).lt j hj).2
      have hf6 := HT6.out.lt
      have hx8 : Only (fun j => (Value.slice A k c').ownBlock = some j) w7 w8 := (only_new (ba1 w7 _)).trans (T := fun j => (Value.slice A k c').ownBlock = some j) (HS8.out.only HB8.out) (fun j hj => .inl hj)
      have hf7 : ∀ b, f7 b ≠ none → w.heap.size ≤ b ∧ (Value.slice A k c').ownBlock ≠ some b := fun b hb => by
        rcases HY5.out b hb with g | g
        · exact HSEP.out b g
        · exact ⟨by omega, fun e => by have := hrow6 b e; omega⟩
      have hown8 : ∀ j, (Value.slice A8 (k + 1) c8).ownBlock = some j → (Value.slice A k c').ownBlock = some j ∨ w7.heap.size ≤ j := fun j hj => by
        rcases HS8.out.own j hj with g | g
        · exact .inl g
        · exact .inr (by simp at g; omega)
      refine ⟨⟨k + 1, A8, c8, ts ++ [y], f7, p7, by omega, by go_num, rfl, HO8.out, ?_, ?_, ?_, ?_, ?_⟩, by simp [intOf]; omega⟩
      · rw [List.map_append, HTS.out, HSE.out, ← HY1.out]; rfl
      · rw [HST.out]
        refine HY3.out.only hx8 (fun b hb => ?_)
        rcases hfb : f7 b with _ | r
        · rfl
        · exact absurd hb (hf7 b (by rw [hfb]; simp)).2
      · intro b hb
        refine ⟨(hf7 b hb).1, fun e => ?_⟩
        rcases hown8 b e with g | g
        · exact (hf7 b hb).2 g
        · have := HY3.out.lt b hb; omega
      · have h7 : SeI w7 (fun j => f7 j ≠ none ∨ (Value.slice A k c').ownBlock = some j) ts := by
          refine (HEI.out.only (S' := fun _ => False) (T := fun j => f j ≠ none ∨ (Value.slice A k c').ownBlock = some j) (only_new HB6.out) (fun _ h => h.elim) (fun j hj => .inl hj)).only HY4.out (fun j hj => .inl (.inl hj)) (fun j hj => ?_)
          rcases hj with hj | hj
          · rcases HY5.out j hj with g | g
            · exact .inl (.inl g)
            · exact .inr g
          · exact .inl (.inr hj)
        have h7y : SeI w7 (fun j => f7 j ≠ none ∨ (Value.slice A k c').ownBlock = some j) (ts ++ [y]) := h7.app (HY2.out.base (Nat.zero_le _)) (fun j hj hs => by
          rcases hj with hj | hj
          · exact HY6.out j hj hs
          · have := (HY2.out.lt j hs).1; have := hrow6 j hj; omega)
        refine h7y.only hx8 (fun j hj => .inl (.inr hj)) (fun j hj => ?_)
        rcases hj with hj | hj
        · exact .inl (.inl hj)
        · rcases hown8 j hj with g | g
          · exact .inl (.inr g)
          · exact .inr g
      · refine (bthen HBW.out HB6.out).trans ((HY4.out.below (B := w.heap.size) (fun j hj => (HSEP.out j hj).1) (by omega)).trans (hx8.below (B := w.heap.size) (fun j hj => ?_) (by omega)))
        exact (HOW.out.lt j hj).1
    · obtain rfl : k = n := by omega
      have hki : ¬ (k : Int) < (k : Int) := by omega
      have hall : (l.map Acv.a).take k = l.map Acv.a := List.take_of_length_le (by rw [List.length_map, HN.out]; exact Nat.le_refl _)
      rw [hall] at HTS
      have hlen : Hid ((seenT root0 (l.map Acv.a)).length = k) := Lib.hid (by rw [seenT_len, List.length_map, HN.out])
      go_wp2_with fail
      go_ret2
      exact ⟨A, c', ts, by rw [hlen.out]; rfl, by rw [hlen.out]; exact HOW.out, HTS.out, HEI.out.only (Only.refl (fun _ => False) _) (fun _ h => h.elim) (fun _ h => h.elim), HBW.out⟩

end Go.Proofs.YthjpighlcalocaaGreatDoor
