/-
  The document's FetchPlayed.
-/
import Derived.Test.YtjlnjeigoncfoaaFtRefOn
import Derived.Test.YtjlnjeigoncfoaaFtPlay
namespace Go.Proofs.Ytjlnjeigoncfoaa
open Go.RowKit Go.Maps
set_option linter.unusedVariables false
set_option linter.unusedSimpArgs false

theorem fref_size (L : Option Addr) (n c : Nat) (w : World) (hn : 300 < n) :
    Calls Try.prog 7 #[.slice L n c] w fun e w' => e = .returned (.tuple #[.slice none 0 0, .int .i64 1]) ∧ Below w.heap.size w w' := by
  have h3 : (300 : Int) < (n : Int) := by omega
  go_enter Try.func7, Try.ntmps7
  go_wp2
  go_ret2
  exact ⟨rfl, Below.refl _ _⟩

/-- one more is told: the list of what was told grows (the state stands in whatever form) -/
theorem told_growG {w6 w7 w8 : World} {B b0 : Nat} {A A8 : Option Addr} {m m' c c8 : Nat} {ts : List Nv} {x : Nx} {S7 A7 : Option Addr} {m7 sc7 n7 c7 : Nat} {F : World → (Nat → Prop) → Prop}
    (hF : ∀ w w' S T T', F w T → Only S w w' → (∀ k, S k → T k ∨ w.heap.size ≤ k) → (∀ k, T' k → T k ∨ w.heap.size ≤ k) → F w' T')
    (how : OwnL neS 30 w6 b0 A m c ts) (hei : EIn w6 (fun j => (Value.slice A m c).ownBlock = some j) ts)
    (h1 : x.wants.length = m7) (h2 : OwnL wtS 33 w7 w6.heap.size S7 m7 sc7 x.wants) (h3 : x.data.length = n7) (h4 : OwnL byS 5 w7 w6.heap.size A7 n7 c7 x.data)
    (h5 : F w7 (fun j => TTn B (.slice A m c) ts j ∨ TS S7 j ∨ TS A7 j)) (h6 : Only (fun k => B ≤ k ∧ ¬ TTn B (.slice A m c) ts k) w6 w7)
    (o : Obj) (hb8 : Below b0 (w7.alloc o) w8) (hs8 : Beside (.slice A m c) (.slice A8 m' c8) (w7.alloc o) w8) :
    F w8 (TTn B (.slice A8 m' c8) (ts ++ [⟨x, S7, m7, sc7, A7, n7, c7⟩])) ∧ EIn w8 (fun j => (Value.slice A8 m' c8).ownBlock = some j) (ts ++ [⟨x, S7, m7, sc7, A7, n7, c7⟩]) := by
  have hrow6 := fun j (hj : (Value.slice A m c).ownBlock = some j) => (how.lt j hj).2
  have hS7 : ∀ j, TS S7 j → w6.heap.size ≤ j ∧ j < w7.heap.size := fun j hj => h2.lt j (own_ts.2 hj)
  have hA7 : ∀ j, TS A7 j → w6.heap.size ≤ j ∧ j < w7.heap.size := fun j hj => h4.lt j (own_ts.2 hj)
  have hei7 : EIn w7 (fun j => (Value.slice A m c).ownBlock = some j) (ts ++ [⟨x, S7, m7, sc7, A7, n7, c7⟩]) := by
    refine EIn.app ?_ ⟨⟨h3, h4.ls, fun a ha g => ?_⟩, h1, h2.ls, fun a ha g => ?_⟩
    · have hal : EIn w6 (fun j => (Value.slice A m c).ownBlock = some j ∨ (B ≤ j ∧ ¬ TTn B (.slice A m c) ts j)) ts := fun y hy => by
        obtain ⟨⟨q0, q1, q2⟩, q3, q4, q5⟩ := hei y hy
        refine ⟨⟨q0, q1, fun a ha g => ?_⟩, q3, q4, fun a ha g => ?_⟩
        · rcases g with (g | g) | g
          · exact q2 a ha (.inl g)
          · exact g.2 (.inr (.inr ⟨y, hy, .inl ⟨a, ha, rfl⟩⟩))
          · exact q2 a ha (.inr g)
        · rcases g with (g | g) | g
          · exact q5 a ha (.inl g)
          · exact g.2 (.inr (.inr ⟨y, hy, .inr ⟨a, ha, rfl⟩⟩))
          · exact q5 a ha (.inr g)
      exact hal.only h6 (fun j hj => .inl (.inr hj)) (fun j hj => .inl (.inl hj))
    · have := hA7 _ ⟨a, ha, rfl⟩
      rcases g with g | g
      · have := hrow6 _ g; omega
      · omega
    · have := hS7 _ ⟨a, ha, rfl⟩
      rcases g with g | g
      · have := hrow6 _ g; omega
      · omega
  refine ⟨?_, ?_⟩
  · have hs7 : F w7 (TTn B (.slice A m c) (ts ++ [⟨x, S7, m7, sc7, A7, n7, c7⟩])) := hF _ _ (fun _ => False) _ _ h5 (Only.refl _ _) (fun _ h => h.elim) (fun j hj => by
      rcases hj with hj | hj | ⟨y, hy, hj⟩
      · exact .inl (.inl (.inl hj))
      · exact .inl (.inl (.inr (.inl hj)))
      · rcases List.mem_append.1 hy with hy | hy
        · exact .inl (.inl (.inr (.inr ⟨y, hy, hj⟩)))
        · simp at hy; subst hy
          rcases hj with hj | hj
          · exact .inl (.inr (.inr hj))
          · exact .inl (.inr (.inl hj)))
    have hs7' := hF _ _ (fun _ => False) _ (TTn B (.slice A m c) (ts ++ [⟨x, S7, m7, sc7, A7, n7, c7⟩])) hs7 (only_new (ba1 w7 o)) (fun _ h => h.elim) (fun j hj => .inl hj)
    exact hF _ _ _ _ _ hs7' (hs8.only hb8) (fun j hj => .inl (.inr (.inl hj))) (fun j hj => by
      rcases hj with hj | hj | hj
      · exact .inl (.inl hj)
      · rcases hs8.own j hj with g | g
        · exact .inl (.inr (.inl g))
        · exact .inr g
      · exact .inl (.inr (.inr hj)))
  · refine EIn.only (hei7.new (ba1 _ _)) (hs8.only hb8) (fun j hj => .inl hj) (fun j hj => ?_)
    exact hs8.own j hj
theorem told_growD {w6 w7 w8 : World} {B b0 K : Nat} {A A8 : Option Addr} {m m' c c8 : Nat} {ts : List Nv} {r : Nx × Fs} {S7 A7 : Option Addr} {m7 sc7 n7 c7 : Nat}
    (how : OwnL neS 30 w6 b0 A m c ts) (hei : EIn w6 (fun j => (Value.slice A m c).ownBlock = some j) ts)
    (h1 : r.1.wants.length = m7) (h2 : OwnL wtS 33 w7 w6.heap.size S7 m7 sc7 r.1.wants) (h3 : r.1.data.length = n7) (h4 : OwnL byS 5 w7 w6.heap.size A7 n7 c7 r.1.data)
    (h5 : DM w7 (fun j => TTn B (.slice A m c) ts j ∨ TS S7 j ∨ TS A7 j) B K r.2) (h6 : Only (fun k => B ≤ k ∧ ¬ TTn B (.slice A m c) ts k) w6 w7)
    (o : Obj) (hb8 : Below b0 (w7.alloc o) w8) (hs8 : Beside (.slice A m c) (.slice A8 m' c8) (w7.alloc o) w8) :
    DM w8 (TTn B (.slice A8 m' c8) (ts ++ [⟨r.1, S7, m7, sc7, A7, n7, c7⟩])) B K r.2 ∧ EIn w8 (fun j => (Value.slice A8 m' c8).ownBlock = some j) (ts ++ [⟨r.1, S7, m7, sc7, A7, n7, c7⟩]) :=
  told_growG (F := fun w T => DM w T B K r.2) (fun w w' S T T' h ho hS hT => h.only ho hS hT) how hei h1 h2 h3 h4 h5 h6 o hb8 hs8

/-- how far the walk has come -/
def FRI (w : World) (n B : Nat) (s0 : Fs) (x0 : Nx) (l : List Gv) (o i : Value) (wr : World) : Prop :=
  ∃ (k : Nat) (A : Option Addr) (c : Nat) (ts : List Nv), k ≤ n ∧ i = .int .i64 k ∧ o = .slice A (k + 1) c ∧ OwnL neS 30 wr (B + 5) A (k + 1) c ts ∧ ts.map Nv.x = x0 :: (fold s0 ((l.map Gv.g).take k)).1 ∧
    DM wr (TTn B (.slice A (k + 1) c) ts) B (100 * k) (fold s0 ((l.map Gv.g).take k)).2 ∧ EIn wr (fun j => (Value.slice A (k + 1) c).ownBlock = some j) ts ∧ Below w.heap.size w wr
/-- the first place of x among the first j, or none -/
def FIdx (a : Int) (l : List Wt) (x : Wt) (j : Nat) : Prop := (a = -1 ∧ x ∉ l.take j) ∨ (∃ k : Nat, a = k ∧ k < j ∧ l[k]? = some x ∧ x ∉ l.take k)
theorem fidx_new {l : List Wt} {x : Wt} {j : Nat} (h : FIdx (-1) l x j) (hx : l[j]? = some x) : FIdx j l x (j + 1) := by
  rcases h with ⟨-, h⟩ | ⟨k, h, -⟩
  · exact .inr ⟨j, rfl, by omega, hx, h⟩
  · omega
theorem fidx_old {a : Int} {l : List Wt} {x y : Wt} {j : Nat} (h : FIdx a l x j) (hy : l[j]? = some y) (hn : y ≠ x ∨ 0 ≤ a) : FIdx a l x (j + 1) := by
  rcases h with ⟨rfl, h⟩ | ⟨k, rfl, h1, h2, h3⟩
  · refine .inl ⟨rfl, ?_⟩
    rw [List.take_add_one, hy]
    simp only [Option.toList, List.mem_append, List.mem_singleton]
    rintro (g | g)
    · exact h g
    · rcases hn with hn | hn
      · exact hn g.symm
      · omega
  · exact .inr ⟨k, rfl, by omega, h2, h3⟩

theorem stop_endV (s : Fs) (a : Int) (ha : a ≤ 2147) : (stopT a s).out = s.out ∧ (stopT a s).dat = s.dat ∧ (stopT a s).front = s.front ∧ endV (stopT a s) = if a < endV s then a else endV s := by
  by_cases h : s.ended = true
  · rw [endV_known h]
    unfold stopT
    by_cases g : a < s.fin
    · rw [if_pos (by simp [g]), if_pos g]; exact ⟨rfl, rfl, rfl, rfl⟩
    · rw [if_neg (by simp [g, h]), if_neg g]; exact ⟨rfl, rfl, rfl, endV_known h⟩
  · have h' : s.ended = false := by simpa using h
    rw [endV_open h', if_pos (by omega)]
    unfold stopT
    rw [if_pos (by simp [h'])]
    exact ⟨rfl, rfl, rfl, rfl⟩
theorem dm0 (w : World) (w1 : World) (hw1 : w1 = ((((w.alloc (.cells #[.slice none 0 0] 27)).alloc (.map #[] 0)).alloc (.cells #[.map (some (w.heap.size + 1))] 49)).alloc (.cells #[.int .i64 0] 3)).alloc (.cells #[.int .i64 1099511627776] 3)) :
    DM w1 (fun k => k < w.heap.size) w.heap.size 0 fs0 ∧ Below w.heap.size w w1 ∧ w1.heap.size = w.heap.size + 5 := by
  subst hw1
  refine ⟨⟨none, 0, fun _ => none, ⟨?_, ?_, ?_, ?_⟩, ⟨?_, fun x hx => ?_⟩, OwnL.nil _ _, fun k hk => (by cases hk), fun j hj => by omega, List.length_replicate⟩, ?_, by simp⟩
  · exact ((((bx_new w _ _).below (ba1 _ _)).below (ba1 _ _)).below (ba1 _ _)).below (ba1 _ _)
  · have := (bx_new ((w.alloc (.cells #[.slice none 0 0] 27)).alloc (.map #[] 0)) 49 #[.map (some (w.heap.size + 1))])
    rw [show ((w.alloc (.cells #[.slice none 0 0] 27)).alloc (.map #[] 0)).heap.size = w.heap.size + 2 by simp] at this
    exact (this.below (ba1 _ _)).below (ba1 _ _)
  · have := (bx_new (((w.alloc (.cells #[.slice none 0 0] 27)).alloc (.map #[] 0)).alloc (.cells #[.map (some (w.heap.size + 1))] 49)) 3 #[.int .i64 0])
    rw [show (((w.alloc (.cells #[.slice none 0 0] 27)).alloc (.map #[] 0)).alloc (.cells #[.map (some (w.heap.size + 1))] 49)).heap.size = w.heap.size + 3 by simp] at this
    exact this.below (ba1 _ _)
  · have := (bx_new ((((w.alloc (.cells #[.slice none 0 0] 27)).alloc (.map #[] 0)).alloc (.cells #[.map (some (w.heap.size + 1))] 49)).alloc (.cells #[.int .i64 0] 3)) 3 #[.int .i64 1099511627776])
    rw [show ((((w.alloc (.cells #[.slice none 0 0] 27)).alloc (.map #[] 0)).alloc (.cells #[.map (some (w.heap.size + 1))] 49)).alloc (.cells #[.int .i64 0] 3)).heap.size = w.heap.size + 4 by simp] at this
    exact this
  · have := mapIs_made (w.alloc (.cells #[.slice none 0 0] 27))
    rw [show (w.alloc (.cells #[.slice none 0 0] 27)).heap.size = w.heap.size + 1 by simp] at this
    exact ((this.below (ba1 _ _)).below (ba1 _ _)).below (ba1 _ _)
  · show (0 : Int) = (List.replicate room 0).getD x 0
    rw [List.getD_eq_getElem?_getD, List.getElem?_replicate, if_pos hx]; rfl
  · exact ((((ba1 _ _).trans ((ba1 _ _).mono (by simp))).trans ((ba1 _ _).mono (by simp; omega))).trans ((ba1 _ _).mono (by simp; omega))).trans ((ba1 _ _).mono (by simp; omega))

set_option maxRecDepth 100000 in
set_option maxHeartbeats 8000000 in
theorem fref_ok (L : Option Addr) (n c : Nat) (l : List Gv) (w : World) (hn : n ≤ 300) (hb : Ls gtS w L l) (hl : l.length = n) (hin : GIn w l) (hby : ∀ x ∈ l, ∀ z ∈ x.g.data, 0 ≤ z ∧ z ≤ 255) :
    Calls Try.prog 7 #[.slice L n c] w (RetN w (fetchT (l.map Gv.g))) := by
  have HL := Lib.hid hb
  have HN := Lib.hid hl
  have HI := Lib.hid hin
  have HBY := Lib.hid hby
  have h3 : ¬ (300 : Int) < (n : Int) := by omega
  clear hb hl hin hby
  obtain ⟨B, hB⟩ : ∃ B, B = w.heap.size := ⟨_, rfl⟩
  obtain ⟨w1, hw1⟩ : ∃ w1, w1 = ((((w.alloc (.cells #[.slice none 0 0] 27)).alloc (.map #[] 0)).alloc (.cells #[.map (some (w.heap.size + 1))] 49)).alloc (.cells #[.int .i64 0] 3)).alloc (.cells #[.int .i64 1099511627776] 3) := ⟨_, rfl⟩
  obtain ⟨hdm, hb1, hsz1⟩ := dm0 w w1 hw1
  rw [← hB] at hdm hsz1
  have HD1 := Lib.hid hdm
  have HB1 := Lib.hid hb1
  have HS1 := Lib.hid hsz1
  have HBB : Hid (w.heap.size = B) := Lib.hid hB.symm
  obtain ⟨r0, hr0⟩ : ∃ r, r = nextT 0 fs0 := ⟨_, rfl⟩
  have HK0 : Hid (FsOk r0.2) := Lib.hid (by rw [hr0]; exact fsOk0.on)
  obtain ⟨rt, hrt⟩ : ∃ r, r = fetchT (l.map Gv.g) := ⟨_, rfl⟩
  have HRT : Hid (rt = r0.1 :: (fold r0.2 (l.map Gv.g)).1) := Lib.hid (by rw [hrt, hr0]; rfl)
  have HRL : Hid (rt.length = n + 1) := Lib.hid (by rw [hrt, fetchT_len, List.length_map, HN.out])
  have HON : Hid (Calls Try.prog 15 #[.agg #[.int .i64 0, .slice none 0 0, .bool false, .slice none 0 0], .pointer (some ⟨B, 0, none⟩), .pointer (some ⟨B + 3, 0, none⟩), .pointer (some ⟨B + 4, 0, none⟩), .pointer (some ⟨B + 2, 0, none⟩)] w1 (RetD w1 (B + 5) (fun k => k < B) B 0 r0)) := Lib.hid (by
    rw [hr0]
    exact on_any w1 (B + 5) 0 (fun k => k < B) B 0 fs0 none 0 0 (hdm.more (fun k hk => by
      rcases hk with hk | ⟨a, h, -⟩
      · exact .inl hk
      · cases h)) fsOk0 (fun k hk => by omega) (OwnL.nil _ _) (fun j ⟨a, h, _⟩ => by cases h) (Nat.le_refl _) (by omega) (Nat.zero_le _))
  rw [← hrt]
  clear hdm hb1 hsz1 hr0 hrt
  have hmm := @run_makeMap Try.prog
  go_enter Try.func7, Try.ntmps7
  go_upto_region 7 with fail
  clear hmm
  rw [← hw1, ← hB]
  clear hw1 hB
  go_upto_region 9 with (go_at_call 15; (with_reducible refine HON.out.mono ?_); rintro e w3 ⟨S3, m3, sc3, A3, n3, c3, rfl, h1, h2, h3', h4, h5, h6⟩; have G1 := Lib.hid h1; have G2 := Lib.hid h2; have G3 := Lib.hid h3'; have G4 := Lib.hid h4; have G5 := Lib.hid h5; have G6 := Lib.hid h6; clear h1 h2 h3' h4 h5 h6)
  rw [show B + 1 + 1 + 1 + 1 = B + 4 from rfl, show B + 1 + 1 + 1 = B + 3 from rfl, show B + 1 + 1 = B + 2 from rfl]
  obtain ⟨qa, hqa⟩ : ∃ q, q = w3.heap.size := ⟨_, rfl⟩
  obtain ⟨w4, hw4⟩ : ∃ w4, w4 = w3.alloc (.cells #[.int .i64 r0.1.code, .slice S3 m3 sc3, .bool r0.1.done, .slice A3 n3 c3] 30) := ⟨_, rfl⟩
  have HI4 : Hid (FRI w n B r0.2 r0.1 l (.slice (some ⟨qa, 0, none⟩) 1 1) (.int .i64 0) w4) := Lib.hid (by
    have z1 := HS1.out
    have z3 := G6.out.size
    have hb4 : Below w3.heap.size w3 w4 := by rw [hw4]; exact ba1 _ _
    refine ⟨0, some ⟨qa, 0, none⟩, 1, [⟨r0.1, S3, m3, sc3, A3, n3, c3⟩], Nat.zero_le _, rfl, rfl, ?_, rfl, ?_, ?_, ?_⟩
    · rw [hw4]; exact ownL_new w3 (B + 5) (by omega) _ 1 _ rfl rfl (by omega) _ hqa
    · refine G5.out.only (S := fun _ => False) (only_new hb4) (fun _ h => h.elim) (fun j hj => ?_)
      rcases hj with hj | hj | ⟨y, hy, hj⟩
      · exact .inl (.inl hj)
      · injection hj with hj; right; rw [← hj, hqa]; exact Nat.le_refl _
      · simp at hy; subst hy
        rcases hj with hj | hj
        · exact .inl (.inr (.inr hj))
        · exact .inl (.inr (.inl hj))
    · intro y hy
      simp at hy; subst hy
      have hS := fun j (hj : TS S3 j) => (G2.out.lt j (own_ts.2 hj)).2
      have hA := fun j (hj : TS A3 j) => (G4.out.lt j (own_ts.2 hj)).2
      have z4 := hb4.size
      have z5 : w4.heap.size = w3.heap.size + 1 := by rw [hw4]; simp
      refine ⟨⟨G3.out, (G4.out.below hb4).ls, fun a ha g => ?_⟩, G1.out, (G2.out.below hb4).ls, fun a ha g => ?_⟩
      · have := hA _ ⟨a, ha, rfl⟩
        rcases g with g | g
        · injection g with g; simp only at g; omega
        · omega
      · have := hS _ ⟨a, ha, rfl⟩
        rcases g with g | g
        · injection g with g; simp only at g; omega
        · omega
    · have z0 := HBB.out
      exact (HB1.out.trans ((G6.out.below (B := w.heap.size) (fun j hj => by omega) (by omega)))).trans (hb4.mono (by omega)))
  rw [← hw4, ← hqa]
  clear hw4 hqa
  go_upto_region 10 with fail
  go_loopw [9, 30] (fun o i wr => FRI w n B r0.2 r0.1 l o i wr) (fun _ i _ => n - (intOf i).toNat)
  case atStart => exact HI4.out
  case round =>
    obtain ⟨k, A, c', ts, hk, rfl, rfl, hown, hts, hol, hei, hbw⟩ := hrel
    have HOW := Lib.hid hown
    have HTS := Lib.hid hts
    have HOL := Lib.hid hol
    have HEI := Lib.hid hei
    have HBW := Lib.hid hbw
    clear hown hts hol hei hbw G1 G2 G3 G4 G5 G6 HI4 HON HD1 HB1
    by_cases hlt : k < n
    · obtain ⟨wo, rfl⟩ : ∃ wo, wo = wr := ⟨_, rfl⟩
      obtain ⟨x, hx⟩ : ∃ x, l[k]? = some x := ⟨_, List.getElem?_eq_getElem (by rw [HN.out]; exact hlt)⟩
      obtain ⟨bL, oL, rfl, hbl, hcc⟩ := (HL.out.below HBW.out).at k x hx
      have g0 := hcc 0 (.int .i64 x.g.at_) rfl
      have g1 := hcc 1 (.int .i64 x.g.cnt) rfl
      have g2 := hcc 2 (.slice x.A x.n x.c) rfl
      simp only [gtS, Nat.add_zero] at g0 g1 g2
      have hki : (k : Int) < (n : Int) := by omega
      have HST := Lib.hid (fold_take r0.2 (l.map Gv.g) k x.g (by rw [List.getElem?_map, hx]; rfl))
      obtain ⟨s, hsk⟩ : ∃ s, s = (fold r0.2 ((l.map Gv.g).take k)).2 := ⟨_, rfl⟩
      have HKK : Hid (FsOk s) := Lib.hid (by rw [hsk]; exact fold_ok _ _ HK0.out)
      rw [← hsk] at HOL HST
      obtain ⟨hi1, hi2, hi3⟩ := HI.out x (List.mem_of_getElem? hx)
      have HBX := Lib.hid (HBY.out x (List.mem_of_getElem? hx))
      obtain ⟨qg, hqg⟩ : ∃ q, q = wo.heap.size := ⟨_, rfl⟩
      obtain ⟨⟨⟨ga, gc, gd⟩, X, xn, xc⟩, hxe⟩ : ∃ y, y = x := ⟨_, rfl⟩
      subst hxe
      simp only at g0 g1 g2 hi1 hi2 hi3 HST HBX
      obtain ⟨w6, hw6⟩ : ∃ w6, w6 = wo.alloc (.cells #[.int .i64 ga, .int .i64 gc, .slice X xn xc] 42) := ⟨_, rfl⟩
      have HB6 : Hid (Below wo.heap.size wo w6) := Lib.hid (by rw [hw6]; exact ba1 _ _)
      have HXG : Hid (Bx 42 w6 qg #[.int .i64 ga, .int .i64 gc, .slice X xn xc]) := Lib.hid (by rw [hw6, hqg]; exact bx_new _ _ _)
      have HGW : Hid (Ls byS w X gd) := Lib.hid hi1
      have HGL : Hid (Ls byS w6 X gd ∧ gd.length = xn) := Lib.hid ⟨(hi1.below HBW.out).below HB6.out, hi2⟩
      have HDM6 : Hid (DM w6 (TTn B (.slice A (k + 1) c') ts) B (100 * k) s) := Lib.hid (HOL.out.new HB6.out)
      have HDQ6 : Hid (DM w6 (fun j => TTn B (.slice A (k + 1) c') ts j ∨ j = qg) B (100 * k) s) := Lib.hid (HOL.out.only (S := fun _ => False) (only_new HB6.out) (fun _ h => h.elim) (fun j hj => by
        rcases hj with hj | hj
        · exact .inl hj
        · exact .inr (by rw [hj, hqg]; exact Nat.le_refl _)))
      have HOW6 : Hid (OwnL neS 30 w6 (B + 5) A (k + 1) c' ts) := Lib.hid (HOW.out.below HB6.out)
      have HEI6 : Hid (EIn w6 (fun j => (Value.slice A (k + 1) c').ownBlock = some j) ts) := Lib.hid (HEI.out.new HB6.out)
      have HT6 : Hid (∀ j, TTn B (.slice A (k + 1) c') ts j → j < w6.heap.size) := Lib.hid (fun j hj => by
        have := HDM6.out.lt
        rcases hj with hj | hj | ⟨y, hy, hj⟩
        · omega
        · exact (HOW6.out.lt j hj).2
        · exact ein_lt HEI6.out hy hj)
      have HBW6 : Hid (Below w.heap.size w w6) := Lib.hid (bthen HBW.out HB6.out)
      obtain ⟨r, hr⟩ : ∃ r, r = takeG s ⟨ga, gc, gd⟩ := ⟨_, rfl⟩
      rw [← hr] at HST
      have HR := Lib.hid hr
      have hx47 : xn ≤ 140737488355328 := hi3
      have hclose : ∀ (w7 w10 : World) (S7 : Option Addr) (m7 sc7 : Nat) (A7 : Option Addr) (n7 c7 K' : Nat) (A10 : Option Addr) (c10 : Nat) (o : Obj), r.1.wants.length = m7 → OwnL wtS 33 w7 w6.heap.size S7 m7 sc7 r.1.wants → r.1.data.length = n7 → OwnL byS 5 w7 w6.heap.size A7 n7 c7 r.1.data →
          DM w7 (fun j => TTn B (.slice A (k + 1) c') ts j ∨ TS S7 j ∨ TS A7 j) B K' r.2 → K' ≤ 100 * (k + 1) → Only (fun j => B ≤ j ∧ ¬ TTn B (.slice A (k + 1) c') ts j) w6 w7 →
          OwnL neS 30 w10 (B + 5) A10 (k + 1 + 1) c10 (ts ++ [⟨r.1, S7, m7, sc7, A7, n7, c7⟩]) → Below (B + 5) (w7.alloc o) w10 → Beside (.slice A (k + 1) c') (.slice A10 (k + 1 + 1) c10) (w7.alloc o) w10 → FRI w n B r0.2 r0.1 l (.slice A10 (k + 1 + 1) c10) (.int .i64 ((k : Int) + 1)) w10 := fun w7 w10 S7 m7 sc7 A7 n7 c7 K' A10 c10 o h1 h2 h3 h4 h5 hK h6 ho hb hs => by
        obtain ⟨hg1, hg2⟩ := told_growD HOW6.out HEI6.out h1 h2 h3 h4 h5 h6 o hb hs
        refine ⟨k + 1, A10, c10, _, by omega, by go_num, rfl, ho, by rw [List.map_append, HTS.out, HST.out]; rfl, by rw [HST.out]; exact hg1.mono hK, hg2, ?_⟩
        have z0 := HBB.out
        have z1 := HBW6.out.size
        have z2 := HDM6.out.lt
        have z3 := h6.size
        exact ((HBW6.out.trans (h6.below (B := w.heap.size) (fun j hj => by omega) (by omega))).trans ((ba1 w7 _).mono (by omega))).trans (hb.mono (by omega))
      have HCLOSE := Lib.hid hclose
      clear hcc hx hsk hi1 hi2 hi3 hr hclose
      go_upto_region 13 with fail
      rw [← hw6, ← hqg]
      clear hw6 hqg g0 g1 g2 HOW HOL HEI HB6 HBW
      obtain ⟨A0, c0, M, ⟨k0, -, -, -⟩, -, -, hO, -⟩ := HDM6.out.cells
      have hB6 := HDM6.out.lt
      have HO := Lib.hid hO
      obtain ⟨no, hno⟩ : ∃ no, no = s.out.length := ⟨_, rfl⟩
      have HNO := Lib.hid hno
      rw [← hno] at k0 HO
      have hno6 : no ≤ 6 := by rw [hno]; exact HKK.out.few
      have hB60 : B < w6.heap.size := by omega
      clear hO hno
      go_upto_region 14 with fail
      clear k0
      go_loopw [12, 36] (fun a i wx => ∃ (j : Nat) (aI : Int), j ≤ no ∧ i = .int .i64 j ∧ a = .int .i64 aI ∧ FIdx aI s.out (ga, gc) j ∧ Below w6.heap.size w6 wx) (fun _ i _ => no - (intOf i).toNat)
      case atStart => exact ⟨0, -1, Nat.zero_le _, rfl, rfl, .inl ⟨rfl, by simp⟩, Below.refl _ _⟩
      case round =>
        obtain ⟨j, aI, hj, rfl, rfl, hfi, hbx⟩ := hrel
        have HFI := Lib.hid hfi
        have HBX6 := Lib.hid hbx
        have hxg := HXG.out.below hbx
        have p0 := hxg.cell 0 _ rfl
        have p1 := hxg.cell 1 _ rfl
        have p2 := hxg.cell 2 _ rfl
        have pl := hxg.lt
        have ha1 : -1 ≤ aI := by rcases hfi with ⟨rfl, -⟩ | ⟨kk, rfl, -⟩ <;> omega
        have HMI : Hid (aI < 0 → aI = -1) := Lib.hid (fun h => by omega)
        clear hfi hbx hxg
        by_cases hjl : j < no
        · obtain ⟨⟨p, q⟩, hy⟩ : ∃ y, s.out[j]? = some y := ⟨_, List.getElem?_eq_getElem (by rw [← HNO.out]; exact hjl)⟩
          obtain ⟨bb, o, rfl, hbs, hcc⟩ := (HO.out.below HBX6.out).ls.at j _ hy
          have hc1 := hcc 0 (.int .i64 p) rfl
          have hc2 := hcc 1 (.int .i64 q) rfl
          simp only [wtS, Nat.add_zero] at hc1 hc2
          have hji : (j : Int) < (no : Int) := by omega
          have HY := Lib.hid hy
          clear hcc hy
          by_cases hpa : p = ga
          · obtain rfl := hpa
            by_cases hqc : q = gc
            · obtain rfl := hqc
              by_cases ha0 : aI < 0
              · have HNX : Hid (FIdx j s.out (p, q) (j + 1)) := Lib.hid (by
                  have := HFI.out
                  rw [HMI.out ha0] at this
                  exact fidx_new this HY.out)
                go_wp2_with fail
                exact ⟨⟨j + 1, j, by omega, by go_num, rfl, HNX.out, bthen HBX6.out (ba1 _ _)⟩, by simp [intOf]; omega⟩
              · have HNX : Hid (FIdx aI s.out (p, q) (j + 1)) := Lib.hid (fidx_old HFI.out HY.out (.inr (by omega)))
                go_wp2_with fail
                exact ⟨⟨j + 1, aI, by omega, by go_num, rfl, HNX.out, bthen HBX6.out (ba1 _ _)⟩, by simp [intOf]; omega⟩
            · have HNX : Hid (FIdx aI s.out (p, gc) (j + 1)) := Lib.hid (fidx_old HFI.out HY.out (.inl (fun e => hqc (by injection e))))
              have z1 : (q == gc) = false := by simpa using hqc
              have z2 : decide (q = gc) = false := by simpa using hqc
              clear hqc
              go_wp2_with fail
              exact ⟨⟨j + 1, aI, by omega, by go_num, rfl, HNX.out, bthen HBX6.out (ba1 _ _)⟩, by simp [intOf]; omega⟩
          · have HNX : Hid (FIdx aI s.out (ga, gc) (j + 1)) := Lib.hid (fidx_old HFI.out HY.out (.inl (fun e => hpa (by injection e))))
            have z1 : (p == ga) = false := by simpa using hpa
            have z2 : decide (p = ga) = false := by simpa using hpa
            clear hpa
            go_wp2_with fail
            exact ⟨⟨j + 1, aI, by omega, by go_num, rfl, HNX.out, bthen HBX6.out (ba1 _ _)⟩, by simp [intOf]; omega⟩
        · obtain rfl : j = no := by omega
          obtain ⟨wl, rfl⟩ : ∃ wl, wl = wr := ⟨_, rfl⟩
          have HDL : Hid (DM wl (TTn B (.slice A (k + 1) c') ts) B (100 * k) s) := Lib.hid (HDM6.out.new HBX6.out)
          have HOWL : Hid (OwnL neS 30 wl (B + 5) A (k + 1) c' ts) := Lib.hid (HOW6.out.below HBX6.out)
          have hBL : B + 4 < wl.heap.size := HDL.out.lt
          have hfi := HFI.out
          have hnone : ∀ (cd : Int) (w10 : World) (A10 : Option Addr) (c10 : Nat) (o : Obj), r = (({ code := cd, wants := [], done := false, data := [] } : Nx), s) → OwnL neS 30 w10 (B + 5) A10 (k + 1 + 1) c10 (ts ++ [⟨{ code := cd, wants := [], done := false, data := [] }, none, 0, 0, none, 0, 0⟩]) → Below (B + 5) (wl.alloc o) w10 → Beside (.slice A (k + 1) c') (.slice A10 (k + 1 + 1) c10) (wl.alloc o) w10 → FRI w n B r0.2 r0.1 l (.slice A10 (k + 1 + 1) c10) (.int .i64 ((k : Int) + 1)) w10 := fun cd w10 A10 c10 o hr ho hb hs => by
            refine HCLOSE.out wl w10 none 0 0 none 0 0 (100 * k) A10 c10 o (by rw [hr]; rfl) (by rw [hr]; exact OwnL.nil _ _) (by rw [hr]; rfl) (by rw [hr]; exact OwnL.nil _ _) ?_ (by omega) (only_new HBX6.out) (by rw [hr]; exact ho) hb hs
            rw [hr]
            exact HDL.out.less (fun j hj => by
              rcases hj with hj | ⟨a, h, -⟩ | ⟨a, h, -⟩
              · exact hj
              · cases h
              · cases h)
          have HNONE := Lib.hid hnone
          clear hnone hjl
          rcases hfi with ⟨rfl, hni⟩ | ⟨pk, rfl, hpk, hpo, hpn⟩
          · have HE : Hid (r = (({ code := 7, wants := [], done := false, data := [] } : Nx), s)) := Lib.hid (by
              rw [HR.out]
              unfold takeG
              rw [if_neg]
              rwa [List.take_of_length_le (by rw [← HNO.out]; exact Nat.le_refl _)] at hni)
            clear hni ha1
            go_wp2_with (at_builtin; refine wpList_appL (F := neS) rfl _ (.tmp 61) (.tmp 63) 23 rfl _ 64 Try.underlying23 neInfo rfl (B + 5) A (k + 1) c' ts rfl (HOWL.out.below (ba1 _ _)) (some ⟨wl.heap.size, 0, none⟩) 1 1 [⟨{ code := 7, wants := [], done := false, data := [] }, none, 0, 0, none, 0, 0⟩] rfl (ls_new wl _ _ _ rfl _ rfl) rfl (k + 1 + 1) rfl (by omega) (by omega) (by simp; omega) ?_; intro A10 c10 w10 ho8 hb8 hs8; have O10 := Lib.hid ho8; have B10 := Lib.hid hb8; have S10 := Lib.hid hs8; clear ho8 hb8 hs8)
            exact ⟨HNONE.out 7 w10 A10 c10 _ HE.out O10.out B10.out S10.out, by simp [intOf]; omega⟩
          · have hmem : (ga, gc) ∈ s.out := List.mem_of_getElem? hpo
            have hpk0 : ¬ (pk : Int) < 0 := by omega
            by_cases hbig : gc < (xn : Int)
            · have HE : Hid (r = (({ code := 1, wants := [], done := false, data := [] } : Nx), s)) := Lib.hid (by
                rw [HR.out]
                unfold takeG
                rw [if_pos hmem, if_pos (by simp only; rw [HGL.out.2]; exact hbig)])
              clear hmem ha1 hpo hpn
              go_wp2_with (at_builtin; refine wpList_appL (F := neS) rfl _ (.tmp 71) (.tmp 73) 23 rfl _ 64 Try.underlying23 neInfo rfl (B + 5) A (k + 1) c' ts rfl (HOWL.out.below (ba1 _ _)) (some ⟨wl.heap.size, 0, none⟩) 1 1 [⟨{ code := 1, wants := [], done := false, data := [] }, none, 0, 0, none, 0, 0⟩] rfl (ls_new wl _ _ _ rfl _ rfl) rfl (k + 1 + 1) rfl (by omega) (by omega) (by simp; omega) ?_; intro A10 c10 w10 ho8 hb8 hs8; have O10 := Lib.hid ho8; have B10 := Lib.hid hb8; have S10 := Lib.hid hs8; clear ho8 hb8 hs8)
              exact ⟨HNONE.out 1 w10 A10 c10 _ HE.out O10.out B10.out S10.out, by simp [intOf]; omega⟩
            · have hbig' : (xn : Int) ≤ gc := by omega
              go_upto_region 23 with fail
              obtain ⟨A0', c0', M', ⟨k0, -, -, -⟩, ⟨f0, -, -⟩, -, hO', -⟩ := HDL.out.cells
              rw [← HNO.out] at k0 hO'
              have HO' := Lib.hid hO'
              have hcap := hO'.cap
              obtain ⟨gO, rfl⟩ : ∃ gO, A0' = some ⟨gO, 0, none⟩ := by
                rcases hO'.addr with ⟨-, h0, -⟩ | ⟨g, h, -⟩
                · omega
                · exact ⟨g, h⟩
              have hwp : IntKind.i64.wrap ((pk : Int) + 1) = (pk : Int) + 1 := by rw [IntKind.wrap_i64]; omega
              have hwt' : ((pk : Int) + 1).toNat = pk + 1 := by omega
              have hz0 : (0 : Int) ≤ (pk : Int) := by omega
              have hz1 : (0 : Int) ≤ (pk : Int) + 1 := by omega
              have hz2 : (pk : Int) + 1 ≤ (j : Int) := by omega
              have hz3 : (pk : Int) ≤ (c0' : Int) := by omega
              have hz4 : (j : Int) ≤ (c0' : Int) := by omega
              have hz5 : (pk : Int) + 1 ≤ (c0' : Int) := by omega
              have HTK5 : Hid ((s.out.take pk).length = pk) := Lib.hid (by rw [List.length_take, ← HNO.out]; omega)
              have HDR5 : Hid ((s.out.drop (pk + 1)).length = j - (pk + 1)) := Lib.hid (by rw [List.length_drop, ← HNO.out])
              have HL2 : Hid (∃ A2 c2, (c2 = c0' - (pk + 1)) ∧ (A2 = (if c0' = pk + 1 then (some ⟨gO, 0, none⟩ : Option Addr) else some ⟨gO, (pk + 1) * 2, none⟩)) ∧ ∀ wx, Below wl.heap.size wl wx → Ls wtS wx A2 (s.out.drop (pk + 1))) := Lib.hid ⟨_, _, rfl, rfl, fun wx hx => by
                split
                · have : s.out.drop (pk + 1) = [] := List.eq_nil_of_length_eq_zero (by rw [HDR5.out]; omega)
                  rw [this]; exact Ls.nil _ _
                · exact wt_drop (HO'.out.below hx) gO rfl (pk + 1) (by omega)⟩
              obtain ⟨A2, c2', hc2', hA2, hL2⟩ := HL2.out
              have HL2' := Lib.hid hL2
              have b0 := cell_drew1 k0
              have hBl : B < wl.heap.size := by omega
              have HK0' := Lib.hid k0
              have HF0' := Lib.hid f0
              clear hO' HL2
              go_cut [83] (fun o wc => ∃ A8 c8 w8, o = .slice A8 (j - 1) c8 ∧ wc = w8.setCell ⟨B, 0, none⟩ (.slice A8 (j - 1) c8) ∧ OwnL wtS 33 w8 wl.heap.size A8 (j - 1) c8 (s.out.take pk ++ s.out.drop (pk + 1)) ∧ Below wl.heap.size wl w8)
              case first =>
                clear hL2
                by_cases hck : c0' = pk + 1
                · rw [if_pos hck] at hA2
                  subst hA2
                  have hnp : j = pk + 1 := by omega
                  subst hnp
                  subst hck
                  rw [Nat.sub_self] at hc2'
                  subst hc2'
                  have hz6 : (pk : Int) ≤ (pk : Int) + 1 := by omega
                  have hz7 : (pk : Int) ≤ ((pk + 1 : Nat) : Int) := by omega
                  go_region_law (first
                    | (refine step_appL (F := wtS) rfl _ (.const (.slice none 0 0)) (.tmp 77) 27 rfl _ 16 Try.underlying27 wtInfo rfl wl.heap.size none 0 0 [] (by simp [Act.eval, Act.put]) (OwnL.nil _ _) (some ⟨gO, 0, none⟩) pk (pk + 1) (s.out.take pk) (by simp [Act.eval, Act.put]) ((HO'.out.below (Below.refl _ _).drew).ls.take pk) HTK5.out pk (by omega) (by omega) (by omega) (by first | exact Nat.le_refl _ | simp) ?_; intro A7 c7 w7 ho7 hb7 _; rw [List.nil_append] at ho7; have O7 := Lib.hid ho7; have B7 : Hid (Below wl.heap.size wl w7) := Lib.hid ((Below.refl _ _).drew.trans hb7); have c07 := (B7.out.cell (p := ⟨B, 0, none⟩) hBl).trans HK0'.out; clear ho7 hb7)
                    | (refine step_appL (F := wtS) rfl _ (.tmp 78) (.tmp 82) 27 rfl _ 16 Try.underlying27 wtInfo rfl wl.heap.size A7 pk c7 (s.out.take pk) (by simp [Act.eval, Act.put]) O7.out (some ⟨gO, 0, none⟩) 0 0 (s.out.drop (pk + 1)) (by simp [Act.eval, Act.put]) (HL2'.out _ B7.out) (by rw [HDR5.out]; omega) (pk + 1 - 1) (by omega) (by omega) (by omega) (by have := B7.out.size; omega) ?_; intro A8 c8 w8 ho8 hb8 _; have O8 := Lib.hid ho8; have B8 : Hid (Below wl.heap.size wl w8) := Lib.hid (B7.out.trans hb8); have c08 := (B8.out.cell (p := ⟨B, 0, none⟩) hBl).trans HK0'.out; have f08 : w8.frozen? ⟨B, 0, none⟩ = false := (by rw [← HF0'.out]; simp [World.frozen?, B8.out.block B hBl]); clear ho8 hb8))
                  all_goals
                    go_wp2_with fail
                  all_goals
                    go_meet
                  all_goals
                    exact ⟨A8, c8, w8, rfl, rfl, O8.out, B8.out⟩
                · rw [if_neg hck] at hA2
                  subst hA2
                  subst hc2'
                  go_region_law (first
                    | (refine step_appL (F := wtS) rfl _ (.const (.slice none 0 0)) (.tmp 77) 27 rfl _ 16 Try.underlying27 wtInfo rfl wl.heap.size none 0 0 [] (by simp [Act.eval, Act.put]) (OwnL.nil _ _) (some ⟨gO, 0, none⟩) pk c0' (s.out.take pk) (by simp [Act.eval, Act.put]) ((HO'.out.below (Below.refl _ _).drew).ls.take pk) HTK5.out pk (by omega) (by omega) (by omega) (by first | exact Nat.le_refl _ | simp) ?_; intro A7 c7 w7 ho7 hb7 _; rw [List.nil_append] at ho7; have O7 := Lib.hid ho7; have B7 : Hid (Below wl.heap.size wl w7) := Lib.hid ((Below.refl _ _).drew.trans hb7); have c07 := (B7.out.cell (p := ⟨B, 0, none⟩) hBl).trans HK0'.out; clear ho7 hb7)
                    | (refine step_appL (F := wtS) rfl _ (.tmp 78) (.tmp 82) 27 rfl _ 16 Try.underlying27 wtInfo rfl wl.heap.size A7 pk c7 (s.out.take pk) (by simp [Act.eval, Act.put]) O7.out (some ⟨gO, (pk + 1) * 2, none⟩) (j - (pk + 1)) (c0' - (pk + 1)) (s.out.drop (pk + 1)) (by simp [Act.eval, Act.put]) (HL2'.out _ B7.out) HDR5.out (j - 1) (by omega) (by omega) (by omega) (by have := B7.out.size; omega) ?_; intro A8 c8 w8 ho8 hb8 _; have O8 := Lib.hid ho8; have B8 : Hid (Below wl.heap.size wl w8) := Lib.hid (B7.out.trans hb8); have c08 := (B8.out.cell (p := ⟨B, 0, none⟩) hBl).trans HK0'.out; have f08 : w8.frozen? ⟨B, 0, none⟩ = false := (by rw [← HF0'.out]; simp [World.frozen?, B8.out.block B hBl]); clear ho8 hb8))
                  all_goals
                    go_wp2_with fail
                  all_goals
                    go_meet
                  all_goals
                    exact ⟨A8, c8, w8, rfl, rfl, O8.out, B8.out⟩
              case rest =>
                obtain ⟨A8, c8, w8, rfl, rfl, ho8, hb8⟩ := hcut
                obtain ⟨w9, hw9⟩ : ∃ w9, w9 = w8.setCell ⟨B, 0, none⟩ (.slice A8 (j - 1) c8) := ⟨_, rfl⟩
                obtain ⟨s1, hs1⟩ : ∃ s1, s1 = { s with out := s.out.erase (ga, gc) } := ⟨_, rfl⟩
                have HER : Hid (s1.out = s.out.take pk ++ s.out.drop (pk + 1) ∧ s1.dat = s.dat ∧ s1.front = s.front ∧ s1.ended = s.ended ∧ s1.fin = s.fin ∧ s1.out.length = j - 1) := Lib.hid (by
                  have he : s.out.erase (ga, gc) = s.out.take pk ++ s.out.drop (pk + 1) := by
                    rcases idx_at hpo hpn with ⟨h, -⟩ | ⟨pk', h1, -, -, h2⟩
                    · exact absurd hmem h
                    · obtain rfl : pk = pk' := by omega
                      exact h2
                  rw [hs1]
                  exact ⟨he, rfl, rfl, rfl, rfl, by show (s.out.erase (ga, gc)).length = _; rw [erase_len hmem, ← HNO.out]⟩)
                obtain ⟨T2, hT2⟩ : ∃ T2 : Nat → Prop, T2 = fun j => TTn B (.slice A (k + 1) c') ts j ∨ j = qg := ⟨_, rfl⟩
                have hrow : DM w9 T2 B (100 * k) s1 ∧ Only (fun j => B ≤ j ∧ ¬ T2 j) wl w9 := by
                  have hdl : DM wl T2 B (100 * k) s := by rw [hT2]; exact HDQ6.out.new HBX6.out
                  rw [hw9]
                  refine hdl.row (s' := s1) (some ⟨gO, 0, none⟩) c0' (by rw [← HNO.out]; exact HK0'.out) A8 (j - 1) c8 ⟨HER.out.2.1, HER.out.2.2.1, by unfold endV; rw [HER.out.2.2.2.1, HER.out.2.2.2.2.1]⟩ HER.out.2.2.2.2.2 (only_new hb8) (by rw [HER.out.1]; exact ho8.base (by omega)) (fun q hq => .inr (ho8.lt q hq).1) (fun q hq => ?_)
                  have := HBX6.out.size
                  rw [hT2] at hq
                  rcases hq with hq | hq
                  · have := HT6.out q hq; omega
                  · rw [hq]; exact pl
                obtain ⟨hd9, hon9⟩ := hrow
                have HT2 : Hid (∀ q, T2 q ↔ (TTn B (.slice A (k + 1) c') ts q ∨ q = qg)) := Lib.hid (fun q => by rw [hT2])
                have HD9 := Lib.hid hd9
                have HON9 := Lib.hid hon9
                have HS1E := Lib.hid hs1
                have HMEM := Lib.hid hmem
                have HBIG := Lib.hid hbig'
                have hxg9 := (HXG.out.below HBX6.out).only hon9 (fun g => g.2 ((HT2.out qg).2 (.inr rfl)))
                have HXG9 := Lib.hid hxg9
                rw [← hw9]
                clear hT2 hs1 hw9 ho8 hb8 hd9 hon9 hmem hpo hpn hL2 hA2 hc2' hwp hwt' hz0 hz1 hz2 hz3 hz4 hz5 b0 k0 f0 HK0' HF0' HL2' hcap HTK5 HDR5 HO' hBl hbig hbig' p0 p1 p2 pl hxg9
                obtain ⟨qz, hqz⟩ : ∃ q, q = w9.heap.size := ⟨_, rfl⟩
                obtain ⟨w10, hw10⟩ : ∃ w10, w10 = w9.alloc (.cells #[.int .i64 0, .slice none 0 0, .bool false, .slice none 0 0] 30) := ⟨_, rfl⟩
                have HB10 : Hid (Below w9.heap.size w9 w10) := Lib.hid (by rw [hw10]; exact ba1 _ _)
                have HXZ : Hid (Bx 30 w10 qz #[.int .i64 0, .slice none 0 0, .bool false, .slice none 0 0]) := Lib.hid (by rw [hw10, hqz]; exact bx_new _ _ _)
                obtain ⟨T3, hT3⟩ : ∃ T3 : Nat → Prop, T3 = fun j => T2 j ∨ j = qz := ⟨_, rfl⟩
                have HT3 : Hid (∀ q, T3 q ↔ (T2 q ∨ q = qz)) := Lib.hid (fun q => by rw [hT3])
                have HD10 : Hid (DM w10 T3 B (100 * k) s1) := Lib.hid (HD9.out.only (S := fun _ => False) (only_new HB10.out) (fun _ h => h.elim) (fun q hq => by
                  rcases (HT3.out q).1 hq with hq | hq
                  · exact .inl hq
                  · exact .inr (by rw [hq, hqz]; exact Nat.le_refl _)))
                have HXG10 := Lib.hid (HXG9.out.below HB10.out)
                have HW10 : Hid (Below w.heap.size w w10) := Lib.hid (by
                  have z0 := HBB.out
                  have z1 := HBW6.out.size
                  have z2 := HBX6.out.size
                  have z3 := HON9.out.size
                  exact ((HBW6.out.trans (HBX6.out.mono z1)).trans (HON9.out.below (B := w.heap.size) (fun q hq => by omega) (by omega))).trans (HB10.out.mono (by omega)))
                have HQQ : Hid (w9.heap.size ≤ qz ∧ qg ≠ qz) := Lib.hid ⟨by rw [hqz]; exact Nat.le_refl _, by have := HXG9.out.lt; omega⟩
                obtain ⟨⟨a0, a1, a2, a3⟩, hxn, hga⟩ : (0 ≤ ga ∧ 1 ≤ gc ∧ gc ≤ 100 ∧ ga + gc ≤ s.front) ∧ xn ≤ 100 ∧ ga ≤ 2147 := by
                  have h1 := HKK.out.wants _ HMEM.out
                  have h2 := HKK.out.f1
                  have h3 := HBIG.out
                  simp only at h1
                  exact ⟨h1, by omega, by omega⟩
                obtain ⟨an, rfl⟩ : ∃ an : Nat, ga = an := ⟨ga.toNat, by omega⟩
                have hfr : an + gc ≤ 2148 := by have := HKK.out.f1; omega
                have hax : an + xn ≤ 2148 := by have := HBIG.out; omega
                go_upto_region 25 with fail
                rw [← hw10, ← hqz]
                clear hw10 hqz hT3
                have p2 := HXG10.out.cell 2 _ rfl
                have pl := HXG10.out.lt
                go_upto_region 26 with fail
                clear p2 pl
                -- the bytes that came, one by one
                obtain ⟨sI, hsI⟩ : ∃ sI : Nat → Fs, sI = fun i => { s1 with dat := splice s1.dat an (gd.take i) } := ⟨_, rfl⟩
                have HSI : Hid (∀ i, (sI i).out = s1.out ∧ (sI i).front = s1.front ∧ (sI i).ended = s1.ended ∧ (sI i).fin = s1.fin ∧ (sI i).dat = splice s1.dat an (gd.take i)) := Lib.hid (fun i => by rw [hsI]; exact ⟨rfl, rfl, rfl, rfl, rfl⟩)
                have HS10 : Hid (s1.dat.length = room) := Lib.hid (by rw [HER.out.2.1]; exact HKK.out.len)
                have HLN : Hid (∀ i, i ≤ xn → (splice s1.dat an (gd.take i)).length = room) := Lib.hid (fun i hi => by rw [splice_len _ _ _ (by rw [HS10.out, List.length_take]; unfold room; omega), HS10.out])
                have HGDL : Hid (gd.length = xn) := Lib.hid HGL.out.2
                have HBYT : Hid (∀ i x, i < xn → x < room → (splice s1.dat an (gd.take (i + 1))).getD x 0 = if x = an + i then gd.getD i 0 else (splice s1.dat an (gd.take i)).getD x 0) := Lib.hid (fun i x hi hx => by
                  have h0 := HS10.out
                  have h1 := HGDL.out
                  rw [splice_getD _ _ _ (by rw [h0, List.length_take]; unfold room; omega), splice_getD _ _ _ (by rw [h0, List.length_take]; unfold room; omega), List.length_take, List.length_take, Nat.min_eq_left (by omega), Nat.min_eq_left (by omega)]
                  simp only [List.getD_eq_getElem?_getD]
                  by_cases e : x = an + i
                  · rw [if_pos (by omega), if_pos e, e, Nat.add_sub_cancel_left, List.getElem?_take_of_lt (by omega)]
                  · rw [if_neg e]
                    by_cases e1 : an ≤ x ∧ x < an + i
                    · rw [if_pos (by omega), if_pos e1, List.getElem?_take_of_lt (by omega), List.getElem?_take_of_lt (by omega)]
                    · rw [if_neg (by omega), if_neg e1])
                clear hsI
                go_loopw [87] (fun i wx => ∃ ii : Nat, ii ≤ xn ∧ i = .int .i64 ii ∧ DM wx T3 B (100 * k + ii) (sI ii) ∧ Only (fun q => q = B + 1) w10 wx) (fun i _ => xn - (intOf i).toNat)
                case atStart =>
                  refine ⟨0, Nat.zero_le _, rfl, ?_, Only.refl _ _⟩
                  obtain ⟨q1, q2, q3, q4, q5⟩ := HSI.out 0
                  have : sI 0 = s1 := by
                    rcases hs : sI 0 with ⟨d, o, f, e, n⟩
                    rcases hs' : s1 with ⟨d', o', f', e', n'⟩
                    rw [hs, hs'] at q1 q2 q3 q4 q5
                    simp only at q1 q2 q3 q4 q5
                    rw [q1, q2, q3, q4, q5]
                    simp [splice]
                  rw [this]; exact HD10.out
                case round =>
                  obtain ⟨ii, hii, rfl, hdi, hoi⟩ := hrel
                  obtain ⟨A5, c5, M5, ⟨-, k2, -, -⟩, -, hm5, -, -⟩ := hdi.cells
                  have hB5 := hdi.lt
                  have hB52 : B + 2 < wr.heap.size := by omega
                  have hqg1 : ¬ qg = B + 1 := fun e => by have := (HDQ6.out.notT 1 (by omega)); exact this (.inr e.symm)
                  have hqz1 : ¬ qz = B + 1 := fun e => by have h1 := HQQ.out.1; have h2 := HD9.out.lt; omega
                  have hxg := HXG10.out.only hoi hqg1
                  have p0 := hxg.cell 0 _ rfl
                  have p1 := hxg.cell 1 _ rfl
                  have p2 := hxg.cell 2 _ rfl
                  have pl := hxg.lt
                  have HDI := Lib.hid hdi
                  have HOI := Lib.hid hoi
                  have HM5 := Lib.hid hm5
                  have HXGI := Lib.hid hxg
                  have HXZI := Lib.hid (HXZ.out.only hoi hqz1)
                  clear hdi hoi hm5 hxg
                  by_cases hil : ii < xn
                  · obtain ⟨v, hv⟩ : ∃ v, gd[ii]? = some v := ⟨_, List.getElem?_eq_getElem (by rw [HGDL.out]; exact hil)⟩
                    have hlsb : Ls byS wr X gd := HGW.out.below (HW10.out.trans (HOI.out.below (B := w.heap.size) (fun q hq => by have := HBB.out; omega) HW10.out.size))
                    obtain ⟨bX, oX, rfl, hbX, hc1⟩ := hlsb.one ii v hv rfl (.int .u8 v) rfl
                    have hki2 : (ii : Int) < (xn : Int) := by omega
                    have hwz : IntKind.i64.wrap ((an : Int) + (ii : Int)) = ((an + ii : Nat) : Int) := by rw [IntKind.wrap_i64]; omega
                    have HV01 : Hid (0 ≤ v ∧ v ≤ 255) := Lib.hid (HBX.out v (List.mem_of_getElem? hv))
                    have HVV : Hid (gd.getD ii 0 = v) := Lib.hid (by rw [List.getD_eq_getElem?_getD, hv]; rfl)
                    have hz : i64in ((an + ii : Nat) : Int) := ⟨by omega, by omega⟩
                    have HZ := Lib.hid hz
                    clear hv hlsb hz
                    go_wp2_with (at_mapUpdate; refine wpList_store _ rfl _ _ _ rfl (B + 1) (100 * k + ii) M5 rfl HM5.out.1 (by unfold maxLen; omega) _ HZ.out rfl v HV01.out.1 HV01.out.2 rfl ?_; intro w11 hm11 ho11 hs11; have HM11 := Lib.hid hm11; have HO11 := Lib.hid ho11; clear hm11 ho11 hs11)
                    refine ⟨⟨ii + 1, by omega, by go_num, ?_, HOI.out.trans HO11.out (fun q hq => .inl hq)⟩, by simp [intOf]; omega⟩
                    obtain ⟨q1, q2, q3, q4, q5⟩ := HSI.out ii
                    obtain ⟨t1, t2, t3, t4, t5⟩ := HSI.out (ii + 1)
                    refine HDI.out.byte (s' := sI (ii + 1)) _ HM11.out HO11.out ⟨by rw [t1, q1], by rw [t2, q2], by unfold endV; rw [t3, q3, t4, q4], by rw [t5]; exact HLN.out _ (by omega)⟩ (fun x hx => ?_)
                    rw [t5, HBYT.out ii x hil hx]
                    unfold upd
                    by_cases e : x = an + ii
                    · rw [if_pos (by omega), if_pos e, HVV.out]; rfl
                    · rw [if_neg (by omega), if_neg e, ← q5]; exact HM5.out.2 x hx
                  · obtain rfl : ii = xn := by omega
                    obtain ⟨wm, rfl⟩ : ∃ wm, wm = wr := ⟨_, rfl⟩
                    have HS2 : Hid (sI ii = { s with out := s.out.erase ((an : Int), gc), dat := splice s.dat (an : Int).toNat gd }) := Lib.hid (by
                      obtain ⟨q1, q2, q3, q4, q5⟩ := HSI.out ii
                      have e1 : s1.out = s.out.erase ((an : Int), gc) := by rw [HS1E.out]
                      have e2 := HER.out
                      rcases hs : sI ii with ⟨d, o, f, e, n⟩
                      rw [hs] at q1 q2 q3 q4 q5
                      simp only at q1 q2 q3 q4 q5
                      rw [q1, q2, q3, q4, q5, e1, e2.2.1, e2.2.2.1, e2.2.2.2.1, e2.2.2.2.2.1, List.take_of_length_le (by rw [HGDL.out]; exact Nat.le_refl _)]
                      rfl)
                    obtain ⟨s2, hs2⟩ : ∃ s2, s2 = sI ii := ⟨_, rfl⟩
                    rw [← hs2] at HS2 HDI
                    have HL2 : Hid (s2.out.length = j - 1) := Lib.hid (by rw [hs2, (HSI.out ii).1]; exact HER.out.2.2.2.2.2)
                    obtain ⟨s3, hs3⟩ : ∃ s3, s3 = gotT ⟨an, gc, gd⟩ s := ⟨_, rfl⟩
                    have HK3 : Hid (FsOk s3) := Lib.hid (by rw [hs3]; exact HKK.out.got ⟨an, gc, gd⟩ HMEM.out (by simp only; rw [HGDL.out]; have := HBIG.out; omega))
                    have HG3 : Hid (s3 = if gd.length = 0 then stopT an s2 else if (gd.length : Int) < gc then askT (an + gd.length, gc - gd.length) s2 else s2) := Lib.hid (by
                      rw [hs3, HS2.out]; rfl)
                    have HR3 : Hid (r = nextT (j - 1) s3) := Lib.hid (by
                      rw [HR.out, hs3]
                      unfold takeG
                      rw [if_pos HMEM.out, if_neg (by simp only; rw [HGDL.out]; have := HBIG.out; omega), HNO.out])
                    rw [HGDL.out] at HG3
                    have hqz6 : w6.heap.size ≤ qz := by have := HQQ.out.1; have := HON9.out.size; have := HBX6.out.size; omega
                    have HO6M : Hid (Only (fun q => B ≤ q ∧ ¬ TTn B (.slice A (k + 1) c') ts q) w6 wm) := Lib.hid (by
                      have o1 : Only (fun q => B ≤ q ∧ ¬ TTn B (.slice A (k + 1) c') ts q) w6 w9 := (only_new HBX6.out).trans HON9.out (fun q hq => .inl ⟨hq.1, fun g => hq.2 ((HT2.out q).2 (.inl g))⟩)
                      have o2 := o1.new HB10.out
                      exact o2.trans HOI.out (fun q hq => .inl (by
                        rw [hq]
                        exact ⟨by omega, HDM6.out.notT 1 (by omega)⟩)))
                    have hend : ∀ (wf : World) (A1 : Option Addr) (m1 c1 : Nat), DM wf (fun q => TTn B (.slice A (k + 1) c') ts q ∨ TS A1 q) B (100 * k + ii) s3 → OwnL wtS 33 wf w6.heap.size A1 m1 c1 (s3.out.drop (j - 1)) → Only (fun q => B ≤ q ∧ ¬ TTn B (.slice A (k + 1) c') ts q) w6 wf → j - 1 ≤ s3.out.length →
                        Calls Try.prog 15 #[.agg #[.int .i64 0, .slice A1 m1 c1, .bool false, .slice none 0 0], .pointer (some ⟨B, 0, none⟩), .pointer (some ⟨B + 3, 0, none⟩), .pointer (some ⟨B + 4, 0, none⟩), .pointer (some ⟨B + 2, 0, none⟩)] wf (RetD wf w6.heap.size (TTn B (.slice A (k + 1) c') ts) B (100 * k + ii) r) := fun wf A1 m1 c1 h1 h2 h3 h4 => by
                      rw [HR3.out]
                      exact on_any wf w6.heap.size (j - 1) _ B (100 * k + ii) s3 A1 m1 c1 h1 HK3.out (fun q hq => Nat.lt_of_lt_of_le (HT6.out q hq) h3.size) h2 (fun q hq hT => by have := HT6.out q hT; have := (h2.lt q (own_ts.2 hq)).1; omega) (by omega) h3.size h4
                    have HEND := Lib.hid hend
                    clear hend hs2 hs3
                    rcases Nat.eq_zero_or_pos ii with hi0 | hi0
                    · have hie : ((ii : Int) = 0) := by omega
                      go_upto_region 31 with fail
                      obtain ⟨A5, c5, M5, ⟨-, -, -, k4⟩, ⟨-, -, f4⟩, -, -, -⟩ := HDI.out.cells
                      have hB4 : B + 4 < wm.heap.size := hB5
                      obtain ⟨ev, hev⟩ : ∃ ev, ev = endV s2 := ⟨_, rfl⟩
                      rw [← hev] at k4
                      go_upto_region 36 with fail
                      obtain ⟨wf, hwf⟩ : ∃ wf, wf = wm.setCell ⟨B + 4, 0, none⟩ (.int .i64 (if (an : Int) < endV s2 then (an : Int) else endV s2)) := ⟨_, rfl⟩
                      have hs3 : s3 = stopT an s2 := by rw [HG3.out, if_pos hi0]
                      have hso : s3.out = s2.out ∧ s3.dat = s2.dat ∧ s3.front = s2.front ∧ endV s3 = if (an : Int) < endV s2 then (an : Int) else endV s2 := by
                        rw [hs3]; exact stop_endV s2 an (by omega)
                      have HDF : Hid (DM wf (fun q => TTn B (.slice A (k + 1) c') ts q ∨ TS none q) B (100 * k + ii) s3) := Lib.hid (by
                        rw [hwf]
                        exact (HDI.out.fin (s' := s3) _ ⟨hso.2.1, hso.1, hso.2.2.2, hso.2.2.1⟩).less (fun q hq => by
                          rcases hq with hq | ⟨a, h, -⟩
                          · exact (HT3.out q).2 (.inl ((HT2.out q).2 (.inl hq)))
                          · cases h))
                      have HOF : Hid (OwnL wtS 33 wf w6.heap.size none 0 0 (s3.out.drop (j - 1))) := Lib.hid (by
                        have : s3.out.drop (j - 1) = [] := List.eq_nil_of_length_eq_zero (by rw [hso.1, List.length_drop, HL2.out]; omega)
                        rw [this]; exact OwnL.nil _ _)
                      have HO6F : Hid (Only (fun q => B ≤ q ∧ ¬ TTn B (.slice A (k + 1) c') ts q) w6 wf) := Lib.hid (by rw [hwf]; exact HO6M.out.setCell (.inl ⟨by omega, HDM6.out.notT 4 (by omega)⟩) _)
                      have HKF : Hid (j - 1 ≤ s3.out.length) := Lib.hid (by rw [hso.1, HL2.out]; exact Nat.le_refl _)
                      have HXF : Hid (Bx 30 wf qz #[.int .i64 0, .slice none 0 0, .bool false, .slice none 0 0]) := Lib.hid (by rw [hwf]; exact HXZI.out.other (by have h1 := HQQ.out.1; have h2 := HD9.out.lt; omega) _)
                      subst hev
                      rw [← hwf]
                      clear hwf hso hs3 p0 p1 p2 pl k2 k4 f4 hB4 hBL hB60 hB52 hB5
                      have HC := Lib.hid (HEND.out wf none 0 0 HDF.out HOF.out HO6F.out HKF.out)
                      obtain ⟨r0', r1', r2', r3', r4', g1', g2', g3', g4'⟩ := HXF.out.cells4
                      have hBF : B + 4 < wf.heap.size := HDF.out.lt
                      clear HXF
                      go_wp2_with (first
                        | (go_at_call 15; (with_reducible refine HC.out.mono ?_); rintro e w7 ⟨S7, m7, sc7, A7, n7, c7, rfl, h1, h2, h3', h4, h5, h6⟩; have F1 := Lib.hid h1; have F2 := Lib.hid h2; have F3 := Lib.hid h3'; have F4 := Lib.hid h4; have F5 := Lib.hid h5; have F6 := Lib.hid h6; have F66 := Lib.hid (HO6F.out.trans h6 (fun q hq => .inl hq)); clear h1 h2 h3' h4 h5 h6 r0' r1' r2' r3' r4' g1' g2' g3' g4')
                        | (at_builtin; refine wpList_appL (F := neS) rfl _ (.tmp 136) (.tmp 140) 23 rfl _ 64 Try.underlying23 neInfo rfl (B + 5) A (k + 1) c' ts rfl ((HOW6.out.only F66.out (fun q hq hB => hB.2 (.inr (.inl hq)))).below (ba1 _ _)) (some ⟨w7.heap.size, 0, none⟩) 1 1 [⟨r.1, S7, m7, sc7, A7, n7, c7⟩] rfl (ls_new w7 _ _ _ rfl _ rfl) rfl (k + 1 + 1) rfl (by omega) (by omega) (by have := F6.out.size; simp; omega) ?_; intro A10 c10 w10 ho8 hb8 hs8; have O10 := Lib.hid ho8; have B10 := Lib.hid hb8; have S10 := Lib.hid hs8; clear ho8 hb8 hs8))
                      exact ⟨HCLOSE.out w7 w10 S7 m7 sc7 A7 n7 c7 (100 * k + ii) A10 c10 _ F1.out F2.out F3.out F4.out F5.out (by omega) F66.out O10.out B10.out S10.out, by simp [intOf]; omega⟩
                    · have hie : ¬ ((ii : Int) = 0) := by omega
                      by_cases hig : (ii : Int) < gc
                      · have hs3 : s3 = askT ((an : Int) + ii, gc - ii) s2 := by rw [HG3.out, if_neg (by omega), if_pos hig]
                        have hw1 : IntKind.i64.wrap ((an : Int) + (ii : Int)) = (an : Int) + (ii : Int) := by rw [IntKind.wrap_i64]; omega
                        have hw2 : IntKind.i64.wrap (gc - (ii : Int)) = gc - (ii : Int) := by rw [IntKind.wrap_i64]; omega
                        go_upto_region 34 with fail
                        obtain ⟨b1, hb1⟩ : ∃ b, b = (an : Int) + (ii : Int) := ⟨_, rfl⟩
                        obtain ⟨b2, hb2⟩ : ∃ b, b = gc - (ii : Int) := ⟨_, rfl⟩
                        rw [← hb1, ← hb2] at hs3
                        rw [← hb1, ← hb2]
                        clear hw1 hw2 hb1 hb2
                        obtain ⟨qw, hqw⟩ : ∃ q, q = wm.heap.size := ⟨_, rfl⟩
                        obtain ⟨wb, hwb⟩ : ∃ wb, wb = wm.alloc (.cells #[.int .i64 b1, .int .i64 b2] 33) := ⟨_, rfl⟩
                        have HBb : Hid (Below wm.heap.size wm wb) := Lib.hid (by rw [hwb]; exact ba1 _ _)
                        have HXw : Hid (Bx 33 wb qw #[.int .i64 b1, .int .i64 b2]) := Lib.hid (by rw [hwb, hqw]; exact bx_new _ _ _)
                        obtain ⟨T4, hT4⟩ : ∃ T4 : Nat → Prop, T4 = fun q => T3 q ∨ q = qw := ⟨_, rfl⟩
                        have HT4 : Hid (∀ q, T4 q ↔ (T3 q ∨ q = qw)) := Lib.hid (fun q => by rw [hT4])
                        have hdb : DM wb T4 B (100 * k + ii) s2 := HDI.out.only (S := fun _ => False) (only_new HBb.out) (fun _ h => h.elim) (fun q hq => by
                          rcases (HT4.out q).1 hq with hq | hq
                          · exact .inl hq
                          · exact .inr (by rw [hq, hqw]; exact Nat.le_refl _))
                        have HTL4 : Hid (∀ q, T4 q → q < wb.heap.size) := Lib.hid (fun q hq => by
                          have z1 := HBb.out.size
                          have z2 := HO6M.out.size
                          have z3 := HXZI.out.lt
                          have z4 := HXw.out.lt
                          rcases (HT4.out q).1 hq with hq | hq
                          · rcases (HT3.out q).1 hq with hq | hq
                            · rcases (HT2.out q).1 hq with hq | hq
                              · have := HT6.out q hq; omega
                              · rw [hq]; omega
                            · rw [hq]; omega
                          · rw [hq]; exact z4)
                        rw [← hwb, ← hqw]
                        have HQW : Hid (qw = wm.heap.size) := Lib.hid hqw
                        clear hT4 hwb hqw p0 p1 p2 pl k2 hB52 hB60
                        obtain ⟨Ao, co, M6, ⟨l0, -, -, -⟩, ⟨g0, -, -⟩, -, hOb, -⟩ := hdb.cells
                        have hBb : B + 4 < wb.heap.size := hdb.lt
                        obtain ⟨no, hno⟩ : ∃ no, no = s2.out.length := ⟨_, rfl⟩
                        have hno6 : no ≤ 6 := by rw [hno, HL2.out]; omega
                        rw [← hno] at l0 hOb
                        have HNO2 := Lib.hid hno
                        have HDb := Lib.hid hdb
                        have HOb := Lib.hid hOb
                        have lw0 := HXw.out.cell 0 _ rfl
                        have lw1 := HXw.out.cell 1 _ rfl
                        have lw := HXw.out.lt
                        have hsz := (ba1 wb (.cells #[Value.int IntKind.i64 b1, Value.int IntKind.i64 b2] 33)).size
                        clear hdb hOb hno
                        go_upto_region 35 with (at_builtin; refine wpList_appL (F := wtS) rfl _ (.tmp 126) (.tmp 128) 27 rfl _ 16 Try.underlying27 wtInfo rfl (B + 5) Ao no co s2.out rfl (HOb.out.below (ba1 _ _)) (some ⟨wb.heap.size, 0, none⟩) 1 1 [(b1, b2)] rfl (ls_new wb _ _ _ rfl _ rfl) rfl (no + 1) rfl (by omega) (by omega) (by simp; omega) ?_; intro A4 g4 w4 ho4 hb4 hs4; have O4 := Lib.hid ho4; have HB4 := Lib.hid hb4; have HS4 := Lib.hid hs4; have hbA := ((ba1 wb _).mono (Nat.succ_le_of_lt hBb)).trans hb4; have f04 : w4.frozen? ⟨B, 0, none⟩ = false := (by rw [← g0]; simp [World.frozen?, hbA.block B (by omega)]); have c04 := (hbA.cell (p := ⟨B, 0, none⟩) (by show B < _; omega)).trans l0; clear hbA; clear ho4 hb4 hs4)
                        obtain ⟨w5, hw5⟩ : ∃ w5, w5 = w4.setCell ⟨B, 0, none⟩ (.slice A4 (no + 1) g4) := ⟨_, rfl⟩
                        have hrow : DM w5 T4 B (100 * k + ii) s3 ∧ Only (fun q => B ≤ q ∧ ¬ T4 q) wb w5 := by
                          have hon : Only (fun q => (Value.slice Ao s2.out.length co).ownBlock = some q) wb w4 := by
                            rw [← HNO2.out]
                            exact (only_new (ba1 wb _)).trans (HS4.out.only HB4.out) (fun q hq => .inl hq)
                          rw [hw5, hs3]
                          exact HDb.out.row (s' := askT (b1, b2) s2) Ao co (by rw [← HNO2.out]; exact l0) A4 (no + 1) g4 ⟨rfl, rfl, rfl⟩ (by simp [askT, HNO2.out]) hon O4.out (fun q hq => by
                            rcases HS4.out.own q hq with g | g
                            · rw [← HNO2.out]; exact .inl g
                            · exact .inr (Nat.le_trans hsz g)) HTL4.out
                        obtain ⟨hd5, hon5⟩ := hrow
                        have HD5 := Lib.hid hd5
                        have HON5 := Lib.hid hon5
                        have HXZ5 := Lib.hid ((HXZI.out.below HBb.out).only hon5 (fun g => g.2 ((HT4.out qz).2 (.inl ((HT3.out qz).2 (.inr rfl))))))
                        have HXw5 := Lib.hid (HXw.out.only hon5 (fun g => g.2 ((HT4.out qw).2 (.inr rfl))))
                        have HO65 : Hid (Only (fun q => B ≤ q ∧ ¬ TTn B (.slice A (k + 1) c') ts q) w6 w5) := Lib.hid ((HO6M.out.new HBb.out).trans hon5 (fun q hq => .inl ⟨hq.1, fun g => hq.2 ((HT4.out q).2 (.inl ((HT3.out q).2 (.inl ((HT2.out q).2 (.inl g))))))⟩))
                        have p1 := HXZ5.out.cell 1 _ rfl
                        have pl := HXZ5.out.lt
                        have pw0 := HXw5.out.cell 0 _ rfl
                        have pw1 := HXw5.out.cell 1 _ rfl
                        have pwl := HXw5.out.lt
                        have hb65 : w6.heap.size ≤ w5.heap.size := HO65.out.size
                        have hsz5 := (ba1 w5 (.cells #[Value.int IntKind.i64 b1, Value.int IntKind.i64 b2] 33)).size
                        have HDRO : Hid (s3.out.drop (j - 1) = [(b1, b2)] ∧ s3.out.length = j - 1 + 1) := Lib.hid (by
                          rw [hs3]
                          have := HL2.out
                          constructor
                          · show (s2.out ++ [(b1, b2)]).drop (j - 1) = _
                            rw [← this]; simp
                          · show (s2.out ++ [(b1, b2)]).length = _
                            simp [this])
                        rw [← hw5]
                        clear hw5 hs3 hd5 hon5 c04 f04 l0 g0 lw0 lw1 lw hsz hBb
                        go_upto_region 36 with (at_builtin; refine wpList_appL (F := wtS) rfl _ (.tmp 131) (.tmp 133) 27 rfl _ 16 Try.underlying27 wtInfo rfl w5.heap.size none 0 0 [] rfl (OwnL.nil _ _) (some ⟨w5.heap.size, 0, none⟩) 1 1 [(b1, b2)] rfl (ls_new w5 _ _ _ rfl _ rfl) rfl 1 rfl (by omega) (by omega) (by simp) ?_; intro A1 c1 w11 ho11 hb11 hs11; rw [List.nil_append] at ho11; have O11 := Lib.hid ho11; have HB11 : Hid (Below w5.heap.size w5 w11) := Lib.hid ((ba1 w5 _).trans hb11); have hx11 := HXZ5.out.below HB11.out; have f11 := hx11.soft 1; have c11 := hx11.cell 1 _ rfl; have HX11 := Lib.hid hx11; clear ho11 hb11 hs11 hx11)
                        obtain ⟨wf, hwf⟩ : ∃ wf, wf = w11.setCell ⟨qz, 1, none⟩ (.slice A1 1 c1) := ⟨_, rfl⟩
                        have HXF : Hid (Bx 30 wf qz #[.int .i64 0, .slice A1 1 c1, .bool false, .slice none 0 0]) := Lib.hid (by rw [hwf]; exact HX11.out.set 1 _)
                        have HO5F : Hid (Only (fun q => q = qz) w5 wf) := Lib.hid (by rw [hwf]; exact Only.setCell (S := fun q => q = qz) (only_new HB11.out) (.inl rfl) _)
                        have HDF : Hid (DM wf (fun q => TTn B (.slice A (k + 1) c') ts q ∨ TS A1 q) B (100 * k + ii) s3) := Lib.hid (HD5.out.only HO5F.out (fun q hq => .inl ((HT4.out q).2 (.inl ((HT3.out q).2 (.inr hq))))) (fun q hq => by
                          rcases hq with hq | hq
                          · exact .inl ((HT4.out q).2 (.inl ((HT3.out q).2 (.inl ((HT2.out q).2 (.inl hq))))))
                          · exact .inr (O11.out.lt q (own_ts.2 hq)).1))
                        have HOF : Hid (OwnL wtS 33 wf w6.heap.size A1 1 c1 (s3.out.drop (j - 1))) := Lib.hid (by
                          rw [HDRO.out.1, hwf]
                          exact (O11.out.set (Off.under (fun q hq => (O11.out.lt q hq).1) pl) _ _).base hb65)
                        have HO6F : Hid (Only (fun q => B ≤ q ∧ ¬ TTn B (.slice A (k + 1) c') ts q) w6 wf) := Lib.hid (HO65.out.trans HO5F.out (fun q hq => .inr (by rw [hq]; exact hqz6)))
                        have HKF : Hid (j - 1 ≤ s3.out.length) := Lib.hid (by rw [HDRO.out.2]; omega)
                        rw [← hwf]
                        clear hwf f11 c11 p1 pl pw0 pw1 pwl hBL hB5
                        have HC := Lib.hid (HEND.out wf A1 1 c1 HDF.out HOF.out HO6F.out HKF.out)
                        obtain ⟨r0', r1', r2', r3', r4', g1', g2', g3', g4'⟩ := HXF.out.cells4
                        have hBF : B + 4 < wf.heap.size := HDF.out.lt
                        clear HXF
                        go_wp2_with (first
                          | (go_at_call 15; (with_reducible refine HC.out.mono ?_); rintro e w7 ⟨S7, m7, sc7, A7, n7, c7, rfl, h1, h2, h3', h4, h5, h6⟩; have F1 := Lib.hid h1; have F2 := Lib.hid h2; have F3 := Lib.hid h3'; have F4 := Lib.hid h4; have F5 := Lib.hid h5; have F6 := Lib.hid h6; have F66 := Lib.hid (HO6F.out.trans h6 (fun q hq => .inl hq)); clear h1 h2 h3' h4 h5 h6 r0' r1' r2' r3' r4' g1' g2' g3' g4')
                          | (at_builtin; refine wpList_appL (F := neS) rfl _ (.tmp 136) (.tmp 140) 23 rfl _ 64 Try.underlying23 neInfo rfl (B + 5) A (k + 1) c' ts rfl ((HOW6.out.only F66.out (fun q hq hB => hB.2 (.inr (.inl hq)))).below (ba1 _ _)) (some ⟨w7.heap.size, 0, none⟩) 1 1 [⟨r.1, S7, m7, sc7, A7, n7, c7⟩] rfl (ls_new w7 _ _ _ rfl _ rfl) rfl (k + 1 + 1) rfl (by omega) (by omega) (by have := F6.out.size; simp; omega) ?_; intro A10 c10 w10 ho8 hb8 hs8; have O10 := Lib.hid ho8; have B10 := Lib.hid hb8; have S10 := Lib.hid hs8; clear ho8 hb8 hs8))
                        exact ⟨HCLOSE.out w7 w10 S7 m7 sc7 A7 n7 c7 (100 * k + ii) A10 c10 _ F1.out F2.out F3.out F4.out F5.out (by omega) F66.out O10.out B10.out S10.out, by simp [intOf]; omega⟩
                      · have hs3 : s3 = s2 := by rw [HG3.out, if_neg (by omega), if_neg hig]
                        subst hs3
                        go_upto_region 36 with fail
                        have HDF : Hid (DM wm (fun q => TTn B (.slice A (k + 1) c') ts q ∨ TS none q) B (100 * k + ii) s3) := Lib.hid (HDI.out.less (fun q hq => by
                            rcases hq with hq | ⟨a, h, -⟩
                            · exact (HT3.out q).2 (.inl ((HT2.out q).2 (.inl hq)))
                            · cases h))
                        have HOF : Hid (OwnL wtS 33 wm w6.heap.size none 0 0 (s3.out.drop (j - 1))) := Lib.hid (by
                          have : s3.out.drop (j - 1) = [] := List.eq_nil_of_length_eq_zero (by rw [List.length_drop, HL2.out]; omega)
                          rw [this]; exact OwnL.nil _ _)
                        have HO6F := HO6M
                        have HKF : Hid (j - 1 ≤ s3.out.length) := Lib.hid (by rw [HL2.out]; exact Nat.le_refl _)
                        have HXF := HXZI
                        clear p0 p1 p2 pl k2 hBL hB60 hB52 hB5
                        have HC := Lib.hid (HEND.out wm none 0 0 HDF.out HOF.out HO6F.out HKF.out)
                        obtain ⟨r0', r1', r2', r3', r4', g1', g2', g3', g4'⟩ := HXF.out.cells4
                        have hBF : B + 4 < wm.heap.size := HDF.out.lt
                        clear HXF
                        go_wp2_with (first
                          | (go_at_call 15; (with_reducible refine HC.out.mono ?_); rintro e w7 ⟨S7, m7, sc7, A7, n7, c7, rfl, h1, h2, h3', h4, h5, h6⟩; have F1 := Lib.hid h1; have F2 := Lib.hid h2; have F3 := Lib.hid h3'; have F4 := Lib.hid h4; have F5 := Lib.hid h5; have F6 := Lib.hid h6; have F66 := Lib.hid (HO6F.out.trans h6 (fun q hq => .inl hq)); clear h1 h2 h3' h4 h5 h6 r0' r1' r2' r3' r4' g1' g2' g3' g4')
                          | (at_builtin; refine wpList_appL (F := neS) rfl _ (.tmp 136) (.tmp 140) 23 rfl _ 64 Try.underlying23 neInfo rfl (B + 5) A (k + 1) c' ts rfl ((HOW6.out.only F66.out (fun q hq hB => hB.2 (.inr (.inl hq)))).below (ba1 _ _)) (some ⟨w7.heap.size, 0, none⟩) 1 1 [⟨r.1, S7, m7, sc7, A7, n7, c7⟩] rfl (ls_new w7 _ _ _ rfl _ rfl) rfl (k + 1 + 1) rfl (by omega) (by omega) (by have := F6.out.size; simp; omega) ?_; intro A10 c10 w10 ho8 hb8 hs8; have O10 := Lib.hid ho8; have B10 := Lib.hid hb8; have S10 := Lib.hid hs8; clear ho8 hb8 hs8))
                        exact ⟨HCLOSE.out w7 w10 S7 m7 sc7 A7 n7 c7 (100 * k + ii) A10 c10 _ F1.out F2.out F3.out F4.out F5.out (by omega) F66.out O10.out B10.out S10.out, by simp [intOf]; omega⟩
    · obtain rfl : k = n := by omega
      have hki : ¬ (k : Int) < (k : Int) := by omega
      have hall : (l.map Gv.g).take k = l.map Gv.g := List.take_of_length_le (by rw [List.length_map, HN.out]; exact Nat.le_refl _)
      rw [hall] at HTS
      go_wp2_with fail
      go_ret2
      exact ⟨A, c', ts, by rw [HRL.out]; rfl, by rw [HRL.out]; exact HOW.out.base (by have := HBB.out; omega), by rw [HTS.out, HRT.out], HEI.out.only (Only.refl (fun _ => False) _) (fun _ h => h.elim) (fun _ h => h.elim), HBW.out⟩

end Go.Proofs.Ytjlnjeigoncfoaa
