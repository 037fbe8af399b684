/-
  Answered.
-/
import Derived.Test.YtelfnlocgknpjaaMRepFm
namespace Go.Proofs.Ytelfnlocgknpjaa
open Go.RowKit
set_option linter.unusedVariables false
set_option linter.unusedSimpArgs false

/-- what bytes of a reply are: the fields, and what stands behind -/
structure Rp where
  (mrk code han kd sz : Int) (zs : List Int) (ns : List Byt)
def cnt7 (vs : List PC) : Nat := match (vs[6]? : Option PC) with | some (.n v) => v.toNat | _ => 0
def repT (zs : List Int) : Option (List PC × List PC × List Int) :=
  match takeT (rp7 0 0 0) zs with
  | none => none
  | some (vs, ys) => match takeT (nmP 0 0 (cnt7 vs)) ys with
    | none => none
    | some (us, z) => some (vs, us, z)
theorem rp7_take (B C K : Nat) (zs : List Int) : takeT (rp7 B C K) zs = takeT (rp7 0 0 0) zs := by
  unfold rp7 rpParts
  simp only [List.cons_append, List.nil_append, takeT, Pt.tk]
theorem takeT_txt : ∀ (ps qs : List Pt) (zs : List Int), ps.length = qs.length → (∀ p ∈ ps, ∃ a, p = .txt a) → (∀ p ∈ qs, ∃ a, p = .txt a) → takeT ps zs = takeT qs zs
  | [], [], _, _, _, _ => rfl
  | p :: ps, q :: qs, zs, hl, hp, hq => by
    obtain ⟨a, rfl⟩ := hp p (List.mem_cons_self ..)
    obtain ⟨b, rfl⟩ := hq q (List.mem_cons_self ..)
    rw [takeT, takeT]
    have e : (Pt.txt a).tk zs = (Pt.txt b).tk zs := rfl
    rw [e]
    rcases (Pt.txt b).tk zs with _ | ⟨v, ys⟩
    · rfl
    · simp only []
      rw [takeT_txt ps qs ys (by simpa using hl) (fun p h => hp p (List.mem_cons_of_mem _ h)) fun p h => hq p (List.mem_cons_of_mem _ h)]
  | [], q :: qs, _, hl, _, _ => by simp at hl
  | p :: ps, [], _, hl, _, _ => by simp at hl
theorem nmP_txt (b o n : Nat) : ∀ p ∈ nmP b o n, ∃ a, p = .txt a := fun p hp => by
  unfold nmP at hp
  obtain ⟨i, -, rfl⟩ := List.mem_map.1 hp
  exact ⟨_, rfl⟩
theorem nmP_take (b o n : Nat) (zs : List Int) : takeT (nmP b o n) zs = takeT (nmP 0 0 n) zs :=
  takeT_txt _ _ _ (by rw [nmP_len, nmP_len]) (nmP_txt _ _ _) (nmP_txt _ _ _)
theorem fitsL_len : ∀ (ps : List Pt) (vs : List PC), FitsL ps vs → vs.length = ps.length := by
  intro ps
  induction ps with
  | nil => intro vs h; rcases vs with _ | ⟨v, vs⟩
           · rfl
           · exact h.elim
  | cons p ps ih => intro vs h; rcases vs with _ | ⟨v, vs⟩
                    · exact h.elim
                    · simp [ih vs h.2]
/-- the seven that a reply begins with -/
theorem rp7_fits {vs : List PC} (h : FitsL (rp7 0 0 0) vs) : ∃ a b c d e zs f, vs = [.n a, .n b, .n c, .n d, .n e, .d zs, .n f] ∧ (0 ≤ a ∧ a < 4294967296) ∧ (0 ≤ b ∧ b < 256) ∧ (0 ≤ c ∧ c < 4294967296) ∧ (0 ≤ d ∧ d < 256) ∧ (0 ≤ e ∧ e < 4294967296) ∧ zs.length < 65536 ∧ (0 ≤ f ∧ f < 256) := by
  have hl := fitsL_len _ _ h
  unfold rp7 rpParts at h hl
  rcases vs with _ | ⟨v0, _ | ⟨v1, _ | ⟨v2, _ | ⟨v3, _ | ⟨v4, _ | ⟨v5, _ | ⟨v6, _ | ⟨v7, vs⟩⟩⟩⟩⟩⟩⟩⟩ <;> simp at hl
  obtain ⟨h0, h1, h2, h3, h4, h5, h6, -⟩ := h
  rcases v0 with v0 | _ | _ <;> try exact h0.elim
  rcases v1 with v1 | _ | _ <;> try exact h1.elim
  rcases v2 with v2 | _ | _ <;> try exact h2.elim
  rcases v3 with v3 | _ | _ <;> try exact h3.elim
  rcases v4 with v4 | _ | _ <;> try exact h4.elim
  rcases v5 with _ | _ | v5 <;> try exact h5.elim
  rcases v6 with v6 | _ | _ <;> try exact h6.elim
  exact ⟨v0, v1, v2, v3, v4, v5, v6, rfl, h0, h1, h2, h3, h4, h5, h6⟩
def nmsOf (us : List PC) : List Byt := us.map fun u => match u with | .t s => s | _ => []
theorem nm_fits {n : Nat} {us : List PC} (h : FitsL (nmP 0 0 n) us) : us.length = n ∧ us = (nmsOf us).map PC.t := by
  refine ⟨by rw [fitsL_len _ _ h, nmP_len], ?_⟩
  have : ∀ (ps : List Pt) (us : List PC), (∀ p ∈ ps, ∃ a, p = .txt a) → FitsL ps us → us = (nmsOf us).map PC.t := by
    intro ps
    induction ps with
    | nil => intro us _ h; rcases us with _ | ⟨u, us⟩
             · rfl
             · exact h.elim
    | cons p ps ih =>
      intro us hp h
      rcases us with _ | ⟨u, us⟩
      · exact h.elim
      · obtain ⟨a, rfl⟩ := hp p (List.mem_cons_self ..)
        rcases u with _ | s | _ <;> try exact h.1.elim
        have := ih us (fun p h => hp p (List.mem_cons_of_mem _ h)) h.2
        show PC.t s :: us = PC.t s :: (nmsOf us).map PC.t
        rw [← this]
  exact this _ _ (nmP_txt _ _ _) h

/-- what takeReply answers, and what it leaves in the reply's box -/
def RetTR (B : Nat) (w : World) (zs : List Int) (e : Ending) (w' : World) : Prop :=
  Only (fun k => k = B) w w' ∧
  match repT zs with
  | none => e = .returned (.tuple #[.slice none 0 0, .bool false])
  | some (vs, us, ys) => ∃ A n c a b c1 d e1 xs f D m dd Q, e = .returned (.tuple #[.slice A n c, .bool true]) ∧ n = ys.length ∧ vs = [.n a, .n b, .n c1, .n d, .n e1, .d xs, .n f] ∧ (0 ≤ f ∧ f < 256) ∧
      Bx 36 w' B #[.int .i64 a, .int .i64 b, .int .i64 c1, .int .i64 d, .int .i64 e1, .slice D m dd, .slice (some ⟨Q, 0, none⟩) f.toNat f.toNat] ∧ (Ls byS w' D xs ∧ xs.length = m) ∧ Ls stS w' (some ⟨Q, 0, none⟩) (nmsOf us) ∧ us.length = f.toNat

/-- a new row of empty texts -/
def noTx (n : Nat) : Array Value := ((List.range n).map fun _ => Value.string (tx [])).toArray
theorem made_txts (n : Nat) (hn : n ≤ 1000) (w : World) : (Instr.makeSlice 34 (.int .i64 (n : Int)) (.int .i64 (n : Int))).run Try.prog w = .ok (.slice (some ⟨w.heap.size, 0, none⟩) n n) (w.alloc (.cells (noTx n) 9)) := by
  obtain ⟨i, hi, hz0, hz1, hz2⟩ := info_parts stInfo
  have hb : i.bytes = 16 := hz2
  have hs : i.size = 1 := hz1
  have h := run_make (P := Try.prog) w 34 9 i (.string { data := #[] }) Try.underlying34 hi hz0 .i64 .i64 n n (by omega) (Int.le_refl _) (by rw [hb]; omega) (by omega)
  rw [hs, Nat.mul_one, Int.toNat_natCast] at h
  have e : madeCells (Value.string { data := #[] }).cells n = noTx n := by
    unfold madeCells noTx
    apply Array.ext
    · simp
    · intro j h1 h2
      simp [Value.cells]
      rw [Nat.mod_one]
      rfl
  rw [e] at h
  exact h
/-- what the second take comes to -/
def RetTN (Q B : Nat) (w : World) (r : Option (List PC × List Int)) (e : Ending) (w' : World) : Prop :=
  Only (fun k => k = Q) w w' ∧
  match r with
  | none => e = .returned (.tuple #[.slice none 0 0, .bool false])
  | some (us, ys) => ∃ A n c, e = .returned (.tuple #[.slice A n c, .bool true]) ∧ n = ys.length ∧ Ls stS w' (some ⟨Q, 0, none⟩) (nmsOf us) ∧ us.length = B
theorem nm_vals {Q n : Nat} {w : World} {σ : Nat → PV} {us : List PC} (hI : NmI Q n w σ) (hl : us.length = n) (hv : ∀ j v, us[j]? = some v → (σ j).pure = v) : Ls stS w (some ⟨Q, 0, none⟩) (nmsOf us) ∧ us.length = n := by
  refine ⟨nmI_ls hI (by unfold nmsOf; rw [List.length_map, hl]) fun i hi => ?_, hl⟩
  obtain ⟨f, -, hs⟩ := hI
  have h1 := hv i us[i] (List.getElem?_eq_getElem (by omega))
  rw [hs i hi] at h1 ⊢
  have h2 : PC.t (f i) = us[i] := h1
  congr 1
  unfold nmsOf
  rw [List.getD_eq_getElem?_getD, List.getElem?_map, List.getElem?_eq_getElem (by omega)]
  show f i = (match us[i] with | .t s => s | _ => [])
  rw [← h2]
theorem took_nm (Q n : Nat) (A : Option Addr) (m c : Nat) (zs : List Int) (w w1 : World) (hn : n ≤ 1000) (hq : Bx 9 w Q (noTx n)) (hb : Below w.heap.size w w1) (P : Option Addr) (d : Nat) (hp : OwnL ptS 74 w1 w.heap.size P n d (nmP Q 0 n)) (hs : Ls byS w A zs) (hl : zs.length = m) (hc : m ≤ c) (hc2 : c ≤ 9223372036854775807) (ho : Oct zs) (hA : ∀ q, A = some q → q.block < Q) :
    Calls Try.prog 34 #[.slice A m c, .slice P n d] w1 (RetTN Q n w1 (takeT (nmP 0 0 n) zs)) := by
  have hI : NmI Q n w1 (fun _ => .t []) := ⟨fun _ => [], hq.below hb, fun _ _ => rfl⟩
  refine (take_any (nm_fm Q n) (fun p hp => by obtain ⟨a, rfl⟩ := nmP_txt _ _ _ p hp; trivial) P n d (nmP_len _ _ _) hn A m c zs w1 _ hI hp.ls (clear_of_own hp.2 (fun x hx => .inl (by have := hq.lt; have hx : x = Q := hx; omega))) (hs.below hb) hl hc hc2 (fun q hq' e => by have := hA q hq'; have e : q.block = Q := e; omega) ho (fun q hq' => by have := hA q hq'; have := hq.lt; have := hb.size; omega) (fun k hk => by have hk : k = Q := hk; have := hq.lt; have := hb.size; omega)).mono ?_
  intro e w' h
  rw [nmP_take] at h
  rcases ht : takeT (nmP 0 0 n) zs with _ | ⟨us, ys⟩
  · rw [ht] at h
    obtain ⟨h1, h2, -⟩ := h
    exact ⟨h2, h1⟩
  · rw [ht] at h
    obtain ⟨A2, n2, c2, σ, rfl, h1, h2, h3, h4, h5, h6, h7, h8, h9, -⟩ := h
    have hv := nm_vals h7 h8 h9
    exact ⟨h6, A2, n2, c2, rfl, h1, hv.1, hv.2⟩
/-- what the first take comes to -/
def RetT7 (B C K : Nat) (A0 : Option Addr) (w : World) (r : Option (List PC × List Int)) (e : Ending) (w' : World) : Prop :=
  Only (fun k => k = B ∨ k = C ∨ k = K) w w' ∧
  match r with
  | none => e = .returned (.tuple #[.slice none 0 0, .bool false])
  | some (vs, ys) => ∃ A n c a b c1 d e1 xs f D m dd, e = .returned (.tuple #[.slice A n c, .bool true]) ∧ n = ys.length ∧ n ≤ c ∧ c ≤ 9223372036854775807 ∧ Ls byS w' A ys ∧ Kin A0 A ∧ vs = [.n a, .n b, .n c1, .n d, .n e1, .d xs, .n f] ∧ (0 ≤ f ∧ f < 256) ∧
      Bx 36 w' B #[.int .i64 a, .int .i64 0, .int .i64 c1, .int .i64 d, .int .i64 e1, .slice D m dd, .slice none 0 0] ∧ Bx 3 w' C #[.int .i64 b] ∧ Bx 3 w' K #[.int .i64 f] ∧ (Ls byS w' D xs ∧ xs.length = m ∧ (xs = [] ∨ Clear (fun k => k = B) D)) ∧ Oct ys
theorem took_rp {B C K : Nat} (fm : Fm (fun k => k = B ∨ k = C ∨ k = K) (rp7 B C K) (RpI B C K)) (hne : B ≠ C ∧ B ≠ K ∧ C ≠ K) (A : Option Addr) (n c : Nat) (zs : List Int) (w1 w3 : World) (hI : RpI B C K w1 (fun j => if j = 5 then .d none 0 0 [] else .n 0)) (hs : Ls byS w1 A zs) (hl : zs.length = n) (hc : n ≤ c) (hc2 : c ≤ 9223372036854775807) (ho : Oct zs) (hA : ∀ q, A = some q → q.block < B)
    (hT : ∀ k, (k = B ∨ k = C ∨ k = K) → k < w1.heap.size) {W : Nat} (hB : B < W) (hCW : W ≤ C ∧ W ≤ K) (hb : Below w1.heap.size w1 w3) (P : Option Addr) (d : Nat) (hp : OwnL ptS 74 w3 w1.heap.size P 7 d (rp7 B C K)) :
    Calls Try.prog 34 #[.slice A n c, .slice P 7 d] w3 (RetT7 B C K A w3 (takeT (rp7 0 0 0) zs)) := by
  refine (take_any fm (fun p hp => by
    obtain ⟨i, hi⟩ := List.getElem?_of_mem hp
    rcases rp7_at hi with ⟨-, rfl⟩ | ⟨-, rfl⟩ | ⟨-, rfl⟩ | ⟨-, rfl⟩ | ⟨-, rfl⟩ | ⟨-, rfl⟩ | ⟨-, rfl⟩
    · show 1 ≤ 4 ∧ 4 ≤ 4; omega
    · show 1 ≤ 1 ∧ 1 ≤ 4; omega
    · show 1 ≤ 4 ∧ 4 ≤ 4; omega
    · show 1 ≤ 1 ∧ 1 ≤ 4; omega
    · show 1 ≤ 4 ∧ 4 ≤ 4; omega
    · trivial
    · show 1 ≤ 1 ∧ 1 ≤ 4; omega) P 7 d rfl (by omega) A n c zs w3 _ (fm.new _ _ _ hI hb) hp.ls (clear_of_own hp.2 (fun x hx => .inl (hT x hx))) (hs.below hb) hl hc hc2 (fun q hq e => by
      have h := hA q hq
      rcases e with e | e | e <;> omega) ho (fun q hq => by have := hA q hq; have := hT B (.inl rfl); have := hb.size; omega) (fun k hk => Nat.lt_of_lt_of_le (hT k hk) hb.size)).mono ?_
  intro e w' h
  rw [rp7_take] at h
  rcases ht : takeT (rp7 0 0 0) zs with _ | ⟨vs, ys⟩
  · rw [ht] at h
    obtain ⟨h1, h2, -⟩ := h
    exact ⟨h2, h1⟩
  · rw [ht] at h
    obtain ⟨A2, n2, c2, σ, rfl, h1, h2, h3, h4, h5, h6, ⟨mrk, code, han, kd, sz, cn, D, m, dd, xs, hb, hc, hk, hz, s0, s1, s2, s3, s4, s5, s6⟩, h8, h9, -⟩ := h
    obtain ⟨g1, g2⟩ := lay_takeT _ _ _ _ ho ht
    obtain ⟨a, b, c1, d1, e1, xs', f, rfl, b0, b1, b2, b3, b4, b5, b6⟩ := rp7_fits g2
    have e0 := h9 0 _ rfl
    have e1' := h9 1 _ rfl
    have e2 := h9 2 _ rfl
    have e3 := h9 3 _ rfl
    have e4 := h9 4 _ rfl
    have e5 := h9 5 _ rfl
    have e6 := h9 6 _ rfl
    rw [s0] at e0; rw [s1] at e1'; rw [s2] at e2; rw [s3] at e3; rw [s4] at e4; rw [s5] at e5; rw [s6] at e6
    simp only [PV.pure, PC.n.injEq, PC.d.injEq] at e0 e1' e2 e3 e4 e5 e6
    subst e0; subst e1'; subst e2; subst e3; subst e4; subst e5; subst e6
    exact ⟨h6, A2, n2, c2, mrk, code, han, kd, sz, xs, cn, D, m, dd, rfl, h1, h2, h3, h4, h5, rfl, b6, hb, hc, hk, ⟨hz.1, hz.2.1, hz.2.2.imp id fun h => h.mono fun k hk => .inl hk⟩, fun z hz => ho z (by rw [← g1]; exact List.mem_append_right _ hz)⟩

theorem ls_top {α : Type} {F : Shape α} {w : World} {D : Option Addr} {l : List α} (h : Ls F w D l) : l = [] ∨ Clear (fun k => w.heap.size ≤ k) D := by
  rcases l with _ | ⟨x, r⟩
  · exact .inl rfl
  · obtain ⟨b, o, rfl, hlt, -⟩ := h.at 0 x rfl
    right
    intro a ha e
    injection ha with ha
    subst ha
    have e : w.heap.size ≤ b := e
    omega
theorem noTx_ls (n : Nat) (w : World) (Q : Nat) (h : Bx 9 w Q (noTx n)) : Ls stS w (some ⟨Q, 0, none⟩) (List.replicate n []) := by
  refine nmI_ls (σ := fun _ => .t []) ⟨fun _ => [], h, fun _ _ => rfl⟩ (by simp) fun i hi => ?_
  rw [List.getD_eq_getElem?_getD, List.getElem?_replicate, if_pos hi]
  rfl

set_option maxRecDepth 100000 in
set_option maxHeartbeats 8000000 in
theorem takeRep_any (B : Nat) (A : Option Addr) (n c : Nat) (zs : List Int) (w : World) (hs : Ls byS w A zs) (hl : zs.length = n) (hc : n ≤ c) (hc2 : c ≤ 9223372036854775807) (ho : Oct zs) (hA : ∀ q, A = some q → q.block < B)
    (hx : Bx 36 w B #[.int .i64 0, .int .i64 0, .int .i64 0, .int .i64 0, .int .i64 0, .slice none 0 0, .slice none 0 0]) :
    Calls Try.prog 41 #[.slice A n c, .pointer (some ⟨B, 0, none⟩)] w (RetTR B w zs) := by
  obtain ⟨w1, hw1⟩ : ∃ w1, w1 = (w.alloc (.cells #[.int .i64 0] 3)).alloc (.cells #[.int .i64 0] 3) := ⟨_, rfl⟩
  obtain ⟨K, hK⟩ : ∃ K, K = w.heap.size + 1 := ⟨_, rfl⟩
  obtain ⟨C, hC⟩ : ∃ C, C = w.heap.size := ⟨_, rfl⟩
  have HB1 : Hid (Below w.heap.size w w1) := Lib.hid (by rw [hw1]; exact ba2 _ _ _)
  have HC1 : Hid (Bx 3 w1 C #[.int .i64 0]) := Lib.hid (by rw [hw1, hC]; exact (bx_new w _ _).below (ba1 _ _))
  have HK1 : Hid (Bx 3 w1 K #[.int .i64 0]) := Lib.hid (by
    have := bx_new (w.alloc (.cells #[.int .i64 0] 3)) 3 #[.int .i64 0]
    rw [World.size_alloc] at this
    rw [hw1, hK]; exact this)
  have HX1 := Lib.hid (hx.below HB1.out)
  have hBw := hx.lt
  have HCW : Hid (w.heap.size ≤ C ∧ w.heap.size ≤ K) := Lib.hid (by omega)
  have hBC : B ≠ C := by omega
  have hBK : B ≠ K := by omega
  have hCK : C ≠ K := by omega
  have HS1 := Lib.hid (hs.below HB1.out)
  have HL := Lib.hid hl
  have HO := Lib.hid ho
  have HA := Lib.hid hA
  have HI1 : Hid (RpI B C K w1 (fun j => if j = 5 then .d none 0 0 [] else .n 0)) := Lib.hid ⟨0, 0, 0, 0, 0, 0, none, 0, 0, [], HX1.out, HC1.out, HK1.out, ⟨Ls.nil _ _, rfl, .inl rfl⟩, rfl, rfl, rfl, rfl, rfl, rfl, rfl⟩
  have HFM := Lib.hid (rp_fm B C K hBC hBK hCK)
  have HNE := Lib.hid (And.intro hBC (And.intro hBK hCK))
  clear hs hl ho hA hx hBC hBK hCK
  go_enter Try.func41, Try.ntmps41
  go_upto_region 2 with fail
  rw [← hw1, ← hK, ← hC]
  clear hw1 hK hC
  have HOF := Lib.hid (ofRep_any B C w1 HX1.out.lt HC1.out.lt)
  have HWC : Hid (∀ k, (k = B ∨ k = C ∨ k = K) → k < w1.heap.size) := Lib.hid (fun k hk => by
    rcases hk with rfl | rfl | rfl
    · exact HX1.out.lt
    · exact HC1.out.lt
    · exact HK1.out.lt)
  have hKl := HK1.out.lt
  have HLOW : Hid (∀ w4, Only (fun k => k = B ∨ k = C ∨ k = K) w1 w4 → Only (fun k => k = B) w w4) := Lib.hid (fun w4 h => (only_new (S := fun k => k = B) HB1.out).trans h (fun k hk => by
    have := HCW.out
    rcases hk with rfl | rfl | rfl
    · exact .inl rfl
    · exact .inr this.1
    · exact .inr this.2))
  rcases htt : takeT (rp7 0 0 0) zs with _ | ⟨vs, ys⟩
  · have HTT := Lib.hid htt
    have HRT : Hid (repT zs = none) := Lib.hid (by unfold repT; rw [htt])
    clear htt
    go_upto_region 3 with (first
      | (go_at_call 38; (with_reducible refine HOF.out.mono ?_); rintro e w2 ⟨hb2, P, rfl, ho2⟩; have HB2 := Lib.hid hb2; have HO2 := Lib.hid ho2; clear hb2 ho2)
      | (at_builtin; refine wpList_appL (F := ptS) rfl _ (.tmp 13) (.tmp 16) 50 rfl _ 16 Try.underlying50 ptInfo rfl w1.heap.size P 6 6 _ rfl (HO2.out.below (ba1 _ _)) (some ⟨w2.heap.size, 0, none⟩) 1 1 ([.num (at_ K 0) 1] : List Pt) rfl (ls_new w2 _ _ _ rfl _ rfl) rfl 7 rfl (by omega) (by omega) (by have := HB2.out.size; simp; omega) ?_; intro P3 d3 w3 ho3 hb3 _; have HO3 : Hid (OwnL ptS 74 w3 w1.heap.size P3 7 d3 (rp7 B C K)) := Lib.hid ho3; have HB3 : Hid (Below w1.heap.size w1 w3) := Lib.hid ((HB2.out.alloc HB2.out.size _).trans hb3); clear ho3 hb3; have HTK := Lib.hid (took_rp HFM.out HNE.out A n c zs w1 w3 HI1.out HS1.out HL.out hc hc2 HO.out HA.out HWC.out hBw HCW.out HB3.out P3 d3 HO3.out); rw [HTT.out] at HTK)
      | (go_at_call 34; (with_reducible refine HTK.out.mono ?_); rintro e w4 ⟨hon, rfl⟩; have HON := Lib.hid hon; clear hon))
    go_wp2_with fail
    go_ret2
    refine ⟨HLOW.out _ ((only_new HB3.out).trans HON.out (fun k hk => .inl hk)), ?_⟩
    rw [HRT.out]
    rfl
  · have HTT := Lib.hid htt
    clear htt
    go_upto_region 3 with (first
      | (go_at_call 38; (with_reducible refine HOF.out.mono ?_); rintro e w2 ⟨hb2, P, rfl, ho2⟩; have HB2 := Lib.hid hb2; have HO2 := Lib.hid ho2; clear hb2 ho2)
      | (at_builtin; refine wpList_appL (F := ptS) rfl _ (.tmp 13) (.tmp 16) 50 rfl _ 16 Try.underlying50 ptInfo rfl w1.heap.size P 6 6 _ rfl (HO2.out.below (ba1 _ _)) (some ⟨w2.heap.size, 0, none⟩) 1 1 ([.num (at_ K 0) 1] : List Pt) rfl (ls_new w2 _ _ _ rfl _ rfl) rfl 7 rfl (by omega) (by omega) (by have := HB2.out.size; simp; omega) ?_; intro P3 d3 w3 ho3 hb3 _; have HO3 : Hid (OwnL ptS 74 w3 w1.heap.size P3 7 d3 (rp7 B C K)) := Lib.hid ho3; have HB3 : Hid (Below w1.heap.size w1 w3) := Lib.hid ((HB2.out.alloc HB2.out.size _).trans hb3); clear ho3 hb3; have HTK := Lib.hid (took_rp HFM.out HNE.out A n c zs w1 w3 HI1.out HS1.out HL.out hc hc2 HO.out HA.out HWC.out hBw HCW.out HB3.out P3 d3 HO3.out); rw [HTT.out] at HTK)
      | (go_at_call 34; (with_reducible refine HTK.out.mono ?_); rintro e w4 ⟨hon, A4, n4, c4, a, b, c1, d, e1, xs, f, D, m, dd, rfl, h1, h2, h3, h4, h5, h6, h7, h8, h9, h10, h11, h12⟩; have HON := Lib.hid hon; have H1 := Lib.hid h1; have H4 := Lib.hid h4; have H5 := Lib.hid h5; have H6 := Lib.hid h6; have H8 := Lib.hid h8; have H9 := Lib.hid h9; have H10 := Lib.hid h10; have H11 := Lib.hid h11; have H12 := Lib.hid h12; clear hon h1 h4 h5 h6 h8 h9 h10 h11 h12))
    have HO4 : Hid (Only (fun k => k = B ∨ k = C ∨ k = K) w1 w4) := Lib.hid ((only_new HB3.out).trans HON.out (fun k hk => .inl hk))
    obtain ⟨cn, hcn⟩ : ∃ cn : Nat, (cn : Int) = f := ⟨f.toNat, by omega⟩
    have HCN : Hid (f.toNat = cn) := Lib.hid (by omega)
    subst hcn
    have hcn2 : cn < 256 := by omega
    have x1 : w4.cell? ⟨B, 1, none⟩ = some (.int .i64 0) := H8.out.cell 1 _ rfl
    have x6 : w4.cell? ⟨B, 6, none⟩ = some (.slice none 0 0) := H8.out.cell 6 _ rfl
    have z1 := H8.out.soft 1
    have z6 := H8.out.soft 6
    have y0 : w4.cell? ⟨C, 0, none⟩ = some (.int .i64 b) := H9.out.cell 0 _ rfl
    have k0 : w4.cell? ⟨K, 0, none⟩ = some (.int .i64 (cn : Int)) := H10.out.cell 0 _ rfl
    have lx := H8.out.lt
    have ly := H9.out.lt
    have lk := H10.out.lt
    clear h7
    go_upto_region 5 with fail
    have m1 : ¬ B = C := HNE.out.1
    have m2 : ¬ B = K := HNE.out.2.1
    have m3 : ¬ C = B := fun h => HNE.out.1 h.symm
    have m4 : ¬ K = B := fun h => HNE.out.2.1 h.symm
    obtain ⟨q0, hq0⟩ : ∃ q0, q0 = noTx cn := ⟨_, rfl⟩
    have hmk := made_txts cn (by omega)
    rw [← hq0] at hmk
    have HQ0 := Lib.hid hq0
    clear hq0
    go_region
    obtain ⟨w5, hw5⟩ : ∃ w5, w5 = (((w4.setCell ⟨B, 1, none⟩ (.int .i64 b)).setCell ⟨B, 6, none⟩ (.slice (some ⟨w4.heap.size, 0, none⟩) cn cn)).alloc (.cells q0 9)).drew := ⟨_, rfl⟩
    obtain ⟨Q, hQ⟩ : ∃ Q, Q = w4.heap.size := ⟨_, rfl⟩
    rw [← hQ] at hw5
    have hon5 : Only (fun k => k = B) w4 w5 := by rw [hw5]; exact ((((Only.refl (fun k => k = B) w4).setCell (.inl rfl) _).setCell (.inl rfl) _).alloc _).drew
    have hx5 : Bx 36 w5 B #[.int .i64 a, .int .i64 b, .int .i64 c1, .int .i64 d, .int .i64 e1, .slice D m dd, .slice (some ⟨Q, 0, none⟩) cn cn] := by
      rw [hw5]
      exact ((((H8.out.set 1 _).set 6 _).below (ba1 _ _)).below (Below.refl _ _).drew)
    have hq5 : Bx 9 w5 Q (noTx cn) := by
      have h := bx_new ((w4.setCell ⟨B, 1, none⟩ (.int .i64 b)).setCell ⟨B, 6, none⟩ (.slice (some ⟨Q, 0, none⟩) cn cn)) 9 q0
      rw [World.size_setCell, World.size_setCell, ← hQ, HQ0.out] at h
      rw [hw5, HQ0.out]
      exact h.below (Below.refl _ _).drew
    have hBQ : B < Q := by rw [hQ]; exact lx
    have HKB : Hid (Clear (fun k => ¬ k < B) A4) := Lib.hid (H5.out _ fun q hq h => h (HA.out q hq))
    have HS5 : Hid (Ls byS w5 A4 ys) := Lib.hid (H4.out.only hon5 (HKB.out.mono fun k hk h => by omega))
    have HD5 : Hid (Ls byS w5 D xs) := Lib.hid (by
      rcases H11.out.2.2 with h | h
      · rw [h]; exact Ls.nil _ _
      · exact H11.out.1.only hon5 h)
    have HDQ : Hid (xs = [] ∨ Clear (fun k => Q ≤ k) D) := Lib.hid (by rw [hQ]; exact ls_top H11.out.1)
    have HX5 := Lib.hid hx5
    have HQ5 := Lib.hid hq5
    have HON5 := Lib.hid hon5
    have lb5 := hx5.lt
    have HQW : Hid (w.heap.size ≤ Q) := Lib.hid (by rw [hQ]; exact Nat.le_trans HB1.out.size HO4.out.size)
    have b6 : w5.cell? ⟨B, 6, none⟩ = some (.slice (some ⟨Q, 0, none⟩) cn cn) := hx5.cell 6 _ rfl
    rw [← hQ, ← hw5]
    clear hw5 hQ hon5 hx5 hq5 x1 x6 z1 z6 y0 k0 lx ly lk hmk m1 m2 m3 m4
    have HON6 := Lib.hid (ofNm_any (some ⟨Q, 0, none⟩) Q 0 cn cn (List.replicate cn []) w5 (noTx_ls cn w5 Q HQ5.out) (by simp) (by omega) (.inl rfl))
    have HAQ : Hid (∀ q, A4 = some q → q.block < Q) := Lib.hid (fun q hq => by
      have := HKB.out q hq
      have h : q.block < B := Classical.not_not.1 this
      omega)
    have HC7 : Hid (cnt7 vs = cn) := Lib.hid (by rw [H6.out]; unfold cnt7; simp)
    have HLOW2 : Hid (∀ w9, Only (fun k => k = Q) w5 w9 → Only (fun k => k = B) w w9) := Lib.hid (fun w9 h => ((HLOW.out _ HO4.out).trans HON5.out (fun k hk => .inl hk)).trans h (fun k hk => .inr (by have hk : k = Q := hk; have := HQW.out; omega)))
    rcases htn : takeT (nmP 0 0 cn) ys with _ | ⟨us, zz⟩
    · have HRT : Hid (repT zs = none) := Lib.hid (by unfold repT; rw [HTT.out]; simp only []; rw [HC7.out, htn])
      have HTN := Lib.hid (fun w6 (hb : Below w5.heap.size w5 w6) P d (hp : OwnL ptS 74 w6 w5.heap.size P cn d (nmP Q 0 cn)) => took_nm Q cn A4 n4 c4 ys w5 w6 (by omega) HQ5.out hb P d hp HS5.out H1.out.symm h2 h3 H12.out HAQ.out)
      rw [htn] at HTN
      clear htn
      go_wp2_with (first
        | (go_at_call 39; (with_reducible refine HON6.out.mono ?_); rintro e w6 ⟨hb6, P6, d6, rfl, ho6⟩; have HB6 := Lib.hid hb6; have HT6 := Lib.hid (HTN.out w6 hb6 P6 d6 ho6); clear hb6 ho6)
        | (go_at_call 34; (with_reducible refine HT6.out.mono ?_); rintro e w7 ⟨hon, rfl⟩; have HON7 := Lib.hid hon; clear hon))
      go_ret2
      refine ⟨HLOW2.out _ ((only_new HB6.out).trans HON7.out (fun k hk => .inl hk)), ?_⟩
      rw [HRT.out]
      rfl
    · have HRT : Hid (repT zs = some (vs, us, zz)) := Lib.hid (by unfold repT; rw [HTT.out]; simp only []; rw [HC7.out, htn])
      have HTN := Lib.hid (fun w6 (hb : Below w5.heap.size w5 w6) P d (hp : OwnL ptS 74 w6 w5.heap.size P cn d (nmP Q 0 cn)) => took_nm Q cn A4 n4 c4 ys w5 w6 (by omega) HQ5.out hb P d hp HS5.out H1.out.symm h2 h3 H12.out HAQ.out)
      rw [htn] at HTN
      clear htn
      go_wp2_with (first
        | (go_at_call 39; (with_reducible refine HON6.out.mono ?_); rintro e w6 ⟨hb6, P6, d6, rfl, ho6⟩; have HB6 := Lib.hid hb6; have HT6 := Lib.hid (HTN.out w6 hb6 P6 d6 ho6); clear hb6 ho6)
        | (go_at_call 34; (with_reducible refine HT6.out.mono ?_); rintro e w7 ⟨hon, A7, n7, c7, rfl, g1, g2, g3⟩; have HON7 := Lib.hid hon; have G1 := Lib.hid g1; have G2 := Lib.hid g2; have G3 := Lib.hid g3; clear hon g1 g2 g3))
      go_ret2
      have hon57 : Only (fun k => k = Q) w5 w7 := (only_new HB6.out).trans HON7.out (fun k hk => .inl hk)
      refine ⟨HLOW2.out _ hon57, ?_⟩
      rw [HRT.out]
      refine ⟨A7, n7, c7, a, b, c1, d, e1, xs, cn, D, m, dd, Q, rfl, G1.out, H6.out, by omega, ?_, ⟨?_, H11.out.2.1⟩, G2.out, by rw [Int.toNat_natCast]; exact G3.out⟩
      · rw [Int.toNat_natCast]
        exact HX5.out.only hon57 (fun h => by have h : B = Q := h; omega)
      · rcases HDQ.out with h | h
        · rw [h]; exact Ls.nil _ _
        · exact HD5.out.only hon57 (h.mono fun k hk => by have hk : k = Q := hk; omega)

end Go.Proofs.Ytelfnlocgknpjaa
