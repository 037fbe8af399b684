/-
  The document's answer to Add: the contract where nothing is refused.
-/
import Derived.Test.YtdfidmdgdajgoaaHoleRefAdd
import Derived.Deep.DeepCutAuto
namespace Go.Proofs.Ytdfidmdgdajgoaa
open Go.RowKit
set_option linter.unusedVariables false
set_option linter.unusedSimpArgs false

theorem PlacesAt.alloc {w : World} {B base : Nat} {A : Option Addr} {n c : Nat} {P : List Int} (h : PlacesAt w B base A n c P) (o : Obj) : PlacesAt (w.alloc o) B base A n c P :=
  ⟨(Below.heap_alloc w o B (lt_of_block h.1)).trans h.1, h.2.below (ba1 w o)⟩
theorem PlacesAt.below {w w' : World} {B base : Nat} {A : Option Addr} {n c : Nat} {P : List Int} (h : PlacesAt w B base A n c P) (hb : Below w.heap.size w w') : PlacesAt w' B base A n c P :=
  ⟨(hb.block B (lt_of_block h.1)).trans h.1, h.2.below hb⟩

/-- What is answered by the document: a place and a list. -/
def RetD (W : World) (D : Int) (N : Nat) (L : List Rg) (e : Ending) (w' : World) : Prop :=
  ∃ A c, e = .returned (.tuple #[.int .i64 D, .slice A N c, .int .i64 0]) ∧ Rs w' A L ∧ Below W.heap.size W w'

/-- the same, or want of room -/
def RetDD (W : World) (D : Int) (N : Nat) (L : List Rg) (e : Ending) (w' : World) : Prop := (N ≤ 16 → RetD W D N L e w') ∧ (16 < N → e = .returned (.tuple #[.int .i64 0, .slice none 0 0, .int .i64 9]) ∧ Below W.heap.size W w')

def AllOf (w1 : World) (L : List Rg) (N : Nat) (t9 : Value) (wc : World) : Prop := ∃ A5 c5, t9 = .slice A5 N c5 ∧ Rs wc A5 L ∧ Below w1.heap.size w1 wc

def stepP (P : List Int) (x : Rg) : List Int := ins x.2 (ins x.1 P)
/-- the loop that puts all bounds -/
def Putting (wB : World) (B : Nat) (d : Int) (all : List Rg) (m : Nat) (t50 : Value) (wr : World) : Prop :=
  ∃ (k : Nat) (A : Option Addr) (n c : Nat) (P : List Int), k ≤ m ∧ t50 = .int .i64 k ∧ PlacesAt wr B (B + 1) A n c P ∧ n ≤ 2 + 2 * k ∧ putAll d all = (all.drop k).foldl stepP P ∧ Below B wB wr ∧ B + 1 ≤ wr.heap.size

theorem rs_same {w w' : World} {A : Option Addr} {l : List Rg} {B : Nat} (h : Rs w A l) (hb : Below B w w') (hA : ∀ a, A = some a → a.block < B) : Rs w' A l := by
  rcases h with h | ⟨b, o, rfl, hlt, hc⟩
  · exact .inl h
  · exact .inr ⟨b, o, rfl, Nat.lt_of_lt_of_le hlt hb.size, fun j u hu => (hb.cell (p := ⟨b, o + j, none⟩) (show b < B from hA ⟨b, o, none⟩ rfl)).trans (hc j u hu)⟩

theorem putAll_good (d : Int) (all : List Rg) : Srt (putAll d all) ∧ (∀ y, y ∈ putAll d all ↔ y = 0 ∨ y = d ∨ ∃ x ∈ all, y = x.1 ∨ y = x.2) := by
  obtain ⟨a, b, _⟩ := putAll_any all (ins d (ins 0 [])) (ins_srt _ _ (ins_srt _ _ trivial))
  refine ⟨a, fun y => ?_⟩
  show y ∈ all.foldl (fun P x => ins x.2 (ins x.1 P)) (ins d (ins 0 [])) ↔ _
  rw [b y, ins_mem, ins_mem]
  constructor
  · rintro ((h | h | h) | h)
    · exact .inr (.inl h)
    · exact .inl h
    · cases h
    · exact .inr (.inr h)
  · rintro (h | h | h)
    · exact .inl (.inr (.inl h))
    · exact .inl (.inl h)
    · exact .inr h
theorem srt_first (P : List Int) (h : Srt P) (h0 : (0 : Int) ∈ P) (hn : ∀ y ∈ P, 0 ≤ y) : P[0]? = some 0 := by
  cases P with
  | nil => cases h0
  | cons z t =>
    rcases List.mem_cons.1 h0 with e | e
    · rw [← e]; rfl
    · have := h.1 0 e; have := hn z (List.mem_cons_self ..); omega
theorem snoc_cases {α : Type} (l : List α) : l = [] ∨ ∃ O y, l = O ++ [y] := by
  rcases List.eq_nil_or_concat l with h | ⟨O, y, h⟩
  · exact .inl h
  · exact .inr ⟨O, y, by rw [h]; simp⟩
theorem rcells_set (O : List Rg) (y : Rg) (q : Int) : (rcells (O ++ [y])).set (O.length * 2 + 1) (.int .i64 q) = rcells (O ++ [(y.1, q)]) := by
  rw [rcells_app, rcells_app, List.set_append_right _ _ (by rw [rcells_len]; omega), rcells_len, show O.length * 2 + 1 - O.length * 2 = 1 by omega]
  rfl

theorem Rs.tail {w : World} {g : Nat} {x : Rg} {t : List Rg} (h : Rs w (some ⟨g, 0, none⟩) (x :: t)) : Rs w (some ⟨g, 2, none⟩) t := by
  rcases h with h | ⟨b, o, e, hlt, hc⟩
  · cases h
  · injection e with e
    injection e with e1 e2
    subst e1; subst e2
    refine .inr ⟨g, 2, rfl, hlt, fun j u hu => ?_⟩
    have := hc (j + 2) u (by simpa [rcells] using hu)
    rw [← this]
    congr 2
    omega
theorem OwnR.cap {w : World} {base : Nat} {A : Option Addr} {n c : Nat} {l : List Rg} (h : OwnR w base A n c l) : n ≤ c := by
  rcases h.2.2 with ⟨hv, h0⟩ | ⟨g, cap, cur, hv, hg, hh, hc, hcm, hcs, ht⟩
  · omega
  · injection hv with hA _ hcc; omega
theorem OwnR.some_ {w : World} {base : Nat} {A : Option Addr} {n c : Nat} {l : List Rg} (h : OwnR w base A n c l) (hn : 0 < n) : ∃ g, A = some ⟨g, 0, none⟩ ∧ base ≤ g ∧ g < w.heap.size := by
  rcases h.2.2 with ⟨hv, h0⟩ | ⟨g, cap, cur, hv, hg, hh, hc, hcm, hcs, ht⟩
  · omega
  · have := h.2.lt g (by rw [hv]; rfl)
    injection hv with hA _ hcc
    exact ⟨g, hA, hg, this.2⟩

/-- the loop that looks at all places -/
def Scanning (wS : World) (P : List Int) (d : Int) (all : List Rg) (np : Nat) (t14 t15 : Value) (wr : World) : Prop :=
  ∃ (i : Nat) (p : Int) (out : List Rg) (Ao : Option Addr) (no co : Nat), i + 1 ≤ np ∧ P[i]? = some p ∧ t15 = .int .i64 i ∧ t14 = .slice Ao no co ∧ OwnR wr wS.heap.size Ao no co out ∧ Scan d all p out ∧ no ≤ i ∧ Below wS.heap.size wS wr

set_option maxRecDepth 100000 in
set_option maxHeartbeats 4000000 in
theorem refAdd_ok (d : Int) (A : Option Addr) (n c : Nat) (l : List Rg) (r : Rg) (w : World) (hb : Rs w A l) (hn : l.length = n) (hm : mayB d l = true) (hr : 0 ≤ r.1 ∧ r.1 ≤ r.2 ∧ r.2 ≤ 1048576)
    (D : Int) (N : Nat) (L : List Rg) (hD : D = addD d l r) (hL : L = addL d l r) (hN : L.length = N) :
    Calls Try.prog 14 #[.int .i64 d, .slice A n c, rv r] (w) (RetDD w D N L) := by
  obtain ⟨g0, g1, g2, g3⟩ := mayB_to hm
  rw [hn] at g2
  obtain ⟨hch, hbd⟩ := okB_ch l d g3
  obtain ⟨all, hall⟩ : ∃ all, all = l ++ [r] := ⟨_, rfl⟩
  have hal : all.length = n + 1 := by rw [hall]; simp [hn]
  have hbounds : ∀ x ∈ all, 0 ≤ x.1 ∧ x.1 ≤ 1048576 ∧ 0 ≤ x.2 ∧ x.2 ≤ 1048576 := by
    intro x hx
    rw [hall] at hx
    rcases List.mem_append.1 hx with hx | hx
    · have := ch_lo l d hch x hx; have := hbd x hx; omega
    · simp at hx; subst hx; omega
  have HB := Lib.hid hb; have HN := Lib.hid hn; have HM := Lib.hid hm; have HR := Lib.hid hr
  have HD := Lib.hid hD; have HL := Lib.hid hL; have HNN := Lib.hid hN; have HAL := Lib.hid hall; have HALN := Lib.hid hal; have HBD := Lib.hid hbounds
  obtain ⟨r1, r2⟩ := r
  simp only at hr
  obtain ⟨q1, q2, q3⟩ := hr
  have q4 : ¬ r2 < r1 := by omega
  clear hb hn hm hD hL hN hall hal hbounds hch hbd g3
  unfold rv
  simp only
  go_enter Try.func14, Try.ntmps14
  go_upto_region 5 with (go_at_call 12; refine (refMay_any d A n c l _ (HB.out.below (ba1 _ _)) HN.out (by omega)).mono ?_; rw [HM.out]; rintro e w1 ⟨rfl, hb1⟩; have hT := (two_new w 25 (r1, r2)).below hb1; have hc0 := hT.c0; have hc1 := hT.c1; have hlw := hT.lt; simp only at hc0 hc1; clear hT)
  have HB1 := Lib.hid ((HB.out.below (ba1 w (.cells #[.int .i64 r1, .int .i64 r2] 25))).below hb1)
  go_cut [9] (fun s9 wc => AllOf w1 all (n + 1) s9 wc)
  case first =>
    go_region_law (first
      | (refine step_appR rfl w1.drew (.const (.slice none 0 0)) (.tmp 37) rfl w1.heap.size none 0 0 [] (by simp [Act.eval]) (OwnR.nil _ _) A n c l (by simp [Act.eval, Act.put]) (HB1.out.below (Below.refl _ _).drew) HN.out n (by omega) (by omega) (by simp) ?_; intro A4 c4 w4 ho4 hb4 hs4; have O4 := Lib.hid ho4; have HB4 : Hid (Below w1.heap.size w1 w4) := Lib.hid ((Below.refl w1.heap.size w1).drew.trans hb4); have hd0 := (hb4.cell (p := ⟨w.heap.size, 0, none⟩) hlw).trans hc0; have hd1 := (hb4.cell (p := ⟨w.heap.size, 1, none⟩) hlw).trans hc1; have hl4 : w.heap.size < w4.heap.size := Nat.lt_of_lt_of_le hlw hb4.size; clear ho4 hb4 hs4)
      | (refine step_appR rfl (w1.alloc (.cells #[.int .i64 r1, .int .i64 r2] 25)).drew (.const (.slice none 0 0)) (.tmp 37) rfl (w1.heap.size + 1) none 0 0 [] (by simp [Act.eval]) (OwnR.nil _ _) A n c l (by simp [Act.eval, Act.put]) (HB1.out.below (ba1 _ _).drew) HN.out n (by omega) (by omega) (by simp) ?_; intro A4 c4 w4 ho4 hb4 hs4; have O4 := Lib.hid ho4; have HB4 : Hid (Below w1.heap.size w1 w4) := Lib.hid ((ba1 w1 (.cells #[.int .i64 r1, .int .i64 r2] 25)).drew.trans (hb4.mono (by omega))); have RS4 := Lib.hid (rs_same (B := w1.heap.size + 1) (w := (w1.alloc (.cells #[.int .i64 r1, .int .i64 r2] 25)).drew) (rs_new w1 25 [(r1, r2)] _ rfl _ rfl) hb4 (fun a ha => by injection ha with ha; rw [← ha]; simp)); have hz4 : w1.heap.size + 1 ≤ w4.heap.size := Nat.le_trans (Nat.le_of_eq (by simp)) hb4.size; clear ho4 hb4 hs4)
      | (refine step_appR rfl (w4.alloc (.cells #[.int .i64 r1, .int .i64 r2] 25)) (.tmp 38) (.tmp 40) rfl w1.heap.size A4 n c4 ([] ++ l) (by simp [Act.eval, Act.put]) (O4.out.below (ba1 _ _)) (some ⟨w4.heap.size, 0, none⟩) 1 1 [(r1, r2)] (by simp [Act.eval, Act.put]) (rs_new _ _ _ _ rfl _ rfl) rfl (n + 1) rfl (by omega) (by have := HB4.out.size; simp; omega) ?_; intro A5 c5 w5 ho5 hb5 hs5; have O5 := Lib.hid ho5; have HB5 : Hid (Below w1.heap.size w1 w5) := Lib.hid ((HB4.out.alloc HB4.out.size _).trans hb5); clear ho5 hb5 hs5)
      | (refine step_appR rfl w4 (.tmp 38) (.tmp 40) rfl (w1.heap.size + 1) A4 n c4 ([] ++ l) (by simp [Act.eval, Act.put]) O4.out (some ⟨w1.heap.size, 0, none⟩) 1 1 [(r1, r2)] (by simp [Act.eval, Act.put]) RS4.out rfl (n + 1) rfl (by omega) hz4 ?_; intro A5 c5 w5 ho5 hb5 hs5; have O5 := Lib.hid ho5; have HB5 : Hid (Below w1.heap.size w1 w5) := Lib.hid (HB4.out.trans (hb5.mono (by omega))); clear ho5 hb5 hs5))
    all_goals
      go_wp2_with fail
      go_meet
      exact ⟨A5, c5, rfl, by rw [HAL.out]; exact O5.out.rs, HB5.out⟩
  case rest =>
    obtain ⟨A5, c5, rfl, hrs5, hb5⟩ := hcut
    have RS5 := Lib.hid hrs5; have HB5 := Lib.hid hb5
    have hT := (((two_new w 25 (r1, r2)).below hb1).below hb5)
    have HT := Lib.hid hT
    have HBC := Lib.hid (bthen (bthen (ba1 w (.cells #[.int .i64 r1, .int .i64 r2] 25)) hb1) hb5)
    clear hrs5 hb5 hT hc0 hc1 hlw hb1
    have hmf : ∀ (fn : Fn) (first cap : Array Value) (w : World), (Instr.makeFunc fn first cap).run Try.prog w = .ok (.func fn first cap) w := fun _ _ _ _ => rfl
    obtain ⟨B, hB⟩ : ∃ B, B = wc.heap.size := ⟨_, rfl⟩
    have hpl0 : PlacesAt (wc.alloc (.cells #[.slice none 0 0] 35)) B (B + 1) none 0 0 [] := ⟨by rw [hB]; exact heap_alloc_new wc _, OwnI.nil _ _⟩
    obtain ⟨wB, hwB⟩ : ∃ wB, wB = wc.alloc (.cells #[.slice none 0 0] 35) := ⟨_, rfl⟩
    have hsB : wB.heap.size = B + 1 := by rw [hwB, hB]; simp
    rw [← hwB] at hpl0
    have PL0 := Lib.hid hpl0; have HWB := Lib.hid hwB; have HSB := Lib.hid hsB; have HBB := Lib.hid hB
    clear hpl0 hwB hsB hB
    go_wp2_with (first
      | (go_at_call 26; rw [← HBB.out, ← HWB.out]; (refine (put_any B (B + 1) 0 none 0 0 [] wB PL0.out (by omega) (by rw [HSB.out]; omega) (by omega) (by omega) (by omega)).mono ?_); rintro e w6 ⟨A6, n6, c6, rfl, hp6, hq6⟩; have PL6 := Lib.hid hp6; have Q6 := Lib.hid hq6; clear hp6 hq6)
      | (go_at_call 26; (refine (put_any B (B + 1) d A6 n6 c6 (ins 0 []) w6 PL6.out (by omega) (by have := Q6.out.below.size; rw [HSB.out] at this; omega) (by omega) (by omega) (by have := PL6.out.2.2.1; have := ins_len 0 []; simp at this; omega)).mono ?_); rintro e w7 ⟨A7, n7, c7, rfl, hp7, hq7⟩; have PL7 := Lib.hid hp7; have Q7 := Lib.hid hq7; clear hp7 hq7))
    have HCB : Hid (Below wc.heap.size wc wB) := Lib.hid (by rw [HWB.out]; exact ba1 _ _)
    go_loopw [50] (fun i wr => Putting wB B d all (n + 1) i wr) (fun i _ => n + 1 - (intOf i).toNat)
    case atStart => exact ⟨0, A7, n7, c7, ins d (ins 0 []), Nat.zero_le _, rfl, PL7.out, by have h1 := PL7.out.2.2.1; have h2 := ins_len d (ins 0 []); have h3 := ins_len 0 []; simp at h3; omega, rfl, Q6.out.below.trans Q7.out.below, by have h1 := Q6.out.below.size; have h2 := Q7.out.below.size; have h3 := HSB.out; omega⟩
    case round =>
      obtain ⟨k, Ap, np, cp, P, hk, rfl, hpl, hnp, hput, hbw, hszw⟩ := hrel
      have PL := Lib.hid hpl; have HPUT := Lib.hid hput; have HBW := Lib.hid hbw
      have PN : Hid (P.length = np) := Lib.hid hpl.2.2.1
      have hRS := RS5.out.below (HCB.out.trans (hbw.mono (Nat.le_of_eq HBB.out.symm)))
      clear hpl hput hbw
      by_cases hlt : k < n + 1
      · obtain ⟨⟨x1, x2⟩, hx, hd⟩ := drop_at all k (by rw [HALN.out]; exact hlt)
        obtain ⟨b, o, hA5, hbs, hc1, hc2⟩ := hRS.at k _ hx
        subst hA5
        obtain ⟨b1, b2, b3, b4⟩ := HBD.out _ (List.mem_of_getElem? hx)
        have HPN : Hid (putAll d all = (all.drop (k + 1)).foldl stepP (ins x2 (ins x1 P))) := Lib.hid (by rw [HPUT.out, hd]; rfl)
        simp only at hc1 hc2 b1 b2 b3 b4
        clear hx hd hRS
        go_wp2_with (first
          | (go_at_call 26; (with_reducible refine (put_any B (B + 1) x1 Ap np cp P _ (PL.out.alloc _) (by omega) (by simp; omega) (by omega) (by omega) (by omega)).mono ?_); rintro e w8 ⟨A8, n8, c8, rfl, hp8, hq8⟩; have hxc : w8.cell? ⟨wr.heap.size, 1, none⟩ = some (.int .i64 x2) := (World.cell?_of_block (w := wr.alloc (.cells #[.int .i64 x1, .int .i64 x2] 25)) (hq8.block wr.heap.size (by simp) (by omega) (fun j hj => by have := (own_block PL.out.2.2.2 j hj).2; omega))).trans (two_new wr 25 (x1, x2)).c1; have PL8 := Lib.hid hp8; have Q8 := Lib.hid hq8; have L8 := Lib.hid hp8.2.2.1; clear hp8 hq8)
          | (go_at_call 26; (with_reducible refine (put_any B (B + 1) x2 A8 n8 c8 (ins x1 P) _ PL8.out (by omega) (by have := Q8.out.below.size; simp at this; omega) (by omega) (by omega) (by have := L8.out; have := ins_len x1 P; have := PN.out; omega)).mono ?_); rintro e w9 ⟨A9, n9, c9, rfl, hp9, hq9⟩; have PL9 := Lib.hid hp9; have Q9 := Lib.hid hq9; have L9 := Lib.hid hp9.2.2.1; clear hp9 hq9))
        go_roundw
        case rel => exact ⟨k + 1, A9, n9, c9, ins x2 (ins x1 P), by omega, by go_num, PL9.out, by have := L9.out; have := ins_len x2 (ins x1 P); have := ins_len x1 P; have := PN.out; omega, HPN.out, ((HBW.out.alloc (by omega) _).trans Q8.out.below).trans Q9.out.below, by have h1 := Q8.out.below.size; have h2 := Q9.out.below.size; simp at h1; omega⟩
        case measure => simp [intOf]; omega
      · have HPF : Hid (P = putAll d all) := Lib.hid (by rw [HPUT.out, List.drop_eq_nil_of_le (by rw [HALN.out]; omega)]; rfl)
        go_wp2_with fail
        obtain ⟨wS, rfl⟩ : ∃ wS, wS = wr := ⟨_, rfl⟩
        obtain ⟨hs1, hs2⟩ := putAll_good d all
        rw [← HPF.out] at hs1 hs2
        have hge : ∀ y ∈ P, 0 ≤ y := by
          intro y hy
          rcases (hs2 y).1 hy with h | h | ⟨x, hx, h⟩
          · omega
          · omega
          · obtain ⟨b1, _, b3, _⟩ := HBD.out x hx
            rcases h with h | h <;> omega
        have hp0 := srt_first P hs1 ((hs2 0).2 (.inl rfl)) hge
        have hnp1 : 1 ≤ np := by have := (List.getElem?_eq_some_iff.1 hp0).1; have := PN.out; omega
        have HS1 := Lib.hid hs1; have HS2 := Lib.hid hs2; have HGE := Lib.hid hge; have HP0 := Lib.hid hp0; have HRS := Lib.hid hRS
        clear hs1 hs2 hge hp0 hRS
        have np40 : np ≤ 100 := by omega
        go_loopw [14, 15] (fun a i wr => Scanning wS P d all np a i wr) (fun _ i _ => np - (intOf i).toNat)
        case atStart => exact ⟨0, 0, [], none, 0, 0, hnp1, HP0.out, rfl, rfl, OwnR.nil _ _, ⟨trivial, by simp, fun n => ⟨fun h => absurd h (inR_nil _), fun ⟨a, b, _⟩ => by omega⟩⟩, Nat.le_refl _, Below.refl _ _⟩
        case round =>
          obtain ⟨i, p, out, Ao, no, co, hi, hpi, rfl, rfl, hoo, hscan, hno, hbr⟩ := hrel
          have OO := Lib.hid hoo; have SC := Lib.hid hscan; have HPI := Lib.hid hpi; have NO : Hid (out.length = no) := Lib.hid hoo.1
          have hpl := PL.out.below hbr
          have hcB := cell_of_one hpl.1
          have hBl := lt_of_block hpl.1
          obtain ⟨gp, og, hAp, hgl, hcp, hp1, hp2⟩ := (hpl.2.is).at i p hpi
          have hp3 := HGE.out p (List.mem_of_getElem? hpi)
          have PLW := Lib.hid hpl
          have HRW := Lib.hid (HRS.out.below hbr)
          subst hAp
          clear hoo hscan hpi hpl
          by_cases hlt : i + 1 < np
          · obtain ⟨q, hq⟩ : ∃ q, P[i + 1]? = some q := ⟨P[i + 1]'(by rw [PN.out]; exact hlt), List.getElem?_eq_getElem _⟩
            obtain ⟨gp', og', hA', _, hcq, hq1, hq2⟩ := (PLW.out.2.is).at (i + 1) q hq
            obtain ⟨rfl, rfl⟩ : gp = gp' ∧ og = og' := by injection hA' with hA'; injection hA' with h1 h2 h3; exact ⟨h1, h2⟩
            clear hA'
            have hpq : p < q := srt_lt P HS1.out i (i + 1) p q (by omega) HPI.out hq
            have hcst := came_const d all P HS1.out HS2.out i p q HPI.out hq
            have HQ := Lib.hid hq; have HC := Lib.hid hcst
            clear hq hcst
            by_cases hcm : Came d all p
            · have IS : Hid (IsIt true (Came d all p)) := Lib.hid (by simp [IsIt, hcm])
              have n0 : (0 : Int) ≤ (i : Int) + 1 := by omega
              have n1 : (i : Int) + 1 < (np : Int) := by omega
              have n2 : ((i : Int) + 1).toNat = i + 1 := by omega
              have n3 : IntKind.i64.wrap ((i : Int) + 1) = (i : Int) + 1 := IntWalk.i64_in _ (by omega)
              have n4 : (i : Int) < (np : Int) := by omega
              rcases snoc_cases out with hout | ⟨O, y, hout⟩
              · have h0 : no = 0 := by rw [← NO.out, hout]; rfl
                have SN := Lib.hid (scan_new SC.out hp3 hpq HC.out hcm (by rw [hout]; simp))
                have hdz : decide (0 < no) = false := by simp; omega
                have HOUT := Lib.hid hout; have H0 := Lib.hid h0
                clear hcm hout h0
                go_upto_region 22 with (go_at_call 27; (with_reducible refine (cameRef_any d A5 (n + 1) c5 all p true _ IS HRW.out HALN.out (by omega)).mono ?_); rintro e wc9 ⟨rfl, hbc9⟩; have hpl9 := PLW.out.below hbc9; have hcB9 := cell_of_one hpl9.1; have hBl9 := lt_of_block hpl9.1; have hcp9 := (hbc9.cell (p := ⟨gp, og + i, none⟩) hgl).trans hcp; have hcq9 := (hbc9.cell (p := ⟨gp, og + (i + 1), none⟩) hgl).trans hcq; clear hpl9)
                go_quiet (fail)
                go_upto_region 24 with (fail)
                generalize hwd : World.drewN wc9 _ = wd
                have hbd : Below wc9.heap.size wc9 wd := by rw [← hwd]; exact below_drewN (Below.refl _ _) _
                have hcBd := (hbd.cell (p := ⟨B, 0, none⟩) hBl9).trans hcB9
                have hgl9 : gp < wc9.heap.size := Nat.lt_of_lt_of_le hgl hbc9.size
                have hcpd := (hbd.cell (p := ⟨gp, og + i, none⟩) hgl9).trans hcp9
                have hcqd := (hbd.cell (p := ⟨gp, og + (i + 1), none⟩) hgl9).trans hcq9
                have BD : Hid (Below wr.heap.size wr wd) := Lib.hid (bthen hbc9 hbd)
                have hsd : wS.heap.size ≤ wd.heap.size := Nat.le_trans hbr.size BD.out.size
                clear hwd hbd hcB9 hcp9 hcq9 hBl9 hgl9
                go_region_law (refine step_appR rfl (wd.drew.alloc (.cells #[.int .i64 p, .int .i64 q] 25)) (.tmp 105) (.tmp 116) rfl wS.heap.size Ao no co out (by simp [Act.eval, Act.put]) ((OO.out.below BD.out).below ((Below.refl wd.heap.size wd).drew.alloc (Nat.le_refl _) _)) (some ⟨wd.heap.size, 0, none⟩) 1 1 [(p, q)] (by simp [Act.eval, Act.put]) (rs_new wd.drew _ _ _ rfl _ rfl) rfl (no + 1) rfl (by omega) (by simp; omega) ?_; intro A10 c10 w10 ho10 hb10 hs10; have O10 := Lib.hid ho10; have HB10 := Lib.hid hb10; clear ho10 hb10 hs10)
                all_goals
                  clear n0 n1 n2 n3 n4 hcBd hcpd hcqd
                  go_wp2_with fail
                  go_roundw
                  case rel => exact ⟨i + 1, q, out ++ [(p, q)], A10, no + 1, c10, by omega, HQ.out, by go_num, rfl, O10.out, SN.out, by omega, (hbr.trans ((BD.out.trans ((Below.refl wd.heap.size wd).drew.alloc (Nat.le_refl _) _ |>.mono BD.out.size)).mono hbr.size)).trans HB10.out⟩
                  case measure => simp [intOf]; omega
              · obtain ⟨y1, y2⟩ := y
                obtain ⟨m, hm'⟩ : ∃ m, m = O.length := ⟨_, rfl⟩
                have hno1 : no = m + 1 := by rw [← NO.out, hout, List.length_append, hm']; rfl
                obtain ⟨go, hgo, hgo1, hgo2⟩ := OO.out.some_ (by omega)
                subst hgo
                have hyat : out[m]? = some (y1, y2) := by rw [hout, hm']; simp
                have hdz : decide (0 < no) = true := by simp; omega
                have m0 : (0 : Int) ≤ (no : Int) - 1 := by omega
                have m1 : (no : Int) - 1 < (no : Int) := by omega
                have m2 : ((no : Int) - 1).toNat = m := by omega
                have m3 : IntKind.i64.wrap ((no : Int) - 1) = (no : Int) - 1 := IntWalk.i64_in _ (by omega)
                have m4 : (1 : Int) ≤ (no : Int) := by omega
                have m5 : 1 ≤ no := by omega
                have HY := Lib.hid hyat; have HOUT := Lib.hid hout; have HM' := Lib.hid hm'; have HNO1 := Lib.hid hno1
                by_cases hyp : y2 = p
                · have zz : (y2 == p) = true := by rw [beq_iff_eq]; exact hyp
                  have SX : Hid (Scan d all q (O ++ [(y1, q)])) := Lib.hid (by have h := SC.out; rw [hout] at h; exact scan_ext h hpq HC.out hcm hyp)
                  clear hcm hout hm' hno1 hyat hyp
                  go_upto_region 22 with (go_at_call 27; (with_reducible refine (cameRef_any d A5 (n + 1) c5 all p true _ IS HRW.out HALN.out (by omega)).mono ?_); rintro e wc9 ⟨rfl, hbc9⟩; have hpl9 := PLW.out.below hbc9; have hcB9 := cell_of_one hpl9.1; have hBl9 := lt_of_block hpl9.1; have hcp9 := (hbc9.cell (p := ⟨gp, og + i, none⟩) hgl).trans hcp; have hcq9 := (hbc9.cell (p := ⟨gp, og + (i + 1), none⟩) hgl).trans hcq; obtain ⟨bo, oo, hAo, hbo1, hco1, hco2⟩ := (OO.out.below hbc9).rs.at m _ HY.out; injection hAo with hAo; injection hAo with e1 e2; subst e1; subst e2; simp only [Nat.zero_add] at hco1 hco2; have hfo := (OO.out.below hbc9).2.frozenAt (m * 2 + 1); clear hpl9)
                  go_quiet (fail)
                  go_wp2_with fail
                  generalize hwd : World.drewN wc9 _ = wd
                  have hbd : Below wc9.heap.size wc9 wd := by rw [← hwd]; exact below_drewN (Below.refl _ _) _
                  have hob := (OO.out.below hbc9).below hbd
                  have hst := (hob.2.stored (m * 2 + 1) (.int .i64 q)).1
                  rw [HOUT.out, HM'.out, rcells_set] at hst
                  rw [← HM'.out] at hst
                  refine ⟨⟨i + 1, q, O ++ [(y1, q)], some ⟨go, 0, none⟩, no, co, by omega, HQ.out, by go_num, rfl, ⟨?_, hst⟩, SX.out, by omega, (hbr.trans ((bthen hbc9 hbd).mono hbr.size)).setCell hgo1 _⟩, ?_⟩
                  · rw [List.length_append, ← HM'.out, HNO1.out]; rfl
                  · simp [intOf]; omega
                · have zz : (y2 == p) = false := by rw [beq_eq_false_iff_ne]; exact hyp
                  have SN : Hid (Scan d all q (out ++ [(p, q)])) := Lib.hid (by have h := SC.out; rw [hout] at h ⊢; exact scan_new h hp3 hpq HC.out hcm (scan_last h hyp))
                  clear hcm hout hm' hno1 hyat hyp
                  go_upto_region 22 with (go_at_call 27; (with_reducible refine (cameRef_any d A5 (n + 1) c5 all p true _ IS HRW.out HALN.out (by omega)).mono ?_); rintro e wc9 ⟨rfl, hbc9⟩; have hpl9 := PLW.out.below hbc9; have hcB9 := cell_of_one hpl9.1; have hBl9 := lt_of_block hpl9.1; have hcp9 := (hbc9.cell (p := ⟨gp, og + i, none⟩) hgl).trans hcp; have hcq9 := (hbc9.cell (p := ⟨gp, og + (i + 1), none⟩) hgl).trans hcq; obtain ⟨bo, oo, hAo, hbo1, hco1, hco2⟩ := (OO.out.below hbc9).rs.at m _ HY.out; injection hAo with hAo; injection hAo with e1 e2; subst e1; subst e2; simp only [Nat.zero_add] at hco1 hco2; clear hpl9)
                  go_quiet (fail)
                  go_upto_region 24 with (fail)
                  generalize hwd : World.drewN wc9 _ = wd
                  have hbd : Below wc9.heap.size wc9 wd := by rw [← hwd]; exact below_drewN (Below.refl _ _) _
                  have hcBd := (hbd.cell (p := ⟨B, 0, none⟩) hBl9).trans hcB9
                  have hgl9 : gp < wc9.heap.size := Nat.lt_of_lt_of_le hgl hbc9.size
                  have hcpd := (hbd.cell (p := ⟨gp, og + i, none⟩) hgl9).trans hcp9
                  have hcqd := (hbd.cell (p := ⟨gp, og + (i + 1), none⟩) hgl9).trans hcq9
                  have BD : Hid (Below wr.heap.size wr wd) := Lib.hid (bthen hbc9 hbd)
                  have hsd : wS.heap.size ≤ wd.heap.size := Nat.le_trans hbr.size BD.out.size
                  clear m0 m1 m2 m3 m4 m5 hco1 hco2 hwd hbd hcB9 hcp9 hcq9 hBl9 hgl9
                  go_region_law (refine step_appR rfl (wd.drew.alloc (.cells #[.int .i64 p, .int .i64 q] 25)) (.tmp 105) (.tmp 116) rfl wS.heap.size (some ⟨go, 0, none⟩) no co out (by simp [Act.eval, Act.put]) ((OO.out.below BD.out).below ((Below.refl wd.heap.size wd).drew.alloc (Nat.le_refl _) _)) (some ⟨wd.heap.size, 0, none⟩) 1 1 [(p, q)] (by simp [Act.eval, Act.put]) (rs_new wd.drew _ _ _ rfl _ rfl) rfl (no + 1) rfl (by omega) (by simp; omega) ?_; intro A10 c10 w10 ho10 hb10 hs10; have O10 := Lib.hid ho10; have HB10 := Lib.hid hb10; clear ho10 hb10 hs10)
                  all_goals
                    clear n0 n1 n2 n3 n4 hcBd hcpd hcqd
                    go_wp2_with fail
                    go_roundw
                    case rel => exact ⟨i + 1, q, out ++ [(p, q)], A10, no + 1, c10, by omega, HQ.out, by go_num, rfl, O10.out, SN.out, by omega, (hbr.trans ((BD.out.trans ((Below.refl wd.heap.size wd).drew.alloc (Nat.le_refl _) _ |>.mono BD.out.size)).mono hbr.size)).trans HB10.out⟩
                    case measure => simp [intOf]; omega
            · have IS : Hid (IsIt false (Came d all p)) := Lib.hid (by simp [IsIt, hcm])
              have SK := Lib.hid (scan_skip SC.out hpq HC.out hcm)
              clear hcm
              go_wp2_with (go_at_call 27; (with_reducible refine (cameRef_any d A5 (n + 1) c5 all p false _ IS HRW.out HALN.out (by omega)).mono ?_); rintro e wc9 ⟨rfl, hbc9⟩)
              go_roundw
              case rel => exact ⟨i + 1, q, out, Ao, no, co, by omega, HQ.out, by go_num, rfl, OO.out.below hbc9, SK.out, by omega, bthen hbr hbc9⟩
              case measure => simp [intOf]; omega
          · have hin : np = i + 1 := by omega
            have hmax : ∀ y ∈ P, y ≤ p := by
              intro y hy
              obtain ⟨j, hj, rfl⟩ := List.mem_iff_getElem.1 hy
              have hjp := PN.out
              rcases Nat.lt_or_ge j i with c | c
              · exact Int.le_of_lt (srt_lt P HS1.out j i _ p c (List.getElem?_eq_getElem hj) HPI.out)
              · obtain rfl : j = i := by omega
                have h2 := HPI.out
                rw [List.getElem?_eq_getElem hj] at h2
                injection h2 with h2
                omega
            have hend := scan_end d l (r1, r2) p out HM.out HR.out (by rw [← HAL.out]; exact SC.out) ⟨hmax d ((HS2.out d).2 (.inr (.inl rfl))), fun x hx => hmax x.2 ((HS2.out _).2 (.inr (.inr ⟨x, by rw [HAL.out]; exact hx, .inr rfl⟩)))⟩
            rw [← HD.out, ← HL.out] at hend
            have HBR : Hid (Below w.heap.size w wr) := Lib.hid (((HBC.out.trans (HCB.out.mono HBC.out.size)).trans (HBW.out.mono (by have := HBC.out.size; have := HBB.out; omega))).trans (hbr.mono (by have := HBC.out.size; have := HBB.out; omega)))
            have HEND := Lib.hid hend
            have HMX := Lib.hid hmax
            clear hend hmax
            have e1 : ¬ (i : Int) + 1 < (np : Int) := by omega
            cases hout : out with
            | nil =>
              have hDL := HEND.out.2 (by rw [hout]; intro e t h; cases h)
              rw [hout] at hDL
              obtain ⟨rfl, rfl⟩ := hDL
              have h0 : no = 0 := by rw [← NO.out, hout]; rfl
              have hN0 : N = 0 := by rw [← HNN.out]; rfl
              have H0 := Lib.hid h0; have HN0 := Lib.hid hN0
              have h0' : no ≤ 0 := by omega
              clear h0 hN0
              go_wp2_with fail
              go_ret3
              exact ⟨fun _ => ⟨Ao, co, by rw [HN0.out, ← H0.out]; simp, Rs.nil _ _, HBR.out⟩, fun h16 => by have := HN0.out; omega⟩
            | cons x t =>
              obtain ⟨x1, x2⟩ := x
              have hno1 : no = t.length + 1 := by rw [← NO.out, hout]; rfl
              obtain ⟨go, hgo, hgo1, hgo2⟩ := OO.out.some_ (by omega)
              subst hgo
              obtain ⟨bo, oo, hAo, hbo1, hco1, hco2⟩ := OO.out.rs.at 0 (x1, x2) (by rw [hout]; rfl)
              injection hAo with hAo; injection hAo with e3 e4; subst e3; subst e4
              simp only [Nat.zero_mul, Nat.zero_add] at hco1 hco2
              have h0' : 0 < no := by omega
              have HNO1 := Lib.hid hno1; have HOUT := Lib.hid hout
              have hcap := OO.out.cap
              by_cases hx1 : x1 = 0
              · obtain ⟨hD0, hL0⟩ := HEND.out.1 x2 t (by rw [hout, hx1])
                have hNn : N + 1 = no := by rw [← HNN.out, hL0, hno1]
                have HD0 := Lib.hid hD0; have HL0 := Lib.hid hL0; have HX1 := Lib.hid hx1
                have zx : (x1 == 0) = true := by rw [beq_iff_eq]; exact hx1
                have HTL : Hid (Rs wr (some ⟨go, 2, none⟩) t) := Lib.hid (by have h := OO.out.rs; rw [hout] at h; exact h.tail)
                have z1 : (1 : Int) ≤ (no : Int) := by omega
                have z2 : 1 ≤ no := by omega
                have z3 : 1 ≤ co := by omega
                have z4 : (1 : Int) ≤ (co : Int) := by omega
                by_cases hco : co = 1
                · have hn1 : no = 1 := by omega
                  have hN0 : N = 0 := by omega
                  have htn : t = [] := List.eq_nil_of_length_eq_zero (by omega)
                  have HN0 := Lib.hid hN0; have HTN := Lib.hid htn
                  clear hno1 hout hD0 hL0 hx1 hN0 htn hNn hcap z1 z2 z3 z4 h0'
                  subst hn1; subst hco
                  go_wp2_with fail
                  go_ret3
                  exact ⟨fun _ => ⟨some ⟨go, 0, none⟩, 0, by rw [HD0.out, HN0.out]; simp, by rw [HL0.out, HTN.out]; exact Rs.nil _ _, HBR.out⟩, fun h => by have := HN0.out; omega⟩
                · have hco2 : ¬ 1 = co := by omega
                  have z5 : (1 : Int) < (co : Int) := by omega
                  have HNn := Lib.hid hNn
                  clear hno1 hout hD0 hL0 hx1 hNn
                  by_cases h16 : N ≤ 16
                  · have z6 : no - 1 ≤ 16 := by have := HNn.out; omega
                    have z7 : (no : Int) - 1 ≤ 16 := by omega
                    go_wp2_with fail
                    go_ret3
                    exact ⟨fun _ => ⟨some ⟨go, 2, none⟩, co - 1, by rw [HD0.out]; have h := HNn.out; simp; omega, by rw [HL0.out]; exact HTL.out, HBR.out⟩, fun h => by omega⟩
                  · have z6 : 16 < no - 1 := by have := HNn.out; omega
                    have z7 : 16 < (no : Int) - 1 := by omega
                    go_wp2_with fail
                    go_ret3
                    exact ⟨fun h => by omega, fun _ => ⟨by simp, HBR.out⟩⟩
              · have hDL := HEND.out.2 (by rw [hout]; intro e t h; injection h with h1 h2; injection h1 with h1 h3; exact hx1 h1)
                obtain ⟨hD0, hL0⟩ := hDL
                have hNn : N = no := by rw [← HNN.out, hL0]; exact NO.out
                have HD0 := Lib.hid hD0; have HL0 := Lib.hid hL0
                have zx : (x1 == 0) = false := by rw [beq_eq_false_iff_ne]; exact hx1
                subst hNn
                clear hno1 hout hD0 hL0 hx1
                by_cases h16 : N ≤ 16
                · go_wp2_with fail
                  go_ret3
                  exact ⟨fun _ => ⟨some ⟨go, 0, none⟩, co, by rw [HD0.out]; simp, by rw [HL0.out]; exact OO.out.rs, HBR.out⟩, fun h => by omega⟩
                · go_wp2_with fail
                  go_ret3
                  exact ⟨fun h => by omega, fun _ => ⟨by simp, HBR.out⟩⟩

end Go.Proofs.Ytdfidmdgdajgoaa
