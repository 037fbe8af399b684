/-
  Contract of hole.join.
-/
import Derived.Test.YtehckiihipnimaaSHole
import Derived.Deep.RegionLaw
import Derived.RegionTactic
import Derived.BigRegion
import Derived.Laws.NewBlocks
namespace Go.Proofs.Ytehckiihipnimaa
open Go.RowKit
set_option linter.unusedVariables false

structure Two (w : World) (b : Nat) (x : Rg) : Prop where
  c0 : w.cell? ⟨b, 0, none⟩ = some (.int .i64 x.1)
  c1 : w.cell? ⟨b, 1, none⟩ = some (.int .i64 x.2)
  f0 : w.frozen? ⟨b, 0, none⟩ = false
  f1 : w.frozen? ⟨b, 1, none⟩ = false
  lt : b < w.heap.size
theorem Two.block {w w' : World} {b : Nat} {x : Rg} (h : Two w b x) (hh : w'.heap[b]? = w.heap[b]?) (hs : b < w'.heap.size) : Two w' b x :=
  ⟨(World.cell?_of_block (a := ⟨b, 0, none⟩) hh).trans h.c0, (World.cell?_of_block (a := ⟨b, 1, none⟩) hh).trans h.c1, (World.frozen?_of_block (a := ⟨b, 0, none⟩) hh).trans h.f0, (World.frozen?_of_block (a := ⟨b, 1, none⟩) hh).trans h.f1, hs⟩
theorem Two.below {w w' : World} {b : Nat} {x : Rg} (h : Two w b x) (hb : Below w.heap.size w w') : Two w' b x := h.block (hb.block b h.lt) (Nat.lt_of_lt_of_le h.lt hb.size)
theorem Two.below' {w w' : World} {b B : Nat} {x : Rg} (h : Two w b x) (hb : Below B w w') (hB : b < B) : Two w' b x := h.block (hb.block b hB) (Nat.lt_of_lt_of_le h.lt hb.size)

theorem OwnR.blocks {w w' : World} {base : Nat} {A : Option Addr} {n c : Nat} {l : List Rg} (h : OwnR w base A n c l) (hb : ∀ k, base ≤ k → w'.heap[k]? = w.heap[k]?) : OwnR w' base A n c l := by
  refine ⟨h.1, h.2.1, ?_⟩
  rcases h.2.2 with hv | ⟨g, cap, cur, hv, hg, hh, r⟩
  · exact .inl hv
  · exact .inr ⟨g, cap, cur, hv, hg, (hb g hg).trans hh, r⟩
theorem two_new (w : World) (T : TypeId) (x : Rg) : Two (w.alloc (.cells #[.int .i64 x.1, .int .i64 x.2] T)) w.heap.size x := ⟨by simp, by simp, by simp, by simp, by simp⟩
/-- two cells of a block are stored anew -/
theorem two_set {w : World} {b : Nat} {x : Rg} (h : Two w b x) (y : Rg) :
    Two ((w.setCell ⟨b, 0, none⟩ (.int .i64 y.1)).setCell ⟨b, 1, none⟩ (.int .i64 y.2)).drew b y ∧ (∀ k, k ≠ b → ((w.setCell ⟨b, 0, none⟩ (.int .i64 y.1)).setCell ⟨b, 1, none⟩ (.int .i64 y.2)).drew.heap[k]? = w.heap[k]?) ∧
      ((w.setCell ⟨b, 0, none⟩ (.int .i64 y.1)).setCell ⟨b, 1, none⟩ (.int .i64 y.2)).drew.heap.size = w.heap.size ∧ ∀ B, B ≤ b → Below B w ((w.setCell ⟨b, 0, none⟩ (.int .i64 y.1)).setCell ⟨b, 1, none⟩ (.int .i64 y.2)).drew := by
  have h0 := h.c0; have h1 := h.c1; have f0 := h.f0; have f1 := h.f1; have hl := h.lt
  have g0 : (w.setCell ⟨b, 0, none⟩ (.int .i64 y.1)).cell? ⟨b, 0, none⟩ = some (.int .i64 y.1) := World.cell?_setCell_same _ _ _ h0
  have g1 : (w.setCell ⟨b, 0, none⟩ (.int .i64 y.1)).cell? ⟨b, 1, none⟩ = some (.int .i64 x.2) := (World.cell?_setCell_other _ _ _ _ (by simp)).trans h1
  refine ⟨⟨(World.cell?_setCell_other _ _ _ _ (by simp)).trans g0, World.cell?_setCell_same _ _ _ g1, by simp [f0], by simp [f1], by simp; exact hl⟩, fun k hk => ?_, by simp, fun B hB => (((Below.refl _ _).setCell hB _).setCell hB _).drew⟩
  show ((w.setCell ⟨b, 0, none⟩ (.int .i64 y.1)).setCell ⟨b, 1, none⟩ (.int .i64 y.2)).heap[k]? = w.heap[k]?
  rw [Below.heap_setCell _ _ _ _ hk, Below.heap_setCell _ _ _ _ hk]

/-- the state of join's loop -/
def Joining (w : World) (l : List Rg) (r : Rg) (n : Nat) (t4 t6 t11 : Value) (wr : World) : Prop :=
  ∃ (k : Nat) (Ab : Option Addr) (nb cb : Nat) (lb : List Rg) (Aa : Option Addr) (na ca : Nat) (la : List Rg) (r' : Rg) (z : Rg),
    k ≤ n ∧ t11 = .int .i64 k ∧ t4 = .slice Ab nb cb ∧ t6 = .slice Aa na ca ∧ OwnR wr (w.heap.size + 2) Ab nb cb lb ∧ OwnR wr (w.heap.size + 2) Aa na ca la ∧ Apart (.slice Ab nb cb) (.slice Aa na ca) ∧
    jn l r = (l.drop k).foldl stepJ (lb, r', la) ∧ nb ≤ k ∧ na ≤ k ∧ Two wr w.heap.size r' ∧ Two wr (w.heap.size + 1) z ∧ Below w.heap.size w wr ∧ w.heap.size + 2 ≤ wr.heap.size

/-- what join answers -/
def RetJ (W : World) (l : List Rg) (r : Rg) (e : Ending) (w' : World) : Prop :=
  ∃ Ab nb cb Aa na ca, e = .returned (.tuple #[.slice Ab nb cb, rv (jn l r).2.1, .slice Aa na ca]) ∧ OwnR w' W.heap.size Ab nb cb (jn l r).1 ∧ OwnR w' W.heap.size Aa na ca (jn l r).2.2 ∧ Apart (.slice Ab nb cb) (.slice Aa na ca) ∧ Below W.heap.size W w'

set_option maxHeartbeats 1000000 in
theorem join_any (A : Option Addr) (n c : Nat) (l : List Rg) (r : Rg) (w : World) (hb : Rs w A l) (hn : l.length = n) (h47 : n ≤ 16) :
    Calls Try.prog 88 #[.slice A n c, rv r] w (RetJ w l r) := by
  have HB := Lib.hid hb
  have HN := Lib.hid hn
  clear hb hn
  obtain ⟨r1, r2⟩ := r
  unfold rv
  simp only
  go_enter Try.func88, Try.ntmps88
  go_wp2
  go_loopw [4, 6, 11] (fun b a i wr => Joining w l (r1, r2) n b a i wr) (fun _ _ i _ => n - (intOf i).toNat)
  case atStart => exact ⟨0, none, 0, 0, [], none, 0, 0, [], (r1, r2), (0, 0), Nat.zero_le _, rfl, rfl, rfl, OwnR.nil _ _, OwnR.nil _ _, Apart.nil _ _ _, rfl, Nat.le_refl _, Nat.le_refl _, (two_new _ _ _).below (ba1 _ _), by have := two_new (w.alloc (.cells #[.int .i64 r1, .int .i64 r2] 44)) 44 (0, 0); simpa using this, ba2 _ _ _, by simp⟩
  case round =>
    obtain ⟨k, Ab, nb, cb, lb, Aa, na, ca, la, ⟨u1, u2⟩, z, hk, rfl, rfl, rfl, hob, hoa, hap, hj, hnb, hna, ht, hz, hbw, hsz⟩ := hrel
    have OB := Lib.hid hob
    have OA := Lib.hid hoa
    have AP := Lib.hid hap
    have HJ := Lib.hid hj
    have HT := Lib.hid ht
    have HZ := Lib.hid hz
    have hT0 := ht.c0; have hT1 := ht.c1; have hf0 := ht.f0; have hf1 := ht.f1
    simp only at hT0 hT1
    have n0 : w.heap.size < wr.heap.size := by omega
    clear hob hoa hap hj ht hz
    by_cases hlt : k < n
    · obtain ⟨⟨x1, x2⟩, hx, hd⟩ := drop_at l k (by rw [HN.out]; exact hlt)
      obtain ⟨b, o, rfl, hbs, hc1, hc2⟩ := (HB.out.below hbw).at k _ hx
      have HD := Lib.hid hd
      clear hd hx
      simp only at hc1 hc2
      by_cases g1 : x2 < u1
      · have HS : Hid (jn l (r1, r2) = (l.drop (k + 1)).foldl stepJ (lb ++ [(x1, x2)], (u1, u2), la)) := Lib.hid (by rw [HJ.out, HD.out, List.foldl_cons]; simp [stepJ, g1])
        go_wp2_with (at_builtin; refine wpList_appR rfl _ (.tmp 33) (.tmp 35) rfl (w.heap.size + 2) Ab nb cb lb rfl (OB.out.below (ba2 _ _ _)) _ 1 1 [(x1, x2)] rfl (rs_new _ _ _ _ rfl _ (by simp)) rfl (nb + 1) rfl (by omega) (by simp; omega) ?_; intro A4 c4 w4 ho4 hb4 hs4; have O4 := Lib.hid ho4; have S4 := Lib.hid hs4; clear ho4 hs4)
        go_roundw
        case rel => exact ⟨k + 1, A4, nb + 1, c4, lb ++ [(x1, x2)], Aa, na, ca, la, (u1, u2), z, by omega, by go_num, rfl, rfl, O4.out, (OA.out.below (ba2 _ _ _)).beside S4.out AP.out.symm, (AP.out.symm.grow S4.out fun j hj => ((OA.out.below (ba2 _ _ _)).lt j hj).2).symm, HS.out, by omega, by omega,
          (HT.out.below (ba2 _ _ _)).below' hb4 (by omega), (HZ.out.below (ba2 _ _ _)).below' hb4 (by omega), ((hbw.alloc hbw.size _).alloc (by simp; omega) _).trans (hb4.mono (by omega)), by have := hb4.size; simp at this; omega⟩
        case measure => simp [intOf]; omega
      · by_cases g2 : u2 < x1
        · have HS : Hid (jn l (r1, r2) = (l.drop (k + 1)).foldl stepJ (lb, (u1, u2), la ++ [(x1, x2)])) := Lib.hid (by rw [HJ.out, HD.out, List.foldl_cons]; simp [stepJ, g1, g2])
          go_wp2_with (at_builtin; refine wpList_appR rfl _ (.tmp 43) (.tmp 45) rfl (w.heap.size + 2) Aa na ca la rfl (OA.out.below (ba2 _ _ _)) _ 1 1 [(x1, x2)] rfl (rs_new _ _ _ _ rfl _ (by simp)) rfl (na + 1) rfl (by omega) (by simp; omega) ?_; intro A4 c4 w4 ho4 hb4 hs4; have O4 := Lib.hid ho4; have S4 := Lib.hid hs4; clear ho4 hs4)
          go_roundw
          case rel => exact ⟨k + 1, Ab, nb, cb, lb, A4, na + 1, c4, la ++ [(x1, x2)], (u1, u2), z, by omega, by go_num, rfl, rfl, (OB.out.below (ba2 _ _ _)).beside S4.out AP.out, O4.out, AP.out.grow S4.out fun j hj => ((OB.out.below (ba2 _ _ _)).lt j hj).2, HS.out, by omega, by omega,
            (HT.out.below (ba2 _ _ _)).below' hb4 (by omega), (HZ.out.below (ba2 _ _ _)).below' hb4 (by omega), ((hbw.alloc hbw.size _).alloc (by simp; omega) _).trans (hb4.mono (by omega)), by have := hb4.size; simp at this; omega⟩
          case measure => simp [intOf]; omega
        · have HS : Hid (jn l (r1, r2) = (l.drop (k + 1)).foldl stepJ (lb, (min u1 x1, max u2 x2), la)) := Lib.hid (by rw [HJ.out, HD.out, List.foldl_cons]; simp [stepJ, g1, g2])
          have T1 : Hid (Two (wr.alloc (.cells #[.int .i64 x1, .int .i64 x2] 44)) w.heap.size (u1, u2)) := Lib.hid (HT.out.below (ba1 _ _))
          have e0 := T1.out.c0; have e1 := T1.out.c1; have e2 := T1.out.f0; have e3 := T1.out.f1
          have e4 : (wr.alloc (.cells #[.int .i64 x1, .int .i64 x2] 44)).cell? ⟨wr.heap.size, 0, none⟩ = some (.int .i64 x1) := by simp
          have e5 : (wr.alloc (.cells #[.int .i64 x1, .int .i64 x2] 44)).cell? ⟨wr.heap.size, 1, none⟩ = some (.int .i64 x2) := by simp
          simp only at e0 e1
          go_wp2_with fail
          obtain ⟨X, hX⟩ : ∃ X, X = wr.heap.size := ⟨_, rfl⟩
          obtain ⟨R, hR⟩ : ∃ X, X = w.heap.size := ⟨_, rfl⟩
          have hXR : R < X := by omega
          obtain ⟨wn, hwn⟩ : ∃ wn, wn = wr.alloc (.cells #[.int .i64 x1, .int .i64 x2] 44) := ⟨_, rfl⟩
          rw [← hwn] at e0 e1 e2 e3 e4 e5 ⊢
          rw [← hX] at e4 e5 ⊢
          rw [← hR] at e0 e1 e2 e3 ⊢
          have HW := Lib.hid hwn; have HX := Lib.hid hX; have HR := Lib.hid hR
          clear hwn hX hR hT0 hT1 hf0 hf1 n0 hc1 hc2
          have hne1 : R ≠ X := by omega
          have hne2 : X ≠ R := by omega
          go_region
          have T2 := two_set (HW.out ▸ T1.out : Two wn w.heap.size (u1, u2)) (if x1 < u1 then x1 else u1, if u2 < x2 then x2 else u2)
          rw [← HR.out] at T2
          obtain ⟨q1, q2, q3, q4⟩ := T2
          have Q1 := Lib.hid q1; have Q2 := Lib.hid q2; have Q3 := Lib.hid q3; have Q4 := Lib.hid q4
          clear q1 q2 q3 q4
          obtain ⟨w5, hw5⟩ : ∃ w5, w5 = ((wn.setCell ⟨R, 0, none⟩ (.int .i64 (if x1 < u1 then x1 else u1))).setCell ⟨R, 1, none⟩ (.int .i64 (if u2 < x2 then x2 else u2))).drew := ⟨_, rfl⟩
          simp only at Q1 Q2 Q3 Q4
          rw [← hw5] at Q1 Q2 Q3 Q4 ⊢
          clear hw5 e0 e1 e2 e3 e4 e5
          have hR := HR.out
          subst hR
          go_wp2
          go_roundw
          case rel =>
            obtain rfl := HW.out
            have q3 := Q3.out
            simp at q3
            refine ⟨k + 1, Ab, nb, cb, lb, Aa, na, ca, la, (if x1 < u1 then x1 else u1, if u2 < x2 then x2 else u2), z, by omega, by go_num, rfl, rfl, (OB.out.below (ba1 _ _)).blocks fun j hj => Q2.out j (by omega), (OA.out.below (ba1 _ _)).blocks fun j hj => Q2.out j (by omega), AP.out, ?_, by omega, by omega,
              Q1.out, (HZ.out.below (ba1 _ _)).block (Q2.out _ (by omega)) (by omega), (hbw.alloc hbw.size _).trans (Q4.out _ (Nat.le_refl _)), by omega⟩
            rw [HS.out]
            congr 4
            · split <;> omega
            · split <;> omega
          case measure => simp [intOf]; omega
    · have HF : Hid (jn l (r1, r2) = (lb, (u1, u2), la)) := Lib.hid (by rw [HJ.out, List.drop_eq_nil_of_le (by rw [HN.out]; omega)]; rfl)
      have hz0 := HZ.out.c0; have hz1 := HZ.out.c1; have hz2 := HZ.out.f0; have hz3 := HZ.out.f1
      have n1 : w.heap.size + 1 < wr.heap.size := by omega
      obtain ⟨z1, z2⟩ := z
      simp only at hz0 hz1
      go_wp2
      go_region
      rename_i Q0 K1 hK1 K2 hK2
      clear hK1
      obtain ⟨q1, q2, q3, q4⟩ := two_set HZ.out (u1, u2)
      have Q2 := Lib.hid q2; have Q4 := Lib.hid q4
      obtain ⟨w5, hw5⟩ : ∃ w5, w5 = ((wr.setCell ⟨w.heap.size + 1, 0, none⟩ (.int .i64 u1)).setCell ⟨w.heap.size + 1, 1, none⟩ (.int .i64 u2)).drew := ⟨_, rfl⟩
      simp only at q1 Q2 Q4
      rw [← hw5] at q1 Q2 Q4 ⊢
      have k0 := q1.c0; have k1 := q1.c1
      clear hw5 q1 q2 q3 q4 hz0 hz1 hz2 hz3 hT0 hT1 hf0 hf1
      show K2 _ _
      refine hK2 _ _ ?_
      clear hK2
      clear_value Q0
      clear Q0
      go_wp2
      exact bodyPost_ret (v := .tuple #[.slice Ab nb cb, .agg #[.int .i64 u1, .int .i64 u2], .slice Aa na ca]) (by simp [results, Try.results88, go_sem, k0, k1]) rfl
        ⟨Ab, nb, cb, Aa, na, ca, by rw [HF.out]; rfl, by rw [HF.out]; exact (OB.out.blocks fun j hj => Q2.out j (by omega)).base (by omega), by rw [HF.out]; exact (OA.out.blocks fun j hj => Q2.out j (by omega)).base (by omega), AP.out, hbw.trans (Q4.out _ (by omega))⟩

theorem jn_len : ∀ (l : List Rg) (s : List Rg × Rg × List Rg), (l.foldl stepJ s).1.length + (l.foldl stepJ s).2.2.length ≤ s.1.length + s.2.2.length + l.length
  | [], s => Nat.le_refl _
  | x :: t, s => by
    have := jn_len t (stepJ s x)
    have h : (stepJ s x).1.length + (stepJ s x).2.2.length ≤ s.1.length + s.2.2.length + 1 := by
      unfold stepJ
      split
      · simp; omega
      · split
        · simp; omega
        · simp
    simp only [List.foldl_cons, List.length_cons]
    omega

theorem two_put {w : World} {b : Nat} {x : Rg} (h : Two w b x) (y : Rg) :
    Two ((w.setCell ⟨b, 0, none⟩ (.int .i64 y.1)).setCell ⟨b, 1, none⟩ (.int .i64 y.2)) b y ∧ (∀ k, k ≠ b → ((w.setCell ⟨b, 0, none⟩ (.int .i64 y.1)).setCell ⟨b, 1, none⟩ (.int .i64 y.2)).heap[k]? = w.heap[k]?) ∧
      ((w.setCell ⟨b, 0, none⟩ (.int .i64 y.1)).setCell ⟨b, 1, none⟩ (.int .i64 y.2)).heap.size = w.heap.size ∧ ∀ B, B ≤ b → Below B w ((w.setCell ⟨b, 0, none⟩ (.int .i64 y.1)).setCell ⟨b, 1, none⟩ (.int .i64 y.2)) := by
  have h0 := h.c0; have h1 := h.c1; have f0 := h.f0; have f1 := h.f1; have hl := h.lt
  have g0 : (w.setCell ⟨b, 0, none⟩ (.int .i64 y.1)).cell? ⟨b, 0, none⟩ = some (.int .i64 y.1) := World.cell?_setCell_same _ _ _ h0
  have g1 : (w.setCell ⟨b, 0, none⟩ (.int .i64 y.1)).cell? ⟨b, 1, none⟩ = some (.int .i64 x.2) := (World.cell?_setCell_other _ _ _ _ (by simp)).trans h1
  refine ⟨⟨(World.cell?_setCell_other _ _ _ _ (by simp)).trans g0, World.cell?_setCell_same _ _ _ g1, by simp [f0], by simp [f1], by simp; exact hl⟩, fun k hk => ?_, by simp, fun B hB => ((Below.refl _ _).setCell hB _).setCell hB _⟩
  rw [Below.heap_setCell _ _ _ _ hk, Below.heap_setCell _ _ _ _ hk]

end Go.Proofs.Ytehckiihipnimaa
