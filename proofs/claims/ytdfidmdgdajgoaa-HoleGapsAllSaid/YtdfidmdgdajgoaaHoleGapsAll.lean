/-
  The walk of HoleGapsAll.
-/
import Derived.Test.YtdfidmdgdajgoaaHoleMath2
namespace Go.Proofs.Ytdfidmdgdajgoaa
open Go.RowKit
set_option linter.unusedVariables false

/-- the state of the loop: the gaps (j + t) % n for j < k are filled -/
def Filling (w2 : World) (d : Int) (o : List Rg) (n t : Nat) (t12 t13 t14 : Value) (wr : World) : Prop :=
  ∃ (k : Nat) (D : Int) (A3 : Option Addr) (n3 c3 : Nat) (R : List Rg), k ≤ n ∧ t14 = .int .i64 k ∧ t12 = .int .i64 D ∧ t13 = .slice A3 n3 c3 ∧ Rs wr A3 R ∧ R.length = n3 ∧ mayB D R = true ∧
    (∀ x, Came D R x ↔ Came d o x ∨ inR ((List.range k).map fun j => (gapsR d o).getD ((j + t) % n) (0, 0)) x) ∧ Below w2.heap.size w2 wr

theorem gaps_last (d : Int) : ∀ (o : List Rg) (k : Nat) (x : Rg), o[k]? = some x → o.length = k + 1 → lastTo d o = x.2 := by
  intro o k x hx hl
  induction o generalizing d k with
  | nil => simp at hl
  | cons y t ih =>
    cases t with
    | nil => simp at hl; subst hl; simp at hx; subst hx; rfl
    | cons z s =>
      obtain ⟨j, rfl⟩ : ∃ j, k = j + 1 := ⟨k - 1, by simp at hl; omega⟩
      exact ih y.2 j (by simpa using hx) (by simpa using hl)

set_option maxRecDepth 100000 in
set_option maxHeartbeats 2000000 in
theorem walkHoleGapsAll (A : Option Addr) (m c : Nat) (zs : List Int) (tu : Int) (w : World) (hb : Is w A zs) (hn : zs.length = m) (hc : m ≤ c) (hr : c ≤ 17592186043904)
    (ht0 : -9223372036854775808 ≤ tu) (ht1 : tu ≤ 9223372036854775807) :
    Calls Try.prog 9 #[.slice A m c, .int .i64 tu] w fun e w' => e = .returned (.bool true) ∧ Below w.heap.size w w' := by
  have hmay := heap_may zs 20
  obtain ⟨⟨d, o⟩, hs⟩ : ∃ s, s = heapOf zs 20 := ⟨_, rfl⟩
  rw [← hs] at hmay
  simp only at hmay
  obtain ⟨n, hp⟩ : ∃ p, p = o.length := ⟨_, rfl⟩
  obtain ⟨g0, g1, g2, g3⟩ := mayB_to hmay
  rw [← hp] at g2
  have hgl : (gapsR d o).length = n := by rw [gapsR_len, hp]
  have HB := Lib.hid hb; have HN := Lib.hid hn; have HM := Lib.hid hmay; have HS := Lib.hid hs; have HP := Lib.hid hp; have HG := Lib.hid hgl
  have G3 := Lib.hid g3
  clear hb hn hmay hs hp hgl g3
  rcases Nat.eq_zero_or_pos n with h0 | h0
  · have ho : Hid (o = []) := Lib.hid (List.eq_nil_of_length_eq_zero (by rw [← HP.out]; exact h0))
    have h0' : n ≤ 0 := by omega
    have z : ((n : Int) == 0) = true := by rw [beq_iff_eq]; omega
    have H0 := Lib.hid h0
    clear h0
    go_enter Try.func9, Try.ntmps9
    go_wp2_with (first
      | (go_at_call 21; refine (heap_v A m c 20 _ zs d o n _ HS.out HP.out rfl HB.out HN.out (by omega) (by omega)).mono ?_; rintro e w1 ⟨A1, c1, rfl, ho1, hbw1⟩; have O1 := Lib.hid ho1; clear ho1)
      | (go_at_call 18; refine (gaps_ok d A1 n c1 o _ O1.out.rs HP.out.symm (by omega) HM.out).mono ?_; rintro e w2 ⟨A2, c2, rfl, ho2, hbw2⟩; have O2 := Lib.hid ho2; clear ho2))
    go_loopw [12, 13, 14] (fun a b i wr => a = .int .i64 d ∧ b = .slice A1 n c1 ∧ i = .int .i64 0 ∧ wr = w2) (fun _ _ _ _ => 0)
    case atStart => exact ⟨rfl, rfl, rfl, rfl⟩
    case round =>
      obtain ⟨rfl, rfl, rfl, rfl⟩ := hrel
      go_wp2_with (go_at_call 11; refine (may_any d A1 n c1 o _ (O1.out.rs.below hbw2) HP.out.symm (by omega)).mono ?_; rw [HM.out]; rintro e w4 ⟨rfl, hbw4⟩)
      go_ret
      exact ⟨rfl, bthen (bthen hbw1 hbw2) hbw4⟩
  · obtain ⟨⟨y1, y2⟩, hy⟩ : ∃ y, o[n - 1]? = some y := ⟨o[n - 1]'(by have := HP.out; omega), List.getElem?_eq_getElem _⟩
    have hlast : Hid (lastTo d o = y2) := Lib.hid (gaps_last d o (n - 1) _ hy (by have := HP.out; omega))
    have HY := Lib.hid hy
    clear hy
    obtain ⟨t, T, ht⟩ := pick_nat tu (n : Int) (by omega)
    have z0 : ((n : Int) - 1).toNat = n - 1 := by omega
    have z1 : (0 : Int) ≤ (n : Int) - 1 := by omega
    have z2 : (1 : Int) ≤ (n : Int) := by omega
    go_enter Try.func9, Try.ntmps9
    go_wp2_with (first
      | (go_at_call 21; refine (heap_v A m c 20 _ zs d o n _ HS.out HP.out rfl HB.out HN.out (by omega) (by omega)).mono ?_; rintro e w1 ⟨A1, c1, rfl, ho1, hbw1⟩; have O1 := Lib.hid ho1; clear ho1)
      | (go_at_call 18; refine (gaps_ok d A1 n c1 o _ O1.out.rs HP.out.symm (by omega) HM.out).mono ?_; rintro e w2 ⟨A2, c2, rfl, ho2, hbw2⟩; have O2 := Lib.hid ho2; clear ho2; obtain ⟨b0, o0, hA1, hlb, hc1, hc2⟩ := (O1.out.rs.below hbw2).at (n - 1) _ HY.out; subst hA1; simp only at hc1 hc2))
    clear hc1 hc2 z0 z1 z2
    go_loopw [12, 13, 14] (fun a b i wr => Filling w2 d o n t a b i wr) (fun _ _ i _ => n - (intOf i).toNat)
    case atStart => exact ⟨0, d, some ⟨b0, o0, none⟩, n, c1, o, Nat.zero_le _, rfl, rfl, rfl, O1.out.rs.below hbw2, HP.out.symm, HM.out, fun x => by simp [inR_nil], Below.refl _ _⟩
    case round =>
      obtain ⟨k, D, A3, n3, c3, R, hk, rfl, rfl, rfl, hrs, hrl, hrm, hset, hb3⟩ := hrel
      have O3 := Lib.hid hrs; have HRL := Lib.hid hrl; have HRM := Lib.hid hrm; have HSET := Lib.hid hset
      clear hrs hrl hrm hset
      by_cases hlt : k < n
      · obtain ⟨j, hj⟩ : ∃ j, j = (k + t) % n := ⟨_, rfl⟩
        have hjn : j < n := by rw [hj]; exact Nat.mod_lt _ h0
        have hj2 : ((k : Int) + (t : Int)) % (n : Int) = (j : Int) := by rw [hj, Int.natCast_emod, Int.natCast_add]
        have J := Lib.hid hj
        clear hj
        obtain ⟨⟨r1, r2⟩, hx⟩ : ∃ x, (gapsR d o)[j]? = some x := ⟨(gapsR d o)[j]'(by rw [HG.out]; exact hjn), List.getElem?_eq_getElem _⟩
        obtain ⟨b', o', hA, _, hc1, hc2⟩ := (O2.out.rs.below hb3).at j _ hx
        subst hA
        simp only at hc1 hc2
        have hrg := List.mem_of_getElem? hx
        obtain ⟨e1, e2, e3, e4⟩ := gaps_each o d (okB_ch o d G3.out).1 _ hrg
        obtain ⟨f1, f2, f3⟩ := fill_one d o D R _ HM.out HRM.out HSET.out (r1, r2) hrg
        simp only at e1 e2 e3 e4 f1 f3
        obtain ⟨D', hD⟩ : ∃ D', D' = addD D R (r1, r2) := ⟨_, rfl⟩
        obtain ⟨L', hL⟩ : ∃ L', L' = addL D R (r1, r2) := ⟨_, rfl⟩
        obtain ⟨N', hN'⟩ : ∃ N', N' = L'.length := ⟨_, rfl⟩
        have hm' := add_may HRM.out f1 f2
        have Q : Hid (IsIt false (Came d o r1)) := Lib.hid (by simp [IsIt, e3])
        rw [← hD, ← hL] at f3 hm'
        rw [← hL, ← hN'] at f2
        have hnx : ∀ x, Came D' L' x ↔ Came d o x ∨ inR ((List.range (k + 1)).map fun j => (gapsR d o).getD ((j + t) % n) (0, 0)) x := by
          intro x
          rw [f3 x, List.range_succ, List.map_append, inR_app, List.map_cons, List.map_nil, inR_one, ← J.out]
          simp [hx]
        have F1 := Lib.hid f1; have HD := Lib.hid hD; have HL := Lib.hid hL; have HNN := Lib.hid hN'.symm; have HM2 := Lib.hid hm'; have HNX := Lib.hid hnx
        clear hx hrg e3 e4 f1 f3 hD hL hN' hm' hnx
        go_wp2_with (first
          | (go_at_call 20; refine (picked_n tu (n : Int) t _ T ht0 ht1 (by omega) (by omega)).mono ?_; rintro e w' ⟨rfl, rfl⟩)
          | (go_at_call 24; (with_reducible refine (has_any d _ n c1 o r1 _ _ Q (((O1.out.rs.below hbw2).below hb3).below (ba1 _ _)) HP.out.symm g2).mono ?_); rintro e w' ⟨rfl, rfl⟩)
          | (go_at_call 13; refine (add_fit D A3 n3 c3 R r1 r2 _ (O3.out.below (ba1 _ _)) HRL.out HRM.out F1.out D' N' L' HD.out HL.out HNN.out f2).mono ?_; rintro e w5 ⟨A5, c5, rfl, ho5, hb5⟩; have O5 := Lib.hid ho5; clear ho5))
        go_roundw
        case rel => exact ⟨k + 1, D', A5, N', c5, L', by omega, by go_num, rfl, rfl, O5.out.rs, HNN.out, HM2.out, HNX.out, bthen (bthen hb3 (ba1 _ _)) hb5⟩
        case measure => simp [intOf]; omega
      · obtain rfl : k = n := by omega
        have hfin := fill_all d o D R HM.out HRM.out (fun x => by
          rw [HSET.out x]
          constructor
          · rintro (h | ⟨y, hy, h⟩)
            · exact .inl h
            · obtain ⟨j, hj, rfl⟩ := List.mem_map.1 hy
              have hlt : (j + t) % k < (gapsR d o).length := by rw [HG.out]; exact Nat.mod_lt _ h0
              rw [List.getD_eq_getElem?_getD, List.getElem?_eq_getElem hlt] at h
              exact .inr ⟨_, List.getElem_mem hlt, h⟩
          · rintro (h | ⟨y, hy, h⟩)
            · exact .inl h
            · obtain ⟨i, hi, rfl⟩ := List.mem_iff_getElem.1 hy
              obtain ⟨j, hj, hji⟩ := rot_cover k t h0 i (by rw [← HG.out]; exact hi)
              refine .inr ⟨_, List.mem_map.2 ⟨j, List.mem_range.2 hj, rfl⟩, ?_⟩
              rw [hji, List.getD_eq_getElem?_getD, List.getElem?_eq_getElem hi]
              exact h)
        obtain ⟨q1, q2⟩ := hfin
        rw [hlast.out] at q1
        obtain rfl : n3 = 0 := by rw [← HRL.out, q2]; rfl
        have Q1 := Lib.hid q1
        clear q1 q2
        obtain rfl := Q1.out
        go_wp2_with (go_at_call 11; refine (may_any D A3 0 c3 R _ O3.out HRL.out (by omega)).mono ?_; rw [HRM.out]; rintro e w4 ⟨rfl, hbw4⟩)
        go_ret
        exact ⟨rfl, bthen (bthen (bthen hbw1 hbw2) hb3) hbw4⟩

end Go.Proofs.Ytdfidmdgdajgoaa
