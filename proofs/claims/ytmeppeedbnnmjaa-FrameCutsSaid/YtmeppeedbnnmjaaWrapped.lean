/-
  packthreadkeep.wrapped: frames, one behind the other.
-/
import Derived.Test.YtmeppeedbnnmjaaFrame1
import Derived.Test.YtmeppeedbnnmjaaOct2
import Derived.Test.YtmeppeedbnnmjaaTool
import Derived.Test.YtmeppeedbnnmjaaRetF
namespace Go.Proofs.Ytmeppeedbnnmjaa
open Go.RowKit
set_option linter.unusedVariables false
set_option linter.unusedSimpArgs false

theorem wraps_len : ∀ {l : List (List Int)}, (∀ b ∈ l, b.length ≤ 100) → (wraps l).length ≤ 104 * l.length
  | [], _ => by simp [wraps]
  | b :: t, h => by
    have h1 := wraps_len (l := t) (fun c hc => h c (by simp [hc]))
    have h2 := h b (by simp)
    have h3 := wrap1_len b
    simp only [wraps, List.length_append, List.length_cons]
    omega
/-- what is wrapped of lists that came in -/
def cutd (l : List Lv) (m : Nat) : List (List Int) := (l.take m).map fun x => x.l.take 100
theorem cutd_short (l : List Lv) (m : Nat) : ∀ b ∈ cutd l m, b.length ≤ 100 := by
  intro b hb
  obtain ⟨x, -, rfl⟩ := List.mem_map.1 hb
  rw [List.length_take]; omega
theorem cutd_octs {w : World} {l : List Lv} (h : LIn w l) (m : Nat) : ∀ b ∈ cutd l m, octs b := by
  intro b hb
  obtain ⟨x, hx, rfl⟩ := List.mem_map.1 hb
  exact octs.take (h x (List.mem_of_mem_take hx)).2.2.2.2 100

/-- what wrapped answers -/
def RetW (w : World) (ts : List (List Int)) (e : Ending) (w' : World) : Prop :=
  Below w.heap.size w w' ∧ ∃ A c ls B d, e = .returned (.tuple #[.slice A (wraps ts).length c, .slice B ts.length d, .bool true]) ∧ OwnL byS 5 w' w.heap.size A (wraps ts).length c (wraps ts) ∧
    OwnL lvS 22 w' w.heap.size B ts.length d ls ∧ ls.map Lv.l = ts ∧ LI w' (fun j => (j < w.heap.size ∨ (Value.slice A (wraps ts).length c).ownBlock = some j) ∨ (Value.slice B ts.length d).ownBlock = some j) ls

def WrX (w : World) (ts : List (List Int)) (o a i : Value) (wr : World) : Prop :=
  ∃ (k N : Nat) (A : Option Addr) (c : Nat) (ls : List Lv) (B : Option Addr) (d : Nat), k ≤ ts.length ∧ i = .int .i64 k ∧ o = .slice A N c ∧ a = .slice B k d ∧ N = (wraps (ts.take k)).length ∧ OwnL byS 5 wr w.heap.size A N c (wraps (ts.take k)) ∧
    OwnL lvS 22 wr w.heap.size B k d ls ∧ ls.map Lv.l = ts.take k ∧ LI wr (fun j => (j < w.heap.size ∨ (Value.slice A N c).ownBlock = some j) ∨ (Value.slice B k d).ownBlock = some j) ls ∧ Apart (.slice A N c) (.slice B k d) ∧ Below w.heap.size w wr

set_option maxRecDepth 100000 in
set_option maxHeartbeats 2000000 in
theorem wrapped_any (L : Option Addr) (n c m : Nat) (l : List Lv) (w : World) (hl : Ls lvS w L l) (hn : l.length = n) (hin : LIn w l) (hm : m ≤ 1000) (h47 : n ≤ 5864062014634) :
    Calls Try.prog 14 #[.slice L n c, .int .i64 m] w (RetW w (cutd l m)) := by
  have HL := Lib.hid hl
  have HN := Lib.hid hn
  have HI := Lib.hid hin
  obtain ⟨ts, hts⟩ : ∃ ts, ts = cutd l m := ⟨_, rfl⟩
  obtain ⟨K, hK⟩ : ∃ K, K = ts.length := ⟨_, rfl⟩
  have hKe : K = min m n := by rw [hK, hts, cutd, List.length_map, List.length_take, hn]
  have HSH : Hid (∀ b ∈ ts, b.length ≤ 100) := Lib.hid (by rw [hts]; exact cutd_short l m)
  rw [← hts]
  have HTS := Lib.hid hts
  have HKK := Lib.hid hK
  have hK1 : K ≤ m := by omega
  have hK2 : K ≤ n := by omega
  have hK3 : m ≤ K ∨ n ≤ K := by omega
  clear hl hn hin hts hK hKe
  go_enter Try.func14, Try.ntmps14
  go_wp2
  go_loopw [7, 8, 9] (fun o a i wr => WrX w ts o a i wr) (fun _ _ i _ => K - (intOf i).toNat)
  case atStart =>
    exact ⟨0, 0, none, 0, [], none, 0, Nat.zero_le _, rfl, rfl, rfl, rfl, OwnL.nil _ _, OwnL.nil _ _, rfl, LI.nil _ _, Apart.nil _ _ _, Below.refl _ _⟩
  case round =>
    obtain ⟨k, N, A, c1, ls, B, d, hk, rfl, rfl, rfl, hNe, how, hol, hls, hli, hap, hbw⟩ := hrel
    rw [← HKK.out] at hk
    have hN104 : N ≤ 104 * k := by
      rw [hNe]
      have := wraps_len (l := ts.take k) (fun b hb => HSH.out b (List.mem_of_mem_take hb))
      rw [List.length_take] at this; omega
    have HNE := Lib.hid hNe
    have HOW := Lib.hid how
    have HOL := Lib.hid hol
    have HLS := Lib.hid hls
    have HLI := Lib.hid hli
    have HAP := Lib.hid hap
    have HBW := Lib.hid hbw
    clear hNe how hol hls hli hap hbw
    by_cases hlt : k < K
    · have hkn : (k : Int) < (n : Int) := by omega
      have hkm : (k : Int) < (m : Int) := by omega
      obtain ⟨x, hx⟩ : ∃ x, l[k]? = some x := ⟨_, List.getElem?_eq_getElem (by rw [HN.out]; omega)⟩
      have HT : Hid (ts.take (k + 1) = ts.take k ++ [x.l.take 100]) := Lib.hid (by
        rw [List.take_add_one, HTS.out, cutd, List.getElem?_map, List.getElem?_take, if_pos (by omega), hx]; rfl)
      obtain ⟨b, o, rfl, hbl, hcc⟩ := (HL.out.below HBW.out).at k x hx
      have g0 := hcc 0 (.slice x.A x.n x.c) rfl
      simp only [lvS, Nat.mul_one, Nat.add_zero] at g0
      obtain ⟨i1, i2, i3, i4, i5⟩ := HI.out x (List.mem_of_getElem? hx)
      obtain ⟨q, hq⟩ : ∃ q, q = min x.n 100 := ⟨_, rfl⟩
      have hq1 : q ≤ 100 := by omega
      have HQ : Hid ((x.l.take 100).length = q) := Lib.hid (by rw [List.length_take, i2]; omega)
      have HO : Hid (∀ w', Below w.heap.size w w' → Calls Try.prog 15 #[.slice x.A x.n x.c, .int .i64 100] w' (RetY w' q (x.l.take q))) := Lib.hid (fun w' hb => octets_any x.A x.n x.c 100 q x.l w' (i1.below hb) i2 i3 (by omega) (by omega) hq)
      have HQT : Hid (x.l.take q = x.l.take 100) := Lib.hid (by
        by_cases g : x.n ≤ 100
        · rw [List.take_of_length_le (by rw [i2]; omega), List.take_of_length_le (by rw [i2]; omega)]
        · rw [show q = 100 by omega])
      have HNN : Hid ((wraps (ts.take (k + 1))).length = N + (4 + q)) := Lib.hid (by
        rw [HT.out, wraps_app, List.length_append, ← HNE.out]; simp only [wraps, List.append_nil]; rw [wrap1_len, HQ.out])
      have HWA : Hid (wraps (ts.take k) ++ wrap1 (x.l.take 100) = wraps (ts.take (k + 1))) := Lib.hid (by
        rw [HT.out, wraps_app]; simp [wraps])
      have HWL : Hid ((wrap1 (x.l.take 100)).length = 4 + q) := Lib.hid (by rw [wrap1_len, HQ.out])
      clear hcc hx i1 i2 i3 i4 i5 hq
      go_wp2_with (first
        | (go_at_call 15; refine (HO.out wr HBW.out).mono ?_; rintro e w1 ⟨A1, d1, rfl, ho1, hb1⟩; rw [HQT.out] at ho1; have HO1 := Lib.hid ho1; have HB1 := Lib.hid hb1; clear ho1 hb1)
        | (go_at_call 8; refine (wrap_ok A1 q d1 (x.l.take 100) w1 HO1.out.ls HQ.out (by omega)).mono ?_; rintro e w2 ⟨A2, d2, rfl, ho2, hb2⟩; have HO2 := Lib.hid ho2; have HB2 := Lib.hid hb2; clear ho2 hb2)
        | (at_builtin; refine wpList_appL (F := byS) rfl _ (.tmp 44) (.tmp 45) 22 rfl _ 1 Try.underlying22 byInfo rfl w.heap.size A N c1 _ rfl ((HOW.out.below HB1.out).below HB2.out) A2 (4 + q) d2 (wrap1 (x.l.take 100)) rfl HO2.out.ls HWL.out (N + (4 + q)) (by omega) (by omega) (by omega) (by have := HBW.out.size; have := HB1.out.size; have := HB2.out.size; omega) ?_; intro A3 c3 w3 ho3 hb3 hs3; rw [HWA.out] at ho3; have HO3 := Lib.hid ho3; have HB3 := Lib.hid hb3; have HS3 := Lib.hid hs3; have HP3 := Lib.hid (HAP.out.symm.grow hs3 (fun j hj => Nat.lt_of_lt_of_le (HOL.out.lt j hj).2 (Nat.le_trans HB1.out.size HB2.out.size))); have HL3 := Lib.hid (((HOL.out.below HB1.out).below HB2.out).beside hs3 HAP.out.symm); clear ho3 hb3 hs3)
        | (at_builtin; refine wpList_appL (F := lvS) rfl _ (.tmp 47) (.tmp 49) 28 rfl _ 24 Try.underlying28 lvInfo rfl w.heap.size B k d ls rfl (HL3.out.below (ba1 _ _)) (some ⟨w3.heap.size, 0, none⟩) 1 1 [⟨x.l.take 100, A1, q, d1⟩] rfl (ls_new w3 _ _ _ rfl _ rfl) rfl (k + 1) rfl (by omega) (by omega) (by have := HB3.out.size; have := HBW.out.size; have := HB1.out.size; have := HB2.out.size; simp; omega) ?_; intro B4 d4 w4 ho4 hb4 hs4; have HO4 := Lib.hid ho4; have HB4 := Lib.hid hb4; have HS4 := Lib.hid hs4; clear ho4 hb4 hs4))
      go_roundw
      case rel =>
        have z0 := HBW.out.size
        have z1 := HB1.out.size
        have z2 := HB2.out.size
        have z3 := HB3.out.size
        have hL2 : LI w2 (fun j => (j < w.heap.size ∨ (Value.slice B k d).ownBlock = some j) ∨ (Value.slice A N c1).ownBlock = some j) (ls ++ [⟨x.l.take 100, A1, q, d1⟩]) := by
          refine LI.app (LI.mono ((HLI.out.new HB1.out).new HB2.out) (fun j hj => by
            rcases hj with (hj | hj) | hj
            · exact .inl (.inl (.inl hj))
            · exact .inl (.inr hj)
            · exact .inl (.inl (.inr hj)))) (LI.one HQ.out (HO1.out.ls.below HB2.out) ?_)
          refine (clear_of_own (HO1.out.below HB2.out).2 fun j hj => ?_)
          rcases hj with ((hj | hj) | hj) | hj
          · left; omega
          · left; exact (HOL.out.lt j hj).2
          · left; exact (HOW.out.lt j hj).2
          · exact .inr hj
        have hL3 := LI.grown hL2 HB3.out HS3.out
        have hL3' : LI w3 (fun j => (j < w.heap.size ∨ (Value.slice A3 (N + (4 + q)) c3).ownBlock = some j) ∨ (Value.slice B k d).ownBlock = some j) (ls ++ [⟨x.l.take 100, A1, q, d1⟩]) := LI.mono hL3 (fun j hj => by
            rcases hj with (hj | hj) | hj
            · exact .inl (.inl (.inl hj))
            · exact .inl (.inr hj)
            · exact .inl (.inl (.inr hj)))
        have hL4 := LI.grown (LI.new hL3' (ba1 w3 (.cells #[.slice A1 q d1] 22))) HB4.out HS4.out
        have hrow3 := fun j (hj : (Value.slice A3 (N + (4 + q)) c3).ownBlock = some j) => (HO3.out.lt j hj).2
        refine ⟨k + 1, N + (4 + q), A3, c3, ls ++ [⟨x.l.take 100, A1, q, d1⟩], B4, d4, by rw [← HKK.out]; omega, by go_num, rfl, rfl, HNN.out.symm, (HO3.out.below (ba1 _ _)).beside HS4.out HP3.out.symm, HO4.out, by rw [List.map_append, HLS.out, HT.out]; rfl, hL4, (HP3.out.symm).grow HS4.out (fun j hj => by have := hrow3 j hj; simp; omega), ?_⟩
        exact (((HBW.out.trans (HB1.out.mono z0)).trans (HB2.out.mono (by omega))).trans HB3.out).trans (((ba1 w3 _).mono (by omega)).trans HB4.out)
      case measure => simp [intOf]; omega
    · have hall : Hid (ts.take k = ts) := Lib.hid (List.take_of_length_le (by rw [← HKK.out]; omega))
      have hkK : k = K := by omega
      have HKE := Lib.hid hkK
      rw [hall.out] at HNE HOW HLS
      clear hkK
      have fin : ∀ (_ : Unit), RetW w ts (.returned (.tuple #[.slice A N c1, .slice B k d, .bool true])) wr := fun _ => by
        have e1 : k = ts.length := by rw [HKE.out, HKK.out]
        have e2 := HNE.out
        subst e1; subst e2
        exact ⟨HBW.out, A, c1, ls, B, d, rfl, HOW.out, HOL.out, HLS.out, HLI.out⟩
      have FIN := Lib.hid fin
      clear fin
      by_cases hkn : k < n
      · have hkni : (k : Int) < (n : Int) := by omega
        have hkmi : ¬ (k : Int) < (m : Int) := by omega
        go_wp2
        go_ret3
        exact FIN.out ()
      · have hkni : ¬ (k : Int) < (n : Int) := by omega
        go_wp2
        go_ret3
        exact FIN.out ()

theorem wrapped_v (L : Option Addr) (n c m : Nat) (l : List Lv) (w : World) (ts : List (List Int)) (N k : Nat) (hts : ts = cutd l m) (hN : Hid (N = (wraps ts).length)) (hk : Hid (k = ts.length)) (hl : Ls lvS w L l) (hn : l.length = n) (hin : LIn w l) (hm : m ≤ 1000) (h47 : n ≤ 5864062014634) :
    Calls Try.prog 14 #[.slice L n c, .int .i64 m] w fun e w' => Below w.heap.size w w' ∧ ∃ A c ls B d, e = .returned (.tuple #[.slice A N c, .slice B k d, .bool true]) ∧ OwnL byS 5 w' w.heap.size A N c (wraps ts) ∧
    OwnL lvS 22 w' w.heap.size B k d ls ∧ ls.map Lv.l = ts ∧ LI w' (fun j => (j < w.heap.size ∨ (Value.slice A N c).ownBlock = some j) ∨ (Value.slice B k d).ownBlock = some j) ls := by
  have := wrapped_any L n c m l w hl hn hin hm h47
  rw [← hts] at this
  unfold RetW at this
  rw [← hN.out, ← hk.out] at this
  exact this
theorem feed_v (w : World) (fs : List (List Int)) (rest : List Int) (k r : Nat) (hk : Hid (k = fs.length)) (hr : Hid (r = rest.length)) {e : Ending} {w' : World} (h : RetF w (some (fs, rest)) e w') :
    Below w.heap.size w w' ∧ ∃ A c ls B d, e = .returned (.tuple #[.slice A k c, .slice B r d, .int .i64 0]) ∧ OwnL lvS 22 w' w.heap.size A k c ls ∧ ls.map Lv.l = fs ∧
      LI w' (fun j => j < w.heap.size ∨ (Value.slice A k c).ownBlock = some j) ls ∧ OwnL byS 5 w' w.heap.size B r d rest := by
  unfold RetF at h
  simp only at h
  rw [← hk.out, ← hr.out] at h
  exact h

end Go.Proofs.Ytmeppeedbnnmjaa
