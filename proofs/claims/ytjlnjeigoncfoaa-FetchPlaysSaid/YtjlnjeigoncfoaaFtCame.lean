/-
  The program's file: whether all of it came.
-/
import Derived.Test.YtjlnjeigoncfoaaFtOn
namespace Go.Proofs.Ytjlnjeigoncfoaa
open Go.RowKit
set_option linter.unusedVariables false
set_option linter.unusedSimpArgs false

def missF (Q : Nat) : Value := .func (.func 24) #[] #[.pointer (some ⟨Q, 0, none⟩)]
/-- the file's end, by a variable that leads to it -/
def Fend (w : World) (Q B : Nat) (fin : Int) : Prop := Q < w.heap.size ∧ B < w.heap.size ∧ w.cell? ⟨Q, 0, none⟩ = some (.pointer (some ⟨B, 0, none⟩)) ∧ w.cell? ⟨B, 2151, none⟩ = some (.int .i64 fin)
theorem Fend.below {w w' : World} {Q B : Nat} {fin : Int} (h : Fend w Q B fin) (hb : Below w.heap.size w w') : Fend w' Q B fin := by
  obtain ⟨h1, h2, h3, h4⟩ := h
  exact ⟨Nat.lt_of_lt_of_le h1 hb.size, Nat.lt_of_lt_of_le h2 hb.size, (hb.cell (p := ⟨Q, 0, none⟩) h1).trans h3, (hb.cell (p := ⟨B, 2151, none⟩) h2).trans h4⟩
set_option maxHeartbeats 2000000 in
theorem miss_clos (a k fin : Int) (Q B : Nat) (w : World) (hq : Fend w Q B fin) (v : Bool) (hv : decide (a < fin) = v) :
    Calls Try.prog 24 #[.agg #[.int .i64 a, .int .i64 k], .pointer (some ⟨Q, 0, none⟩)] w fun e w' => e = .returned (.bool v) ∧ Below w.heap.size w w' := by
  obtain ⟨h1, h2, c1, c2⟩ := hq
  have HV := Lib.hid hv
  clear hv
  go_enter Try.func24, Try.ntmps24
  go_upto_region 1 with fail
  go_quiet (fail)
  go_wp2_with fail
  go_ret
  rw [HV.out]
  exact ⟨rfl, below_drewN (ba1 _ _) _⟩
def anyM (fin : Int) (l : List Wt) : Bool := l.any fun w => decide (w.1 < fin)
theorem miss_index (A : Option Addr) (n c : Nat) (l : List Wt) (Q B : Nat) (fin : Int) (w : World) (hq : Fend w Q B fin) (hb : Ls wtS w A l) (hn : l.length = n) (h47 : n ≤ 1000) :
    Calls Try.prog 26 #[.slice A n c, missF Q] w fun e w' => (∃ i : Int, e = .returned (.int .i64 i) ∧ (anyM fin l = false ∧ i = -1 ∨ anyM fin l = true ∧ 0 ≤ i)) ∧ Below w.heap.size w w' := by
  have HB := Lib.hid hb; have HN := Lib.hid hn; have HO := Lib.hid hq
  clear hb hn hq
  unfold missF anyM
  go_enter Try.func26, Try.ntmps26
  go_wp2
  go_loopw [8] (fun i wr => ∃ k : Nat, k ≤ n ∧ i = .int .i64 k ∧ (l.take k).any (fun q => decide (q.1 < fin)) = false ∧ Below w.heap.size w wr) (fun i _ => n - (intOf i).toNat)
  case atStart => exact ⟨0, Nat.zero_le _, rfl, rfl, Below.refl _ _⟩
  case round =>
    obtain ⟨k, hk, rfl, hy, hb3⟩ := hrel
    have HY := Lib.hid hy
    have HB3 := Lib.hid hb3
    clear hy hb3
    by_cases hlt : k < n
    · obtain ⟨⟨p, e0⟩, hx⟩ : ∃ x, l[k]? = some x := ⟨_, List.getElem?_eq_getElem (by rw [HN.out]; exact hlt)⟩
      obtain ⟨b, o, rfl, hbs, hcc⟩ := (HB.out.below HB3.out).at k _ hx
      have hc1 := hcc 0 (.int .i64 p) rfl
      have hc2 := hcc 1 (.int .i64 e0) rfl
      simp only [wtS, Nat.add_zero] at hc1 hc2
      have hki : (k : Int) < (n : Int) := by omega
      have ht : Hid ((l.take (k + 1)).any (fun q => decide (q.1 < fin)) = decide (p < fin)) := Lib.hid (by
        rw [List.take_add_one, hx, List.any_append, HY.out]; simp)
      have HOr := Lib.hid (HO.out.below HB3.out)
      have HX := Lib.hid hx
      clear hcc hx
      rcases hok : decide (p < fin) with _ | _
      · have HOK := Lib.hid hok
        have HCALL := Lib.hid (miss_clos p e0 fin Q B wr HOr.out false hok)
        clear hok
        go_wp2_with (go_at_call 24; refine HCALL.out.mono ?_; rintro e w' ⟨rfl, hb4⟩; have HB4 := Lib.hid hb4; clear hb4)
        exact ⟨⟨k + 1, by omega, by go_num, by rw [ht.out]; exact HOK.out, bthen HB3.out HB4.out⟩, by simp [intOf]; omega⟩
      · have HOK := Lib.hid hok
        have HCALL := Lib.hid (miss_clos p e0 fin Q B wr HOr.out true hok)
        clear hok
        go_wp2_with (go_at_call 24; refine HCALL.out.mono ?_; rintro e w' ⟨rfl, hb4⟩; have HB4 := Lib.hid hb4; clear hb4)
        go_ret
        refine ⟨⟨k, rfl, .inr ⟨?_, by omega⟩⟩, bthen HB3.out HB4.out⟩
        rw [← List.take_append_drop (k + 1) l, List.any_append, ht.out, HOK.out]; rfl
    · have hall : l.any (fun q => decide (q.1 < fin)) = false := by rw [← HY.out, List.take_of_length_le (by rw [HN.out]; omega)]
      have HA := Lib.hid hall
      clear hall
      go_wp2
      go_ret
      exact ⟨⟨-1, rfl, .inl ⟨HA.out, rfl⟩⟩, HB3.out⟩
theorem miss_contains (A : Option Addr) (n c : Nat) (l : List Wt) (Q B : Nat) (fin : Int) (w : World) (hq : Fend w Q B fin) (hb : Ls wtS w A l) (hn : l.length = n) (h47 : n ≤ 1000) (v : Bool) (hv : v = anyM fin l) :
    Calls Try.prog 25 #[.slice A n c, missF Q] w fun e w' => e = .returned (.bool v) ∧ Below w.heap.size w w' := by
  have HIX := Lib.hid (miss_index A n c l Q B fin w hq hb hn h47)
  have HV := Lib.hid hv
  clear hb hn hv hq
  unfold missF at HIX ⊢
  go_enter Try.func25, Try.ntmps25
  go_wp2_with (go_at_call 26; refine HIX.out.mono ?_; rintro e w1 ⟨⟨i, rfl, hi⟩, hb1⟩; have HI := Lib.hid hi; have HB1 := Lib.hid hb1; clear hi hb1)
  go_ret
  refine ⟨?_, HB1.out⟩
  rw [HV.out]
  rcases HI.out with ⟨h1, rfl⟩ | ⟨h1, h2⟩
  · simp [h1]
  · simp [h1]; omega
set_option maxHeartbeats 2000000 in
theorem came_any (w : World) (T : Nat → Prop) (B : Nat) (s : Fs) (h : FM w T B s) (hs : FsOk s) (v : Bool) (hv : came s = v) :
    Calls Try.prog 18 #[.pointer (some ⟨B, 0, none⟩)] w fun e w' => e = .returned (.bool v) ∧ Below w.heap.size w w' := by
  obtain ⟨A, c, ⟨c0, c1, c2, c3⟩, hf, hO, hY⟩ := h.cells
  have hB := h.lt
  have hfew := hs.few
  obtain ⟨Q, hQ⟩ : ∃ Q, Q = w.heap.size := ⟨_, rfl⟩
  obtain ⟨w1, hw1⟩ : ∃ w1, w1 = w.alloc (.cells #[.pointer (some ⟨B, 0, none⟩)] 51) := ⟨_, rfl⟩
  have HB1 : Hid (Below w.heap.size w w1) := Lib.hid (by rw [hw1]; exact ba1 _ _)
  have HX : Hid (Bx 51 w1 Q #[.pointer (some ⟨B, 0, none⟩)]) := Lib.hid (by rw [hw1, hQ]; exact bx_new _ _ _)
  have hFE : Fend w1 Q B s.fin := ⟨HX.out.lt, Nat.lt_of_lt_of_le hB HB1.out.size, HX.out.cell 0 _ rfl, (HB1.out.cell (p := ⟨B, 2151, none⟩) hB).trans c3⟩
  have hL := (hO.below HB1.out).ls
  rcases he : s.ended with _ | _
  · rw [he] at c2
    obtain rfl : v = false := by rw [← hv]; unfold came; rw [he]; rfl
    clear hf hO hY hs hv hFE hL he c0 c1 c3
    have c2' := (HB1.out.cell (p := ⟨B, 2150, none⟩) hB).trans c2
    have hQl := HX.out.lt
    have q0 := HX.out.cell 0 _ rfl
    go_enter Try.func18, Try.ntmps18
    go_upto_region 2 with fail
    rw [← hw1, ← hQ]
    clear hw1 hQ
    go_wp2_with fail
    go_ret
    exact ⟨rfl, HB1.out⟩
  · rw [he] at c2
    have HCN : Hid (Calls Try.prog 25 #[.slice A s.out.length c, missF Q] w1 fun e w' => e = .returned (.bool (!v)) ∧ Below w1.heap.size w1 w') := Lib.hid (miss_contains A _ c s.out Q B s.fin w1 hFE hL rfl (by omega) _ (by rw [← hv]; unfold came anyM; rw [he]; simp))
    have c0' := (HB1.out.cell (p := ⟨B, 2148, none⟩) hB).trans c0
    have c2' := (HB1.out.cell (p := ⟨B, 2150, none⟩) hB).trans c2
    have hQl := HX.out.lt
    have q0 := HX.out.cell 0 _ rfl
    obtain ⟨n, hn⟩ : ∃ n, n = s.out.length := ⟨_, rfl⟩
    rw [← hn] at c0' HCN
    unfold missF at HCN
    clear hf hO hY hs hv hFE hL he c0 c1 c2 c3 hn
    go_enter Try.func18, Try.ntmps18
    go_upto_region 2 with fail
    rw [← hw1, ← hQ]
    clear hw1 hQ
    go_wp2_with (go_at_call 25; (with_reducible refine HCN.out.mono ?_); rintro e w2 ⟨rfl, hb2⟩; have HB2 := Lib.hid hb2; clear hb2)
    go_ret
    exact ⟨by simp, bthen HB1.out HB2.out⟩

end Go.Proofs.Ytjlnjeigoncfoaa
