/-
  The document's bytesOf and textOf.
-/
import Derived.Test.YtelfnlocgknpjaaMFace
namespace Go.Proofs.Ytelfnlocgknpjaa
open Go.RowKit
set_option linter.unusedVariables false
set_option linter.unusedSimpArgs false

theorem Wh.own {e : TypeId} {w : World} {g n base : Nat} {l : List Int} (h : Wh byS e w g l) (hb : base ≤ g) (hn : l.length = n) (hm : n ≤ 1000000) : OwnL byS e w base (some ⟨g, 0, none⟩) n n l := by
  refine ⟨hn, by simp [byS.flat_len, hn], .inr ⟨g, n, (byS.flat l).toArray, rfl, hb, h, Nat.le_refl _, by simp only [maxLen]; omega, by simp [byS.flat_len, hn], ?_⟩⟩
  rw [List.take_of_length_le (by simp [byS.flat_len, hn])]
theorem be_at (k : Nat) (v : Int) (m : Nat) (h : m < k) : (be k v)[m]? = some (v / 256 ^ (k - 1 - m) % 256) := by
  unfold be; rw [List.getElem?_map, List.getElem?_range h]; rfl
theorem rows_set (k : Nat) (v : Int) (m : Nat) (h : m < k) : (List.replicate (m + 1) 0 ++ (be k v).drop (m + 1)).set m (v / 256 ^ (k - 1 - m) % 256) = List.replicate m 0 ++ (be k v).drop m := by
  apply List.ext_getElem?
  intro i
  rw [List.getElem?_set]
  rcases Nat.lt_trichotomy i m with g | g | g
  · rw [if_neg (by omega), List.getElem?_append_left (by simp; omega), List.getElem?_append_left (by simp; omega), List.getElem?_replicate, List.getElem?_replicate, if_pos (by omega), if_pos g]
  · subst g
    rw [if_pos rfl, if_pos (by simp; omega), List.getElem?_append_right (by simp), List.length_replicate, Nat.sub_self, List.getElem?_drop, Nat.add_zero, be_at k v i h]
  · rw [if_neg (by omega), List.getElem?_append_right (by simp; omega), List.getElem?_append_right (by simp; omega), List.length_replicate, List.length_replicate, List.getElem?_drop, List.getElem?_drop]
    congr 1
    omega
set_option maxHeartbeats 4000000 in
theorem bytesOf_any (k : Nat) (v : Int) (w : World) (hk : k ≤ 4) (h0 : 0 ≤ v) (h1 : v ≤ 9223372036854775807) :
    Calls Try.prog 31 #[.int .i64 v, .int .i64 k] w fun e w' => e = .returned (.slice (some ⟨w.heap.size, 0, none⟩) k k) ∧ Wh byS 5 w' w.heap.size (be k v) ∧ Below w.heap.size w w' := by
  obtain ⟨G, hG⟩ : ∃ G, G = w.heap.size := ⟨_, rfl⟩
  have HG := Lib.hid hG
  have HBL : Hid ((be k v).length = k) := Lib.hid (be_len k v)
  have HD0 : Hid (v = v / 256 ^ (k - k)) := Lib.hid (by simp)
  clear hG
  go_enter Try.func31, Try.ntmps31
  go_upto_block 1 with (at_make; refine wpList_makeW (F := byS) rfl w (.tmp 7) (.tmp 7) 22 rfl (.int .u8 0) 1 Try.underlying22 byInfo (fun z => .int .u8 z) (fun _ => rfl) 0 rfl _ _ _ _ k rfl rfl rfl rfl (by omega) (by omega) ?_; rw [← HG.out]; intro w1 hw1 hb1 hs1; have HW1 := Lib.hid hw1; have HB1 : Hid (Below w.heap.size w w1) := Lib.hid (by rw [← HG.out]; exact hb1); clear hw1 hb1)
  go_loopw [0, 6] (fun n i wr => ∃ m : Nat, m ≤ k ∧ i = .int .i64 ((m : Int) - 1) ∧ n = .int .i64 (v / 256 ^ (k - m)) ∧ Wh byS 5 wr G (List.replicate m 0 ++ (be k v).drop m) ∧ Only (fun j => j = G) w1 wr) (fun _ i _ => (intOf i + 1).toNat)
  case atStart => exact ⟨k, Nat.le_refl _, rfl, by rw [← HD0.out], by rw [List.drop_of_length_le (by rw [HBL.out]; exact Nat.le_refl _), List.append_nil]; exact HW1.out, Only.refl _ _⟩
  case round =>
    obtain ⟨m, hm, rfl, rfl, hw, hon⟩ := hrel
    have HW := Lib.hid hw
    have HON := Lib.hid hon
    have lw := hw.lt
    have zw := hw.soft
    clear hw hon
    rcases m with _ | m
    · go_wp2_with fail
      go_ret
      refine ⟨by rw [HG.out]; rfl, ?_, HB1.out.trans (HON.out.below (fun j hj => by have hj : j = G := hj; have := HG.out; omega) HB1.out.size)⟩
      have h := HW.out
      simp only [List.replicate_zero, List.nil_append, List.drop_zero] at h
      rw [← HG.out]
      exact h
    · have hi : (((m + 1 : Nat) : Int) - 1) = (m : Int) := by omega
      obtain ⟨q, hq⟩ : ∃ q, q = v / 256 ^ (k - (m + 1)) := ⟨_, rfl⟩
      have hq0 : 0 ≤ q := by rw [hq]; exact Int.ediv_nonneg h0 (by exact Int.le_of_lt (Int.pow_pos (by decide)))
      have hq1 : q ≤ 9223372036854775807 := by
        have : q ≤ v := by rw [hq]; exact Int.ediv_le_self _ h0
        omega
      have hrem : q.tmod 256 = q % 256 := Int.tmod_eq_emod_of_nonneg hq0
      have hdiv : q.tdiv 256 = q / 256 := Int.tdiv_eq_ediv_of_nonneg hq0
      have hwr : IntKind.u8.wrap (q % 256) = q % 256 := by simp [IntKind.wrap, IntKind.signed, IntKind.bits]
      have hc := HW.out.cell (fun z => .int .u8 z) (fun _ => rfl) m 0 (by rw [List.getElem?_append_left (by simp), List.getElem?_replicate, if_pos (by omega)])
      have hz := zw m
      have HP := Lib.hid (HW.out.put (fun z => .int .u8 z) (fun _ => rfl) m (q % 256))
      have HQ : Hid (q / 256 = v / 256 ^ (k - m)) := Lib.hid (by
        rw [hq, show k - m = (k - (m + 1)) + 1 by omega, Int.pow_succ, Int.ediv_ediv_of_nonneg (by exact Int.le_of_lt (Int.pow_pos (by decide)))])
      have HR : Hid ((List.replicate (m + 1) 0 ++ (be k v).drop (m + 1)).set m (q % 256) = List.replicate m 0 ++ (be k v).drop m) := Lib.hid (by
        rw [hq, show k - (m + 1) = k - 1 - m by omega]; exact rows_set k v m (by omega))
      rw [← hq, hi]
      clear hq zw
      have hmk : (m : Int) < (k : Int) := by omega
      go_wp2_with fail
      refine ⟨⟨m, by omega, by go_num, by rw [← HQ.out], by rw [← HR.out]; exact HP.out, HON.out.setCell (.inl rfl) _⟩, by simp [intOf]⟩

theorem textOf_any (s : Byt) (w : World) (hs : s.length ≤ 1000000) :
    Calls Try.prog 33 #[.string (tx s)] w fun e w' => Below w.heap.size w w' ∧ ∃ A c, e = .returned (.slice A (2 + s.length) c) ∧ OwnL byS 5 w' w.heap.size A (2 + s.length) c (enc (ofT s)) := by
  have hsz : (tx s).size = s.length := tx_size s
  have HBO : Hid (Calls Try.prog 31 #[.int .i64 (s.length : Int), .int .i64 2] w fun e w' => e = .returned (.slice (some ⟨w.heap.size, 0, none⟩) 2 2) ∧ Wh byS 5 w' w.heap.size (be 2 (s.length : Int)) ∧ Below w.heap.size w w') := Lib.hid (bytesOf_any 2 s.length w (by omega) (by omega) (by omega))
  have HE : Hid (be 2 (s.length : Int) ++ ofT s = enc (ofT s)) := Lib.hid (by unfold enc; rw [ofT_len])
  go_enter Try.func33, Try.ntmps33
  go_wp2_with (first
    | (go_at_call 31; (with_reducible refine HBO.out.mono ?_); rintro e w1 ⟨rfl, hw1, hb1⟩; have HO1 := Lib.hid (hw1.own (Nat.le_refl _) (be_len _ _) (by omega)); have HB1 := Lib.hid hb1; clear hw1 hb1)
    | (at_builtin; refine wpList_appT rfl w1 (.tmp 5) (.tmp 6) 22 9 5 rfl Try.underlying22 Try.underlying9 byInfo w.heap.size _ 2 2 _ rfl HO1.out s rfl (2 + s.length) rfl (by omega) (HB1.out.size) ?_; intro A2 c2 w2 ho2 hb2 _; rw [HE.out] at ho2; have HO2 := Lib.hid ho2; have HB2 := Lib.hid hb2; clear ho2 hb2))
  go_ret
  exact ⟨HB1.out.trans HB2.out, A2, c2, rfl, HO2.out⟩

end Go.Proofs.Ytelfnlocgknpjaa
