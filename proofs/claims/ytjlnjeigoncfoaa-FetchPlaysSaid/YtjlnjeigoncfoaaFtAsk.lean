/-
  The program's file: ask, stop, askOn.
-/
import Derived.Test.YtjlnjeigoncfoaaFtMem
import Derived.Test.YtjlnjeigoncfoaaTool
namespace Go.Proofs.Ytjlnjeigoncfoaa
open Go.RowKit
set_option linter.unusedVariables false
set_option linter.unusedSimpArgs false

set_option maxHeartbeats 2000000 in
theorem ask_any (w : World) (T : Nat → Prop) (B : Nat) (s : Fs) (h : FM w T B s) (hl : s.out.length ≤ 100) (hT : ∀ k, T k → k < w.heap.size) (at_ cnt : Int) :
    Calls Try.prog 23 #[.pointer (some ⟨B, 0, none⟩), .int .i64 at_, .int .i64 cnt] w (RetU w T B (askT (at_, cnt) s)) := by
  obtain ⟨A, c, ⟨c0, c1, c2, c3⟩, hf, hO, hY⟩ := h.cells
  have f0 := hf 2148
  have hB := h.lt
  have H := Lib.hid h
  have HO := Lib.hid hO
  have HC0 := Lib.hid c0
  have HT := Lib.hid hT
  obtain ⟨n, hn⟩ : ∃ n, n = s.out.length := ⟨_, rfl⟩
  have HN := Lib.hid hn
  rw [← hn] at hl HO c0 HC0
  clear h hf hO hY hT hn c1 c2 c3
  go_enter Try.func23, Try.ntmps23
  go_wp2_with (at_builtin; refine wpList_appL (F := wtS) rfl _ (.tmp 10) (.tmp 14) 27 rfl _ 16 Try.underlying27 wtInfo rfl (B + 1) A n c s.out rfl (HO.out.below (ba1 _ _)) (some ⟨w.heap.size, 0, none⟩) 1 1 [(at_, cnt)] rfl (ls_new w _ _ _ rfl _ rfl) rfl (n + 1) rfl (by omega) (by omega) (by simp; omega) ?_; intro A4 g4 w4 ho4 hb4 hs4; have O4 := Lib.hid ho4; have HB4 := Lib.hid hb4; have HS4 := Lib.hid hs4; have hbA := ((ba1 w _).mono (Nat.succ_le_of_lt hB)).trans hb4; have f04 : w4.frozen? ⟨B, 2148, none⟩ = false := (by rw [← f0]; simp [World.frozen?, hbA.block B (Nat.lt_succ_self B)]); have c04 := (hbA.cell (p := ⟨B, 2148, none⟩) (Nat.lt_succ_self B)).trans c0; clear hbA; clear ho4 hb4 hs4)
  go_end0
  have hsz := (ba1 w (.cells #[Value.int IntKind.i64 at_, Value.int IntKind.i64 cnt] 33)).size
  have hon : Only (fun k => (Value.slice A s.out.length c).ownBlock = some k) w w4 := by
    rw [← HN.out]
    exact (only_new (ba1 w _)).trans (HS4.out.only HB4.out) (fun j hj => .inl hj)
  obtain ⟨q1, q2⟩ := H.out.row (s' := askT (at_, cnt) s) A c (by rw [← HN.out]; exact HC0.out) A4 (n + 1) g4 ⟨rfl, rfl, rfl, rfl⟩ (by simp [askT, HN.out]) hon O4.out (fun k hk => by
    rcases HS4.out.own k hk with g | g
    · rw [← HN.out]; exact .inl g
    · exact .inr (Nat.le_trans hsz g)) HT.out
  exact ⟨rfl, q1, q2⟩

set_option maxHeartbeats 2000000 in
theorem stop_any (w : World) (T : Nat → Prop) (B : Nat) (s : Fs) (h : FM w T B s) (hT : ∀ k, T k → k < w.heap.size) (at_ : Int) :
    Calls Try.prog 22 #[.pointer (some ⟨B, 0, none⟩), .int .i64 at_] w (RetU w T B (stopT at_ s)) := by
  obtain ⟨A, c, ⟨c0, c1, c2, c3⟩, hf, hO, hY⟩ := h.cells
  have f2 := hf 2150
  have f3 := hf 2151
  have hB := h.lt
  have H := Lib.hid h
  have HT := Lib.hid hT
  have fin : ∀ s', stopT at_ s = s' → (s' = { s with ended := true, fin := at_ }) → RetU w T B (stopT at_ s) (.returned (.tuple #[])) ((w.setCell ⟨B, 2150, none⟩ (.bool true)).setCell ⟨B, 2151, none⟩ (.int .i64 at_)) := fun s' e1 e2 => by
    rw [e1, e2]
    have q1 : FM (w.setCell ⟨B, 2150, none⟩ (.bool true)) T B { s with ended := true } := H.out.set 2 (.bool true) rfl rfl (fun A c => rfl)
    have q2 : FM ((w.setCell ⟨B, 2150, none⟩ (.bool true)).setCell ⟨B, 2151, none⟩ (.int .i64 at_)) T B { s with ended := true, fin := at_ } := q1.set 3 (.int .i64 at_) rfl rfl (fun A c => rfl)
    exact ⟨rfl, q2, ((Only.refl _ _).setCell (.inl ⟨Nat.le_refl _, H.out.notT⟩) _).setCell (.inl ⟨Nat.le_refl _, H.out.notT⟩) _⟩
  have FIN := Lib.hid fin
  clear h hf hO hY hT fin c0 c1
  by_cases he : s.ended = true
  · rw [he] at c2
    by_cases hl : at_ < s.fin
    · have FE : Hid (stopT at_ s = { s with ended := true, fin := at_ }) := Lib.hid (by unfold stopT; rw [if_pos (by simp [hl])])
      clear he
      go_enter Try.func22, Try.ntmps22
      go_wp2_with fail
      go_end0
      exact FIN.out _ FE.out rfl
    · have FE : Hid (stopT at_ s = s) := Lib.hid (by unfold stopT; rw [if_neg (by simp [hl, he])])
      clear he
      go_enter Try.func22, Try.ntmps22
      go_wp2_with fail
      go_end0
      rw [FE.out]
      exact ⟨rfl, H.out, Only.refl _ _⟩
  · have he' : s.ended = false := by simpa using he
    rw [he'] at c2
    have FE : Hid (stopT at_ s = { s with ended := true, fin := at_ }) := Lib.hid (by unfold stopT; rw [if_pos (by simp [he'])])
    clear he he'
    go_enter Try.func22, Try.ntmps22
    go_wp2_with fail
    go_end0
    exact FIN.out _ FE.out rfl

end Go.Proofs.Ytjlnjeigoncfoaa
