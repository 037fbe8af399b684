/-
  packthreadkeep.joined; the walks of CleanFixed and FollowTwo.
-/
import Derived.Test.YtdoocbaojmjpaaaDoorFollow
import Derived.Test.YtdoocbaojmjpaaaDoorJoin
import Derived.Test.YtdoocbaojmjpaaaDoorStKeep
import Derived.Test.YtdoocbaojmjpaaaDoorPathOf
namespace Go.Proofs.YtdoocbaojmjpaaaDoor
open Go.RowKit
set_option linter.unusedVariables false
set_option linter.unusedSimpArgs false

theorem pathOf_k (A : Option Addr) (n c : Nat) (l : List Int) (N : Nat) (K : Int) (w : World) (hb : Is w A l) (hn : l.length = n) (hN : N ≤ 9) (hK : K = (N : Int)) :
    Calls Tryd.prog 13 #[.slice A n c, .int .i64 K] w fun e w' => e = .returned (.string (tx (joinP (drawns l N)))) ∧ Below w.heap.size w w' := by rw [hK]; exact pathOf_any A n c l N w hb hn hN
/-- Clean of a path that leads somewhere, with the number of names under a name -/
theorem clean_at (p : Byt) (l : List Byt) (n : Nat) (w : World) (hp : pfrom [] p = .ok l) (hn : Hid (l.length = n)) :
    Calls Tryd.prog 8 #[.string (tx p)] w fun e w' => ∃ A c, e = .returned (.tuple #[.slice A n c, .int .i64 0]) ∧ OwnL stS 9 w' w.heap.size A n c l ∧ Below w.heap.size w w' := by
  refine (clean_any p w).mono ?_
  rw [hp]
  rintro e w' ⟨hb, A, c, rfl, ho⟩
  rw [hn.out] at ho ⊢
  exact ⟨A, c, rfl, ho, hb⟩
theorem follow_at (A : Option Addr) (n c : Nat) (l : List Byt) (p : Byt) (o : List Byt) (m : Nat) (w : World) (hb : Ls stS w A l) (hn : l.length = n) (hp : pfollow l p = .ok o) (hm : Hid (o.length = m)) :
    Calls Tryd.prog 11 #[.slice A n c, .string (tx p)] w fun e w' => ∃ A c, e = .returned (.tuple #[.slice A m c, .int .i64 0]) ∧ OwnL stS 9 w' w.heap.size A m c o ∧ Below w.heap.size w w' := by
  refine (follow_any A n c l p w hb hn).mono ?_
  rw [hp]
  rintro e w' ⟨hb, A, c, rfl, ho⟩
  rw [hm.out] at ho ⊢
  exact ⟨A, c, rfl, ho, hb⟩

theorem joined_any (A : Option Addr) (n c : Nat) (l : List Byt) (w : World) (hb : Ls stS w A l) (hn : l.length = n) (hc : n ≤ c) (hk : Clean_ l) (h200 : (joinN l).length ≤ 200) :
    Calls Tryd.prog 16 #[.slice A n c] w fun e w' => e = .returned (.bool true) ∧ Below w.heap.size w w' := by
  have HA := Lib.hid hb
  have HN := Lib.hid hn
  have hn12 : n ≤ 12 := by have := hk.1; omega
  have HJ := Lib.hid (join_ok A n c l w hb hn hc hk)
  have HC := Lib.hid (fun wx => clean_at (joinN l) l n wx (clean_join hk h200) HN)
  have HX := Lib.hid (fun (wx : World) => join_ok (some ⟨wx.heap.size, 0, none⟩) 2 2 [[120], [121]] (wx.alloc (.cells #[.string ⟨#[120]⟩, .string ⟨#[121]⟩] 9)) (ls_new wx _ _ _ rfl _ rfl) rfl (Nat.le_refl _) clean_xy)
  rw [joinN_xy] at HX
  obtain ⟨J, hJ⟩ : ∃ J, joinN l = J := ⟨_, rfl⟩
  rw [hJ] at HJ HC
  have hT := tx_toList [47, 120, 47, 121]
  clear hb hn hJ h200
  go_enter Tryd.func16, Tryd.ntmps16
  go_wp2_with (first
    | (go_at_call 8; refine (HC.out w1).mono ?_; rintro e w2 ⟨A2, c2, rfl, ho2, hb2⟩; have HO2 := Lib.hid ho2; have HB2 := Lib.hid hb2; clear ho2 hb2)
    | (go_at_call 14; (with_reducible refine HJ.out.mono ?_); rintro e w1 ⟨rfl, hb1⟩; have HB1 := Lib.hid hb1; clear hb1)
    | (go_at_call 14; (with_reducible refine (HX.out w2).mono ?_); rintro e w3 ⟨rfl, hb3⟩; have HB3 := Lib.hid hb3; clear hb3)
    | (go_at_call 15; refine (texts_keep A n c A2 c2 l w3 (((HA.out.below HB1.out).below HB2.out).below (ba1 _ _) |>.below HB3.out) ((HO2.out.below (ba1 _ _)).below HB3.out).ls HN.out (by omega)).mono ?_; rintro e w4 ⟨rfl, hb4⟩; have HB4 := Lib.hid hb4; clear hb4))
  go_ret
  exact ⟨rfl, bthen (bthen (bthen (bthen HB1.out HB2.out) (ba1 _ _)) HB3.out) HB4.out⟩

end Go.Proofs.YtdoocbaojmjpaaaDoor
