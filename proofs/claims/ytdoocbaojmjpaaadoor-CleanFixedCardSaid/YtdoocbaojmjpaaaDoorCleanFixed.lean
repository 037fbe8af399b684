/-
  The walk of CleanFixed.
-/
import Derived.Test.YtdoocbaojmjpaaaDoorPathKeep
namespace Go.Proofs.YtdoocbaojmjpaaaDoor
open Go.RowKit
set_option linter.unusedVariables false
set_option linter.unusedSimpArgs false

theorem clean_bad (p : Byt) (c : Int) (w : World) (hp : pfrom [] p = .error c) :
    Calls Tryd.prog 8 #[.string (tx p)] w fun e w' => e = .returned (.tuple #[.slice none 0 0, .int .i64 c]) ∧ Below w.heap.size w w' := by
  refine (clean_any p w).mono ?_
  rw [hp]
  rintro e w' ⟨hb, rfl⟩
  exact ⟨rfl, hb⟩
theorem pfrom_long' {p : Byt} (h : 200 < p.length) : pfrom [] p = .error 1 := by unfold pfrom; rw [if_pos h]
theorem pfrom_code {p : Byt} {c : Int} (h : pfrom [] p = .error c) : c ≠ 0 := by
  have st : ∀ (out : List Byt) (x : Byt) (e : Int), pstep out x = .error e → e ≠ 0 := by
    intro out x e he
    unfold pstep at he
    split at he
    · cases he
    · split at he
      · cases he
      · split at he
        · injection he with he; omega
        · split at he
          · injection he with he; omega
          · cases he
  have fo : ∀ (ps out : List Byt) (e : Int), pfold out ps = .error e → e ≠ 0 := by
    intro ps
    induction ps with
    | nil => intro out e he; cases he
    | cons x r ih =>
      intro out e he
      simp only [pfold] at he
      rcases hs : pstep out x with e' | o
      · rw [hs] at he; injection he with he; subst he; exact st _ _ _ hs
      · rw [hs] at he; exact ih o e he
  unfold pfrom at h
  split at h
  · injection h with h; omega
  · exact fo _ _ _ h

set_option maxRecDepth 100000 in
set_option maxHeartbeats 4000000 in
theorem walkCleanFixed (s : ByteArray) (L : Option Addr) (q d : Nat) (l : List Int) (w : World) (hb : Is w L l) (hn : l.length = q) (hc : q ≤ d) (hr : d ≤ 17592186043904) :
    Calls Tryd.prog 5 #[.string s, .slice L q d] w fun e w' => e = .returned (.bool true) ∧ Below w.heap.size w w' := by
  obtain ⟨p, rfl⟩ : ∃ p, s = tx p := ⟨_, tx_of s⟩
  have HP := Lib.hid (pathOf_any L q d l 9 w hb hn (by omega))
  obtain ⟨a, h1, hca, hal, h200⟩ := clean_drawn (drawns_tame l 9) (drawns_len l 9)
  obtain ⟨P, hP⟩ : ∃ P, joinP (drawns l 9) = P := ⟨_, rfl⟩
  obtain ⟨n, hN⟩ : ∃ n, a.length = n := ⟨_, rfl⟩
  have HN := Lib.hid hN
  have hn12 : n ≤ 12 := by have := hca.1; omega
  rw [hP] at HP h1
  have HC1 := Lib.hid (fun wx => clean_at P a n wx h1 HN)
  have HJ := Lib.hid (fun A c wx base (ho : OwnL stS 9 wx base A n c a) => join_ok A n c a wx ho.ls HN.out ho.cap hca)
  have HC2 := Lib.hid (fun wx => clean_at (joinN a) a n wx (clean_join hca h200) HN)
  obtain ⟨r, hjr⟩ := joinN_head a
  obtain ⟨J, hJ⟩ : ∃ J, joinN a = J := ⟨_, rfl⟩
  rw [hJ] at HJ HC2 hjr
  have hjz := tx_size J
  have hjg := bn_get J
  have hj0 : bn J 0 = 47 := by rw [hjr]; rfl
  have hjl : 0 < J.length := by rw [hjr]; simp
  obtain ⟨m, hm⟩ : ∃ m, J.length = m := ⟨_, rfl⟩
  rw [hm] at hjz hjl
  have hji : (0 : Int) < (m : Int) := by omega
  have hjne : ((m : Int) == 0) = false := by simp; omega
  have hb47 : ((47 : Int) != 47) = false := by simp
  clear hb hn hP h1 hal h200 hjr hJ hm hN hca
  rcases hp : pfrom [] p with er | cc
  · have HE := Lib.hid (fun wx => clean_bad p er wx hp)
    have h0 := pfrom_code hp
    have h0b : (er == 0) = false := by simpa using h0
    have h0c : (er != 0) = true := by simpa using h0
    clear hp h0
    go_enter Tryd.func5, Tryd.ntmps5
    go_wp2_with (first
      | (go_at_call 13; refine HP.out.mono ?_; rintro e w1 ⟨rfl, hb1⟩; have HB1 := Lib.hid hb1; clear hb1)
      | (go_at_call 8; (with_reducible refine (HC1.out w1).mono ?_); rintro e w2 ⟨A2, c2, rfl, ho2, hb2⟩; have HO2 := Lib.hid ho2; have HB2 := Lib.hid (bthen HB1.out hb2); clear ho2 hb2)
      | (go_at_call 14; (with_reducible refine (HJ.out A2 c2 w2 _ HO2.out).mono ?_); rintro e w3 ⟨rfl, hb3⟩; have HB3 := Lib.hid (bthen HB2.out hb3); have HO3 := Lib.hid (HO2.out.below hb3); clear hb3)
      | (go_at_call 8; (with_reducible refine (HC2.out w3).mono ?_); rintro e w4 ⟨A4, c4, rfl, ho4, hb4⟩; have HO4 := Lib.hid ho4; have HB4 := Lib.hid (bthen HB3.out hb4); have HO34 := Lib.hid (HO3.out.below hb4); clear ho4 hb4)
      | (go_at_call 15; (with_reducible refine (texts_keep A2 n c2 A4 c4 a w4 HO34.out.ls HO4.out.ls HN.out (by omega)).mono ?_); rintro e w5 ⟨rfl, hb5⟩; have HB5 := Lib.hid (bthen HB4.out hb5); clear hb5)
      | (go_at_call 8; (with_reducible refine (HE.out w5).mono ?_); rintro e w6 ⟨rfl, hb6⟩; have HB6 := Lib.hid (bthen HB5.out hb6); clear hb6))
    go_ret
    exact ⟨rfl, HB6.out⟩
  · have hcc := pfrom_clean clean_nil hp
    obtain ⟨v, hv⟩ : ∃ v, cc.length = v := ⟨_, rfl⟩
    have HV := Lib.hid hv
    have hv12 : v ≤ 12 := by have := hcc.1; omega
    have HE := Lib.hid (fun wx => clean_at p cc v wx hp HV)
    have HK := Lib.hid (fun A c wx base (ho : OwnL stS 9 wx base A v c cc) => join_ok A v c cc wx ho.ls HV.out ho.cap hcc)
    have hkz := tx_size (joinN cc)
    by_cases hlong : 200 < (joinN cc).length
    · have HL := Lib.hid (fun wx => clean_bad (joinN cc) 1 wx (pfrom_long' hlong))
      obtain ⟨K, hK⟩ : ∃ K, joinN cc = K := ⟨_, rfl⟩
      rw [hK] at HK HL hkz hlong
      obtain ⟨kl, hkl⟩ : ∃ kl, K.length = kl := ⟨_, rfl⟩
      rw [hkl] at hkz hlong
      have hli : (200 : Int) < (kl : Int) := by omega
      clear hp hcc hv hK hkl
      go_enter Tryd.func5, Tryd.ntmps5
      go_wp2_with (first
        | (go_at_call 13; refine HP.out.mono ?_; rintro e w1 ⟨rfl, hb1⟩; have HB1 := Lib.hid hb1; clear hb1)
        | (go_at_call 8; (with_reducible refine (HC1.out w1).mono ?_); rintro e w2 ⟨A2, c2, rfl, ho2, hb2⟩; have HO2 := Lib.hid ho2; have HB2 := Lib.hid (bthen HB1.out hb2); clear ho2 hb2)
        | (go_at_call 14; (with_reducible refine (HJ.out A2 c2 w2 _ HO2.out).mono ?_); rintro e w3 ⟨rfl, hb3⟩; have HB3 := Lib.hid (bthen HB2.out hb3); have HO3 := Lib.hid (HO2.out.below hb3); clear hb3)
        | (go_at_call 8; (with_reducible refine (HC2.out w3).mono ?_); rintro e w4 ⟨A4, c4, rfl, ho4, hb4⟩; have HO4 := Lib.hid ho4; have HB4 := Lib.hid (bthen HB3.out hb4); have HO34 := Lib.hid (HO3.out.below hb4); clear ho4 hb4)
        | (go_at_call 15; (with_reducible refine (texts_keep A2 n c2 A4 c4 a w4 HO34.out.ls HO4.out.ls HN.out (by omega)).mono ?_); rintro e w5 ⟨rfl, hb5⟩; have HB5 := Lib.hid (bthen HB4.out hb5); clear hb5)
        | (go_at_call 8; (with_reducible refine (HE.out w5).mono ?_); rintro e w6 ⟨A6, c6, rfl, ho6, hb6⟩; have HO6 := Lib.hid ho6; have HB6 := Lib.hid (bthen HB5.out hb6); clear ho6 hb6)
        | (go_at_call 14; (with_reducible refine (HK.out A6 c6 w6 _ HO6.out).mono ?_); rintro e w7 ⟨rfl, hb7⟩; have HB7 := Lib.hid (bthen HB6.out hb7); have HO7 := Lib.hid (HO6.out.below hb7); clear hb7)
        | (go_at_call 8; (with_reducible refine (HL.out w7).mono ?_); rintro e w8 ⟨rfl, hb8⟩; have HB8 := Lib.hid (bthen HB7.out hb8); clear hb8))
      go_ret
      exact ⟨rfl, HB8.out⟩
    · have HL := Lib.hid (fun wx => clean_at (joinN cc) cc v wx (clean_join hcc (by omega)) HV)
      obtain ⟨K, hK⟩ : ∃ K, joinN cc = K := ⟨_, rfl⟩
      rw [hK] at HK HL hkz hlong
      obtain ⟨kl, hkl⟩ : ∃ kl, K.length = kl := ⟨_, rfl⟩
      rw [hkl] at hkz hlong
      have hli : ¬ (200 : Int) < (kl : Int) := by omega
      clear hp hcc hv hK hkl
      go_enter Tryd.func5, Tryd.ntmps5
      go_wp2_with (first
        | (go_at_call 13; refine HP.out.mono ?_; rintro e w1 ⟨rfl, hb1⟩; have HB1 := Lib.hid hb1; clear hb1)
        | (go_at_call 8; (with_reducible refine (HC1.out w1).mono ?_); rintro e w2 ⟨A2, c2, rfl, ho2, hb2⟩; have HO2 := Lib.hid ho2; have HB2 := Lib.hid (bthen HB1.out hb2); clear ho2 hb2)
        | (go_at_call 14; (with_reducible refine (HJ.out A2 c2 w2 _ HO2.out).mono ?_); rintro e w3 ⟨rfl, hb3⟩; have HB3 := Lib.hid (bthen HB2.out hb3); have HO3 := Lib.hid (HO2.out.below hb3); clear hb3)
        | (go_at_call 8; (with_reducible refine (HC2.out w3).mono ?_); rintro e w4 ⟨A4, c4, rfl, ho4, hb4⟩; have HO4 := Lib.hid ho4; have HB4 := Lib.hid (bthen HB3.out hb4); have HO34 := Lib.hid (HO3.out.below hb4); clear ho4 hb4)
        | (go_at_call 15; (with_reducible refine (texts_keep A2 n c2 A4 c4 a w4 HO34.out.ls HO4.out.ls HN.out (by omega)).mono ?_); rintro e w5 ⟨rfl, hb5⟩; have HB5 := Lib.hid (bthen HB4.out hb5); clear hb5)
        | (go_at_call 8; (with_reducible refine (HE.out w5).mono ?_); rintro e w6 ⟨A6, c6, rfl, ho6, hb6⟩; have HO6 := Lib.hid ho6; have HB6 := Lib.hid (bthen HB5.out hb6); clear ho6 hb6)
        | (go_at_call 14; (with_reducible refine (HK.out A6 c6 w6 _ HO6.out).mono ?_); rintro e w7 ⟨rfl, hb7⟩; have HB7 := Lib.hid (bthen HB6.out hb7); have HO7 := Lib.hid (HO6.out.below hb7); clear hb7)
        | (go_at_call 8; (with_reducible refine (HL.out w7).mono ?_); rintro e w8 ⟨A8, c8, rfl, ho8, hb8⟩; have HO8 := Lib.hid ho8; have HB8 := Lib.hid (bthen HB7.out hb8); have HO78 := Lib.hid (HO7.out.below hb8); clear ho8 hb8)
        | (go_at_call 15; (with_reducible refine (texts_keep A6 v c6 A8 c8 cc w8 HO78.out.ls HO8.out.ls HV.out (by omega)).mono ?_); rintro e w9 ⟨rfl, hb9⟩; have HB9 := Lib.hid (bthen HB8.out hb9); clear hb9))
      go_ret
      exact ⟨rfl, HB9.out⟩

end Go.Proofs.YtdoocbaojmjpaaaDoor
