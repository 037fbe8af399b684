/-
  The document's parts of a pattern in memory; takes; the closure fits.
-/
import Derived.Test.YtmcgjkhbljdddaaGlobSet
import Derived.Test.YtmcgjkhbljdddaaText
import Derived.Test.YtmcgjkhbljdddaaOnly
import Derived.Test.YtmcgjkhbljdddaaTool
namespace Go.Proofs.Ytmcgjkhbljdddaa
open Go.RowKit
set_option linter.unusedVariables false
set_option linter.unusedSimpArgs false

def u8v (b : UInt8) : Value := .int .u8 (b.toNat : Int)
/-- a range: two bytes -/
def rrS : Shape (UInt8 × UInt8) := { cells := fun x => [u8v x.1, u8v x.2], size := 2, len := fun _ => rfl, pos := by decide, one := by intro x u hu; simp at hu; rcases hu with rfl | rfl <;> rfl }
/-- a part with the address of its ranges -/
structure Iv where
  it : Gi
  A : Option Addr
  n : Nat
  c : Nat
def ivL (x : Iv) : List Value := [u8v x.it.kind, u8v x.it.one, .slice x.A x.n x.c, .bool x.it.neg]
def giS : Shape Iv := { cells := ivL, size := 4, len := fun _ => rfl, pos := by decide, one := by intro x u hu; simp [ivL] at hu; rcases hu with rfl | rfl | rfl | rfl <;> rfl }
theorem rrInfo : (Try.prog.info? 59).map (fun i => (i.zero, i.size, i.bytes)) = some (some (.agg #[.int .u8 0, .int .u8 0]), rrS.size, 2) := by kernel_rfl
theorem giInfo : (Try.prog.info? 57).map (fun i => (i.zero, i.size, i.bytes)) = some (some (.agg #[.int .u8 0, .int .u8 0, .slice none 0 0, .bool false]), giS.size, 40) := by kernel_rfl
/-- the ranges lie where they say, and in none of S -/
def II (w : World) (S : Nat → Prop) (l : List Iv) : Prop := ∀ x ∈ l, x.it.rgs.length = x.n ∧ Ls rrS w x.A x.it.rgs ∧ Clear (fun k => S k ∨ w.heap.size ≤ k) x.A
theorem II.nil (w : World) (S : Nat → Prop) : II w S [] := fun x hx => by cases hx
theorem II.only {w w' : World} {S S' T : Nat → Prop} {l : List Iv} (h : II w S l) (ho : Only S' w w') (hS : ∀ k, S' k → S k ∨ w.heap.size ≤ k) (hT : ∀ k, T k → S k ∨ w.heap.size ≤ k) : II w' T l := fun x hx => by
  obtain ⟨h1, h2, h3⟩ := h x hx
  refine ⟨h1, h2.only ho (h3.mono hS), h3.mono fun k hk => ?_⟩
  rcases hk with hk | hk
  · exact hT k hk
  · exact .inr (Nat.le_trans ho.size hk)
theorem II.new {w w' : World} {S : Nat → Prop} {l : List Iv} (h : II w S l) (hb : Below w.heap.size w w') : II w' S l := h.only (S' := fun _ => False) (only_new hb) (fun _ h => h.elim) (fun _ h => .inl h)
theorem II.app {w : World} {S : Nat → Prop} {l m : List Iv} (h : II w S l) (h1 : II w S m) : II w S (l ++ m) := fun y hy => by
  rcases List.mem_append.1 hy with hy | hy
  · exact h y hy
  · exact h1 y hy
theorem II.one {w : World} {S : Nat → Prop} {x : Iv} (h1 : x.it.rgs.length = x.n) (h2 : Ls rrS w x.A x.it.rgs) (h3 : Clear (fun k => S k ∨ w.heap.size ≤ k) x.A) : II w S [x] := fun y hy => by
  simp at hy; subst hy; exact ⟨h1, h2, h3⟩
theorem II.grown {w w' : World} {base : Nat} {l : List Iv} {v v' : Value} (h : II w (fun k => v.ownBlock = some k) l) (hb : Below base w w') (hs : Beside v v' w w') : II w' (fun k => v'.ownBlock = some k) l :=
  h.only (hs.only hb) (fun k hk => .inl hk) (fun k hk => by
    rcases hs.own k hk with g | g
    · exact .inl g
    · exact .inr g)

/-- the first k ranges have it -/
theorem inR_take {l : List (UInt8 × UInt8)} {k : Nat} {r : UInt8 × UInt8} (h : l[k]? = some r) (b : UInt8) : inR (l.take (k + 1)) b = (inR (l.take k) b || (decide (r.1 ≤ b) && decide (b ≤ r.2))) := by
  unfold inR
  rw [List.take_add_one, h]; simp
theorem u8_le (a b : UInt8) : decide (a ≤ b) = decide ((a.toNat : Int) ≤ (b.toNat : Int)) := decide_eq_decide.2 ⟨fun h => by have := UInt8.le_iff_toNat_le.1 h; omega, fun h => UInt8.le_iff_toNat_le.2 (by omega)⟩
theorem u8_lt (a b : UInt8) : a < b ↔ (a.toNat : Int) < (b.toNat : Int) := ⟨fun h => by have := UInt8.lt_iff_toNat_lt.1 h; omega, fun h => UInt8.lt_iff_toNat_lt.2 (by omega)⟩
theorem u8_eq (a b : UInt8) : a = b ↔ (a.toNat : Int) = (b.toNat : Int) := ⟨fun h => by rw [h], fun h => UInt8.toNat_inj.1 (by omega)⟩

set_option maxHeartbeats 4000000 in
theorem takes_any (x : Iv) (b : UInt8) (w : World) (h1 : x.it.rgs.length = x.n) (h2 : Ls rrS w x.A x.it.rgs) (hn : x.n ≤ 1000) :
    Calls Try.prog 32 #[.agg (ivL x).toArray, u8v b] w fun e w' => e = .returned (.bool (takesG x.it b)) ∧ Below w.heap.size w w' := by
  obtain ⟨⟨kd, one, rgs, neg⟩, A, n, c⟩ := x
  simp only at h1 h2 hn
  have hk63 : kd = 63 ↔ (kd.toNat : Int) = 63 := u8_eq kd 63
  have hk61 : kd = 61 ↔ (kd.toNat : Int) = 61 := u8_eq kd 61
  have hb1 := u8_eq b one
  have hT : takesG ⟨kd, one, rgs, neg⟩ b = if (kd.toNat : Int) = 63 then true else if (kd.toNat : Int) = 61 then decide ((b.toNat : Int) = one.toNat) else inR rgs b != neg := by
    unfold takesG
    by_cases g1 : kd = 63
    · rw [if_pos g1, if_pos (hk63.1 g1)]
    · rw [if_neg g1, if_neg (fun e => g1 (hk63.2 e))]
      by_cases g2 : kd = 61
      · rw [if_pos g2, if_pos (hk61.1 g2)]
        exact decide_eq_decide.2 hb1
      · rw [if_neg g2, if_neg (fun e => g2 (hk61.2 e))]
  show Calls Try.prog _ #[.agg #[.int .u8 (kd.toNat : Int), .int .u8 (one.toNat : Int), .slice A n c, .bool neg], .int .u8 (b.toNat : Int)] w fun e w' => e = .returned (.bool (takesG ⟨kd, one, rgs, neg⟩ b)) ∧ Below w.heap.size w w'
  rw [hT]
  have HL := Lib.hid h2
  have HN := Lib.hid h1
  have HIN : Hid (∀ (k : Nat) (r : UInt8 × UInt8), rgs[k]? = some r → inR (rgs.take (k + 1)) b = (inR (rgs.take k) b || (decide ((r.1.toNat : Int) ≤ (b.toNat : Int)) && decide ((b.toNat : Int) ≤ (r.2.toNat : Int))))) := Lib.hid fun k r h => by rw [inR_take h, u8_le, u8_le]
  obtain ⟨K, hK⟩ : ∃ K : Int, (kd.toNat : Int) = K := ⟨_, rfl⟩
  obtain ⟨O, hO⟩ : ∃ O : Int, (one.toNat : Int) = O := ⟨_, rfl⟩
  obtain ⟨Y, hY⟩ : ∃ Y : Int, (b.toNat : Int) = Y := ⟨_, rfl⟩
  rw [hY] at HIN
  rw [hK, hO, hY]
  clear hk63 hk61 hb1 hT hK hO hY h1 h2
  by_cases g1 : K = 63
  · go_enter Try.func32, Try.ntmps32
    go_wp2
    go_ret
    exact ⟨by simp [g1], ba1 _ _⟩
  · rw [if_neg g1]
    by_cases g2 : K = 61
    · rw [if_pos g2]
      by_cases g3 : Y = O
      · go_enter Try.func32, Try.ntmps32
        go_wp2
        go_ret
        exact ⟨by simp [g3], ba1 _ _⟩
      · go_enter Try.func32, Try.ntmps32
        go_wp2
        go_ret
        exact ⟨by simp [g3], ba1 _ _⟩
    · rw [if_neg g2]
      obtain ⟨Q, hQ⟩ : ∃ Q, Q = w.heap.size := ⟨_, rfl⟩
      obtain ⟨w1, hw1⟩ : ∃ w1, w1 = w.alloc (.cells #[.int .u8 K, .int .u8 O, .slice A n c, .bool neg] 57) := ⟨_, rfl⟩
      have HB1 : Hid (Below w.heap.size w w1) := Lib.hid (by rw [hw1]; exact ba1 _ _)
      have HX1 : Hid (Bx 57 w1 Q #[.int .u8 K, .int .u8 O, .slice A n c, .bool neg]) := Lib.hid (by rw [hw1, hQ]; exact bx_new _ _ _)
      have c0 := HX1.out.cell 0 _ rfl
      have c2 := HX1.out.cell 2 _ rfl
      go_enter Try.func32, Try.ntmps32
      go_upto_region 1 with fail
      rw [← hw1, ← hQ]
      clear hw1 hQ
      go_wp2
      go_loopw [5, 21] (fun v i wr => ∃ k : Nat, i = .int .i64 (k : Int) ∧ k ≤ n ∧ v = .bool (inR (rgs.take k) b) ∧ Below w1.heap.size w1 wr) (fun _ i _ => n - (intOf i).toNat)
      case atStart => exact ⟨0, rfl, Nat.zero_le _, rfl, Below.refl _ _⟩
      case round =>
        obtain ⟨k, rfl, hk, rfl, hbw⟩ := hrel
        have HBW := Lib.hid hbw
        clear hbw c0 c2
        by_cases hlt : k < n
        · have hlti : (k : Int) < (n : Int) := by omega
          obtain ⟨⟨r1, r2⟩, hr⟩ : ∃ r, rgs[k]? = some r := ⟨_, List.getElem?_eq_getElem (by rw [HN.out]; exact hlt)⟩
          obtain ⟨bb, oo, rfl, hbl, hc⟩ := ((HL.out.below HB1.out).below HBW.out).at k _ hr
          have e1 := hc 0 (.int .u8 (r1.toNat : Int)) rfl
          have e2 := hc 1 (.int .u8 (r2.toNat : Int)) rfl
          simp only [rrS, Nat.add_zero] at e1 e2
          have HI := Lib.hid (HIN.out k _ hr)
          obtain ⟨X1, hX1⟩ : ∃ X : Int, (r1.toNat : Int) = X := ⟨_, rfl⟩
          obtain ⟨X2, hX2⟩ : ∃ X : Int, (r2.toNat : Int) = X := ⟨_, rfl⟩
          simp only [hX1, hX2] at HI e1 e2
          obtain ⟨v, hv⟩ : ∃ v, inR (rgs.take k) b = v := ⟨_, rfl⟩
          rw [hv] at HI ⊢
          clear hv hX1 hX2 hc hr
          obtain ⟨v1, d1⟩ : ∃ v, decide (X1 ≤ Y) = v := ⟨_, rfl⟩
          obtain ⟨v2, d2⟩ : ∃ v, decide (Y ≤ X2) = v := ⟨_, rfl⟩
          rw [d1, d2] at HI
          cases v1 <;> cases v2 <;> cases v <;>
          · go_wp2
            go_roundw
            case rel => exact ⟨k + 1, by simp, by omega, by rw [HI.out]; rfl, bthen HBW.out (ba1 _ _)⟩
            case measure => first | (simp [intOf]; done) | (simp [intOf]; omega)
        · have hlti : ¬ (k : Int) < (n : Int) := by omega
          have HE : Hid (inR (rgs.take k) b = inR rgs b) := Lib.hid (by rw [List.take_of_length_le (by rw [HN.out]; omega)])
          have c3 := (HX1.out.below HBW.out).cell 3 _ rfl
          rw [HE.out]
          obtain ⟨v, hv⟩ : ∃ v, inR rgs b = v := ⟨_, rfl⟩
          rw [hv]
          have HV := Lib.hid hv
          clear hv HE
          cases v <;> cases neg <;>
          · go_wp2
            go_ret
            exact ⟨by rw [HV.out]; first | rfl | simp, bthen HB1.out HBW.out⟩

/-- a byte that a set may name -/
def fitsB (s : Byt) (k : Nat) : Bool := decide (k < s.length) && (s.getD k 0 != 93 && s.getD k 0 != 92)
theorem fits_any (s : Byt) (k : Nat) (Q : Nat) (w : World) (hc : w.cell? ⟨Q, 0, none⟩ = some (.string (tx s))) :
    Calls Try.prog 30 #[.int .i64 (k : Int), .pointer (some ⟨Q, 0, none⟩)] w fun e w' => e = .returned (.bool (fitsB s k)) ∧ w = w' := by
  have hts := tx_size s
  have bg := bn_get s
  have k0 : (0 : Int) ≤ (k : Int) := by omega
  unfold fitsB
  obtain ⟨L, hL⟩ : ∃ L, s.length = L := ⟨_, rfl⟩
  rw [hL] at hts ⊢
  clear hL
  by_cases h : k < L
  · have hi : (k : Int) < (L : Int) := by omega
    by_cases h1 : s.getD k 0 = 93
    · have b1 : bn s k = 93 := (bn_eq s k 93).2 h1
      rw [h1]
      clear h1
      go_enter Try.func30, Try.ntmps30
      go_wp2
      go_ret
      exact ⟨by simp, rfl⟩
    · have b1 : ¬ bn s k = 93 := fun e => h1 ((bn_eq s k 93).1 e)
      by_cases h2 : s.getD k 0 = 92
      · have b2 : bn s k = 92 := (bn_eq s k 92).2 h2
        rw [h2]
        clear h1 h2 b1
        go_enter Try.func30, Try.ntmps30
        go_wp2
        go_ret
        exact ⟨by simp, rfl⟩
      · have b2 : ¬ bn s k = 92 := fun e => h2 ((bn_eq s k 92).1 e)
        have e1 : (s.getD k 0 != 93) = true := by simpa using h1
        have e2 : (s.getD k 0 != 92) = true := by simpa using h2
        rw [e1, e2]
        clear h1 h2 e1 e2
        go_enter Try.func30, Try.ntmps30
        go_wp2
        go_ret
        exact ⟨by first | (simp [h]; done) | (simp [h]; exact ⟨b1, b2⟩), rfl⟩
  · have hi : ¬ (k : Int) < (L : Int) := by omega
    go_enter Try.func30, Try.ntmps30
    go_wp2
    go_ret
    exact ⟨by simp [h], rfl⟩
end Go.Proofs.Ytmcgjkhbljdddaa
