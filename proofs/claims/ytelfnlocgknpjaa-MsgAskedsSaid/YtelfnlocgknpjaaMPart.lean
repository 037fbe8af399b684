/-
  The parts of requests and replies: where they stand, their bytes; how a part is laid.
-/
import Derived.Test.YtelfnlocgknpjaaBy
import Derived.Test.YtelfnlocgknpjaaText
import Derived.Test.YtelfnlocgknpjaaOff
import Derived.Test.YtelfnlocgknpjaaTool
import Derived.Laws.BitsLemmas
namespace Go.Proofs.Ytelfnlocgknpjaa
open Go.RowKit
set_option linter.unusedVariables false
set_option linter.unusedSimpArgs false

/-- a part: its place -/
inductive Pt where
  | num (a : Addr) (k : Nat)
  | txt (a : Addr)
  | dat (a : Addr)
def ptV : Pt → Value
  | .num a k => .iface 68 (.agg #[.pointer (some a), .int .i64 k])
  | .txt a => .iface 78 (.agg #[.pointer (some a)])
  | .dat a => .iface 81 (.agg #[.pointer (some a)])
def ptS : Shape Pt := { cells := fun p => [ptV p], size := 1, len := fun _ => rfl, pos := by decide, one := by intro x u hu; simp at hu; subst hu; cases x <;> rfl }
theorem ptInfo : (Try.prog.info? 74).map (fun i => (i.zero, i.size, i.bytes)) = some (some .nilIface, ptS.size, 16) := by kernel_rfl

/-- a number's bytes, the highest first -/
def be (k : Nat) (v : Int) : List Int := (List.range k).map fun j => v / 256 ^ (k - 1 - j) % 256
theorem be_len (k : Nat) (v : Int) : (be k v).length = k := by unfold be; simp
theorem be_take (k : Nat) (v : Int) (j : Nat) (h : j < k) : (be k v).take (j + 1) = (be k v).take j ++ [v / 256 ^ (k - 1 - j) % 256] := by
  rw [List.take_add_one]
  have : (be k v)[j]? = some (v / 256 ^ (k - 1 - j) % 256) := by
    unfold be; rw [List.getElem?_map, List.getElem?_range h]; rfl
  rw [this]; rfl

/-- the address is of no block of the row's -/
def Fre (u : Value) (A : Option Addr) : Prop := ∀ q, A = some q → ∀ k, u.ownBlock = some k → q.block ≠ k
theorem Fre.no (u : Value) : Fre u .none := fun q h => by cases h
theorem Fre.nil (n c : Nat) (A : Option Addr) : Fre (.slice .none n c) A := fun q _ k h => by cases h
theorem Fre.grow {u u' : Value} {w w' : World} {A : Option Addr} (h : Fre u A) (hb : Beside u u' w w') (hA : ∀ q, A = some q → q.block < w.heap.size) : Fre u' A := fun q hq k hk e => by
  rcases hb.own k hk with g | g
  · exact h q hq k g e
  · have := hA q hq; omega
theorem Beside.trans {u v x : Value} {a b c : World} (h : Beside u v a b) (k : Beside v x b c) (hs : a.heap.size ≤ b.heap.size) : Beside u x a c :=
  ⟨fun i hi hu => (k.block i (by omega) (fun j hj e => by rcases h.own j hj with g | g; exact hu j g e; omega)).trans (h.block i hi hu), fun i hi => by
    rcases k.own i hi with g | g
    · exact h.own i g
    · exact .inr (by omega)⟩
theorem Beside.new {u : Value} {w w' : World} (hb : Below w.heap.size w w') : Beside u u w w' := ⟨fun k hk _ => hb.block k hk, fun k hk => .inl hk⟩

/-- a list in no block of the row's stays -/
theorem Ls.aside {α : Type} {F : Shape α} {u u' : Value} {w w' : World} {A : Option Addr} {l : List α} (h : Ls F w A l) (hb : Beside u u' w w') (hf : l = [] ∨ Fre u A) (hs : w.heap.size ≤ w'.heap.size := by assumption) : Ls F w' A l := by
  rcases hf with rfl | hf
  · exact Ls.nil _ _
  · rcases h with h | ⟨b, o, rfl, hlt, hc⟩
    · exact .inl h
    · exact .inr ⟨b, o, rfl, Nat.lt_of_lt_of_le hlt hs, fun j v hv => (hb.cell ⟨b, o + j, none⟩ hlt (hf ⟨b, o, none⟩ rfl)).trans (hc j v hv)⟩
theorem Ls.asideF {α : Type} {F : Shape α} {u u' : Value} {w w' : World} {A : Option Addr} {l : List α} (h : Ls F w A l) (hb : Beside u u' w w') (hf : l = [] ∨ Fre u A) : l = [] ∨ Fre u' A := by
  rcases hf with rfl | hf
  · exact .inl rfl
  · rcases l with _ | ⟨x, r⟩
    · exact .inl rfl
    · obtain ⟨b, o, rfl, hlt, -⟩ := h.at 0 x rfl
      exact .inr (hf.grow hb fun q hq => by injection hq with hq; subst hq; exact hlt)

/-- what a lay answers: the row l -/
def RetLay (base : Nat) (u : Value) (w : World) (l : List Int) (e : Ending) (w' : World) : Prop :=
  ∃ A N c, e = .returned (.slice A N c) ∧ OwnL byS 5 w' base A N c l ∧ Below base w w' ∧ Beside u (.slice A N c) w w'

/-- the round of a number's bytes -/
def NumI (w : World) (B base : Nat) (a : Addr) (u : Value) (k : Nat) (v : Int) (l : List Int) (o i : Value) (wr : World) : Prop :=
  ∃ (m : Nat) (A : Option Addr) (N c : Nat), m ≤ k ∧ N = l.length + (k - m) ∧ i = .int .i64 ((m : Int) - 1) ∧ o = .slice A N c ∧ OwnL byS 5 wr base A N c (l ++ (be k v).take (k - m)) ∧ Below base w wr ∧ Beside u (.slice A N c) w wr ∧
    Bx 68 wr B #[.pointer (some a), .int .i64 k] ∧ Off B (.slice A N c) ∧ wr.cell? a = some (.int .i64 v) ∧ Fre (.slice A N c) (some a)
theorem shr8 (v : Int) (h0 : -9223372036854775808 ≤ v) (h1 : v ≤ 9223372036854775807) (k : Nat) (hk : k ≤ 4) : (v / 256 ^ k) = v / 2 ^ (8 * k) := by
  rw [Int.pow_mul]; rfl

set_option maxHeartbeats 2000000 in
theorem numLay_any (a : Addr) (k : Nat) (v : Int) (base : Nat) (A : Option Addr) (n c : Nat) (l : List Int) (w : World) (hk : k ≤ 4) (h0 : -9223372036854775808 ≤ v) (h1 : v ≤ 9223372036854775807) (ha : a.block < w.heap.size) (hc : w.cell? a = some (.int .i64 v)) (hf : Fre (.slice A n c) (some a)) (ho : OwnL byS 5 w base A n c l) (hbase : base ≤ w.heap.size) (hn : n ≤ 100000) :
    Calls Try.prog 97 #[.agg #[.pointer (some a), .int .i64 k], .slice A n c] w (RetLay base (.slice A n c) w (l ++ be k v)) := by
  obtain ⟨w1, hw1⟩ : ∃ w1, w1 = w.alloc (.cells #[.pointer (some a), .int .i64 k] 68) := ⟨_, rfl⟩
  obtain ⟨B, hB⟩ : ∃ B, B = w.heap.size := ⟨_, rfl⟩
  have HX1 : Hid (Bx 68 w1 B #[.pointer (some a), .int .i64 k]) := Lib.hid (by rw [hw1, hB]; exact bx_new _ _ _)
  have HB1 : Hid (Below w.heap.size w w1) := Lib.hid (by rw [hw1]; exact ba1 _ _)
  have HBV : Hid (B = w.heap.size) := Lib.hid hB
  have hln : l.length = n := ho.1
  have HO1 := Lib.hid (ho.below HB1.out)
  have HOL := Lib.hid ho.lt
  have HF := Lib.hid hf
  have HC1 : Hid (w1.cell? a = some (.int .i64 v)) := Lib.hid ((HB1.out.cell (p := a) ha).trans hc)
  have HA := Lib.hid ha
  have HBS := Lib.hid hbase
  clear ho hf hc hB
  go_enter Try.func97, Try.ntmps97
  go_wp2_with fail
  rw [← hw1, ← HBV.out]
  go_loopw [1, 5] (fun o i wr => NumI w B base a (.slice A n c) k v l o i wr) (fun _ i _ => (intOf i + 1).toNat)
  case atStart =>
    exact ⟨k, A, n, c, Nat.le_refl _, by omega, rfl, rfl, by rw [Nat.sub_self, List.take_zero, List.append_nil]; exact HO1.out, HB1.out.mono HBS.out, Beside.new HB1.out, HX1.out, fun q hq e => by have := (HOL.out q hq).2; have := HBV.out; omega, HC1.out, HF.out⟩
  case round =>
    obtain ⟨m, A2, N, c2, hm, hN, rfl, rfl, ho2, hb2, hs2, hx2, hof2, hc2, hf2⟩ := hrel
    have HO2 := Lib.hid ho2
    have HB2 := Lib.hid hb2
    have HS2 := Lib.hid hs2
    have HX2 := Lib.hid hx2
    have HF2 := Lib.hid hof2
    have HC2 := Lib.hid hc2
    have HR2 := Lib.hid hf2
    have l1 := hx2.lt
    have g0 := hx2.cell 0 (.pointer (some a)) rfl
    have g1 := hx2.cell 1 (.int .i64 k) rfl
    have hNb : N ≤ 100004 := by omega
    have HN := Lib.hid hN
    clear ho2 hb2 hs2 hx2 hof2 hf2 hN
    rcases m with _ | m
    · have hi : decide ((0 : Int) ≤ ((0 : Nat) : Int) - 1) = false := by simp
      have HE : Hid (N = (l ++ be k v).length) := Lib.hid (by rw [HN.out, List.length_append, be_len]; omega)
      have HT : Hid ((be k v).take (k - 0) = be k v) := Lib.hid (List.take_of_length_le (by rw [be_len]; omega))
      go_wp2_with fail
      go_ret
      have h3 := HO2.out
      have h4 := HS2.out
      rw [HT.out] at h3
      exact ⟨A2, N, c2, rfl, h3, HB2.out, h4⟩
    · have hi : (((m + 1 : Nat) : Int) - 1) = (m : Int) := by omega
      have hi2 : decide ((0 : Int) ≤ (m : Int)) = true := by simp
      have hw8 : IntKind.i64.wrap (8 * (m : Int)) = 8 * (m : Int) := by rw [IntKind.wrap_i64]; omega
      rw [hi]
      go_wp2_with (at_builtin; refine wpList_appL (F := byS) rfl _ (.tmp 13) (.tmp 22) 22 rfl _ 1 Try.underlying22 byInfo rfl base A2 N c2 _ rfl (HO2.out.below (ba1 _ _)) (some ⟨wr.heap.size, 0, none⟩) 1 1 [v / 2 ^ (8 * m) % 256] rfl (ls_new wr _ _ _ rfl _ rfl) rfl (N + 1) rfl (by omega) (by omega) (by have := HB2.out.size; simp; omega) ?_; intro A3 c3 w3 ho3 hb3 hs3; have HO3 := Lib.hid ho3; have HB3 := Lib.hid hb3; have HS3 := Lib.hid hs3; clear ho3 hb3 hs3)
      have hwr : (wr.alloc (.cells #[.int .u8 (v / 2 ^ (8 * m) % 256)] 5)).heap.size = wr.heap.size + 1 := World.size_alloc _ _
      have hsz := HB2.out.size
      have HA2 := HA.out
      refine ⟨⟨m, A3, N + 1, c3, by omega, by have := HN.out; omega, by go_num, rfl, ?_, (HB2.out.alloc (by omega) _).trans HB3.out, ?_, (HX2.out.below (ba1 _ _)).beside HS3.out HF2.out, HF2.out.grow HS3.out (by omega), ?_, HR2.out.grow HS3.out (fun q hq => by injection hq with hq; subst hq; omega)⟩, by simp [intOf]⟩
      · have e : k - m = (k - (m + 1)) + 1 := by omega
        have := HO3.out
        rw [List.append_assoc] at this
        rw [e, be_take k v _ (by omega), show k - 1 - (k - (m + 1)) = m by omega, shr8 v h0 h1 m (by omega)]
        exact this
      · exact (HS2.out.trans (Beside.new (ba1 wr _)) hsz).trans HS3.out (by omega)
      · have h5 := HS3.out.cell a (by omega) (fun q hq => HR2.out a rfl q hq)
        rw [h5]; exact cell_alloc1 HC2.out

end Go.Proofs.Ytelfnlocgknpjaa
