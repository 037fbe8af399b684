/-
  Wishes (what deeds are made of) in memory; small contracts of packthreadkeep: Octets, RangeOf.
-/
import Derived.Test.YtehckiihipnimaaSents
import Derived.Test.YtehckiihipnimaaPicked
import Derived.IntWalk
namespace Go.Proofs.Ytehckiihipnimaa
open Go.RowKit
set_option linter.unusedVariables false
set_option linter.unusedSimpArgs false

/-- a wish with the address of its bytes -/
structure Wv where
  kind : Int
  data : List Int
  a : Int
  b : Int
  A : Option Addr
  n : Nat
  c : Nat
def whS : Shape Wv := { cells := fun x => [.int .i64 x.kind, .slice x.A x.n x.c, .int .i64 x.a, .int .i64 x.b], size := 4, len := fun _ => rfl, pos := by decide, one := by intro x u hu; simp at hu; rcases hu with rfl | rfl | rfl | rfl <;> rfl }
def i64ok (a : Int) : Prop := -9223372036854775808 ≤ a ∧ a ≤ 9223372036854775807
def WIn1 (w : World) (x : Wv) : Prop := Ls byS w x.A x.data ∧ x.data.length = x.n ∧ x.n ≤ x.c ∧ x.c ≤ 140737488351232 ∧ i64ok x.kind ∧ i64ok x.a ∧ i64ok x.b
def WIn (w : World) (l : List Wv) : Prop := ∀ x ∈ l, WIn1 w x
theorem WIn.below {w w' : World} {l : List Wv} (h : WIn w l) (hb : Below w.heap.size w w') : WIn w' l := fun x hx => by
  obtain ⟨h1, h2⟩ := h x hx
  exact ⟨h1.below hb, h2⟩

/-- bytes of one's own, as many as told -/
def RetY (w : World) (m : Nat) (zs : List Int) (e : Ending) (w' : World) : Prop :=
  ∃ A c, e = .returned (.slice A m c) ∧ OwnL byS 5 w' w.heap.size A m c zs ∧ Below w.heap.size w w'
theorem octets_any (A : Option Addr) (n c k m : Nat) (zs : List Int) (w : World) (hb : Ls byS w A zs) (hn : zs.length = n) (hc : n ≤ c) (h47 : c ≤ 140737488355328) (hk : k ≤ 1000000) (hm : m = min n k) :
    Calls Try.prog 24 #[.slice A n c, .int .i64 k] w (RetY w m (zs.take m)) := by
  have HB := Lib.hid hb
  have HN := Lib.hid hn
  clear hb hn
  have HT : Hid ((zs.take m).length = m) := Lib.hid (by rw [List.length_take, HN.out]; omega)
  have e0 : (List.nil : List Int) ++ zs.take m = zs.take m := rfl
  by_cases h : n ≤ k
  · obtain rfl : m = n := by omega
    clear hm
    go_enter Try.func24, Try.ntmps24
    go_wp2_with (at_builtin; refine wpList_appL (F := byS) rfl w (.const (.slice none 0 0)) (.tmp 10) 27 rfl _ 1 Try.underlying27 byInfo rfl w.heap.size none 0 0 [] rfl (OwnL.nil _ _) A m c (zs.take m) rfl (HB.out.take m) HT.out m (by omega) (by omega) (by omega) (Nat.le_refl _) ?_; intro A1 c1 w1 ho1 hb1 _; rw [List.nil_append] at ho1)
    go_ret
    exact ⟨A1, c1, rfl, ho1, hb1⟩
  · obtain rfl : m = k := by omega
    clear hm
    go_enter Try.func24, Try.ntmps24
    go_wp2_with (at_builtin; refine wpList_appL (F := byS) rfl w (.const (.slice none 0 0)) (.tmp 10) 27 rfl _ 1 Try.underlying27 byInfo rfl w.heap.size none 0 0 [] rfl (OwnL.nil _ _) A m c (zs.take m) rfl (HB.out.take m) HT.out m (by omega) (by omega) (by omega) (Nat.le_refl _) ?_; intro A1 c1 w1 ho1 hb1 _; rw [List.nil_append] at ho1)
    go_ret
    exact ⟨A1, c1, rfl, ho1, hb1⟩

theorem rangeOf_any (a b r1 r2 : Int) (w : World) (h1 : Hid (r1 = a % 170)) (h2 : Hid (r2 = a % 170 + b % 30)) (ha : i64ok a) (hb : i64ok b) :
    Calls Try.prog 41 #[.int .i64 a, .int .i64 b] w fun e w' => e = .returned (.agg #[.int .i64 r1, .int .i64 r2]) ∧ Below w.heap.size w w' := by
  obtain ⟨ha, ha'⟩ := ha
  obtain ⟨hb, hb'⟩ := hb
  obtain ⟨q, hq⟩ : ∃ q, q = b % 30 := ⟨_, rfl⟩
  have hr0 : 0 ≤ r1 ∧ r1 ≤ 169 := by rw [h1.out]; omega
  obtain ⟨g1, g2⟩ := hr0
  have hq0 : 0 ≤ q ∧ q ≤ 29 := by omega
  obtain ⟨g3, g4⟩ := hq0
  have HQ := Lib.hid hq
  have HR : Hid (r1 + q = r2) := Lib.hid (by rw [h1.out, h2.out, hq])
  clear hq
  go_enter Try.func41, Try.ntmps41
  go_wp2_with (first
    | (go_at_call 20; (with_reducible refine (picked_v a 170 r1 _ h1 ha ha' (by omega) (by omega)).mono ?_); rintro e w' ⟨rfl, rfl⟩)
    | (go_at_call 20; (with_reducible refine (picked_v b 30 q _ HQ hb hb' (by omega) (by omega)).mono ?_); rintro e w' ⟨rfl, rfl⟩))
  rw [HR.out]
  exact bodyPost_ret (v := .agg #[.int .i64 r1, .int .i64 r2]) (by simp [results, Try.results41, go_sem]) rfl ⟨rfl, ba1 _ _⟩

/-- a deed as wished -/
def Tame (m : Nat) (d : Dd) : Prop := 1 ≤ d.kind ∧ d.kind ≤ 5 ∧ d.data.length ≤ 90 ∧ 0 ≤ d.ack ∧ d.ack ≤ m ∧ 0 ≤ d.win ∧ d.win ≤ 199 ∧ d.sacks.length ≤ 1 ∧ ∀ r ∈ d.sacks, 0 ≤ r.1 ∧ r.1 < r.2 ∧ r.2 ≤ 198
/-- deeds' lists lie where they say, and in none of S -/
def DEI1 (w : World) (S : Nat → Prop) (x : Dv) : Prop := Ls byS w x.A x.d.data ∧ x.d.data.length = x.n ∧ Ls rgS w x.S x.d.sacks ∧ x.d.sacks.length = x.m ∧ x.n ≤ 140737488355328 ∧ x.m ≤ 140737488351232 ∧
  Clear (fun k => S k ∨ w.heap.size ≤ k) x.A ∧ Clear (fun k => S k ∨ w.heap.size ≤ k) x.S
def DEI (w : World) (S : Nat → Prop) (l : List Dv) : Prop := ∀ x ∈ l, DEI1 w S x
theorem DEI1.only {w w' : World} {S S' T : Nat → Prop} {x : Dv} (h : DEI1 w S x) (ho : Only S' w w') (hS : ∀ k, S' k → S k ∨ w.heap.size ≤ k) (hT : ∀ k, T k → S k ∨ w.heap.size ≤ k) : DEI1 w' T x := by
  obtain ⟨h1, h2, h3, h4, h5, h6, h7, h8⟩ := h
  have hc : ∀ k, T k ∨ w'.heap.size ≤ k → S k ∨ w.heap.size ≤ k := fun k hk => hk.elim (hT k) (fun g => .inr (Nat.le_trans ho.size g))
  exact ⟨h1.only ho (h7.mono hS), h2, h3.only ho (h8.mono hS), h4, h5, h6, h7.mono hc, h8.mono hc⟩
theorem DEI1.new {w w' : World} {S : Nat → Prop} {x : Dv} (h : DEI1 w S x) (hb : Below w.heap.size w w') : DEI1 w' S x := h.only (S' := fun _ => False) (only_new hb) (fun _ h => h.elim) (fun _ h => .inl h)
theorem DEI.only {w w' : World} {S S' T : Nat → Prop} {l : List Dv} (h : DEI w S l) (ho : Only S' w w') (hS : ∀ k, S' k → S k ∨ w.heap.size ≤ k) (hT : ∀ k, T k → S k ∨ w.heap.size ≤ k) : DEI w' T l := fun x hx => (h x hx).only ho hS hT
theorem DEI.new {w w' : World} {S : Nat → Prop} {l : List Dv} (h : DEI w S l) (hb : Below w.heap.size w w') : DEI w' S l := fun x hx => (h x hx).new hb
theorem DEI.app {w : World} {S : Nat → Prop} {l : List Dv} {x : Dv} (h : DEI w S l) (h1 : DEI1 w S x) : DEI w S (l ++ [x]) := fun y hy => by
  rcases List.mem_append.1 hy with hy | hy
  · exact h y hy
  · simp at hy; subst hy; exact h1
theorem DEI.din {w : World} {S : Nat → Prop} {l : List Dv} (h : DEI w S l) : DIn w l := fun x hx => by
  obtain ⟨h1, h2, h3, h4, h5, h6, -⟩ := h x hx
  exact ⟨h1, h2, h3, h4, h5, h6⟩

end Go.Proofs.Ytehckiihipnimaa
