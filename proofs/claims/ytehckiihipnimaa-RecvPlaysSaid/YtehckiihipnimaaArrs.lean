/-
  packthreadkeep.Stream and Arrivals: contracts.
-/
import Derived.Test.YtehckiihipnimaaHears
import Derived.Test.YtehckiihipnimaaPicked
import Derived.Test.YtehckiihipnimaaClone
import Derived.Deep.DeepCutAuto
import Derived.Laws.NewBlocks
namespace Go.Proofs.Ytehckiihipnimaa
open Go.RowKit
set_option linter.unusedVariables false
set_option linter.unusedSimpArgs false

def inS : Shape Int := { cells := fun z => [.int .i64 z], size := 1, len := fun _ => rfl, pos := by decide, one := by intro x u hu; simp at hu; subst hu; rfl }
def i64in (a : Int) : Prop := -9223372036854775808 ≤ a ∧ a ≤ 9223372036854775807
theorem tdiv_in {a k : Int} (hk : 1 ≤ k) (h : i64in a) : i64in (a.tdiv k) := by
  obtain ⟨h1, h2⟩ := h
  have hd : ∀ b : Int, 0 ≤ b → 0 ≤ b / k ∧ b / k ≤ b := fun b hb => ⟨Int.ediv_nonneg hb (by omega), Int.ediv_le_self k hb⟩
  rcases Int.le_total 0 a with h0 | h0
  · rw [Int.tdiv_eq_ediv_of_nonneg h0]
    have := hd a h0
    exact ⟨by omega, by omega⟩
  · have e : a.tdiv k = -((-a).tdiv k) := by rw [Int.neg_tdiv, Int.neg_neg]
    rw [e, Int.tdiv_eq_ediv_of_nonneg (by omega)]
    have := hd (-a) (by omega)
    exact ⟨by omega, by omega⟩
theorem wrap_in {a : Int} (h : i64in a) : IntKind.i64.wrap a = a := by
  obtain ⟨h1, h2⟩ := h
  rw [IntKind.wrap_i64]
  omega
theorem u8_in (a : Int) : 0 ≤ IntKind.u8.wrap a ∧ IntKind.u8.wrap a ≤ 255 := by
  simp only [IntKind.wrap, IntKind.bits, IntKind.signed]
  simp
  omega

/-- an arrival that a builder made lies where it says, and in none of S -/
def AEI1 (w : World) (S : Nat → Prop) (x : Av) : Prop := Ls byS w x.A x.a.data ∧ x.a.data.length = x.n ∧ x.n ≤ 64 ∧ (∀ z ∈ x.a.data, 0 ≤ z ∧ z ≤ 255) ∧ Clear (fun k => S k ∨ w.heap.size ≤ k) x.A
def AEI (w : World) (S : Nat → Prop) (l : List Av) : Prop := ∀ x ∈ l, AEI1 w S x
theorem AEI.only {w w' : World} {S S' T : Nat → Prop} {l : List Av} (h : AEI w S l) (ho : Only S' w w') (hS : ∀ k, S' k → S k ∨ w.heap.size ≤ k) (hT : ∀ k, T k → S k ∨ w.heap.size ≤ k) : AEI w' T l := fun x hx => by
  obtain ⟨h1, h2, h3, h4, h5⟩ := h x hx
  refine ⟨h1.only ho (h5.mono hS), h2, h3, h4, h5.mono fun k hk => ?_⟩
  rcases hk with hk | hk
  · exact hT k hk
  · exact .inr (Nat.le_trans ho.size hk)
theorem AEI.new {w w' : World} {S : Nat → Prop} {l : List Av} (h : AEI w S l) (hb : Below w.heap.size w w') : AEI w' S l := h.only (S' := fun _ => False) (only_new hb) (fun _ h => h.elim) (fun _ h => .inl h)
theorem AEI.app {w : World} {S : Nat → Prop} {l : List Av} {x : Av} (h : AEI w S l) (h1 : AEI1 w S x) : AEI w S (l ++ [x]) := fun y hy => by
  rcases List.mem_append.1 hy with hy | hy
  · exact h y hy
  · simp at hy; subst hy; exact h1
theorem AEI.ain {w : World} {S : Nat → Prop} {l : List Av} (h : AEI w S l) : AIn w l := fun x hx => by
  obtain ⟨h1, h2, h3, h4, -⟩ := h x hx
  exact ⟨h1, h2, by omega, h4⟩

/-- a piece of a stream, or a take -/
def Tame8 (S : List Int) (closed : Bool) (a : Ar) : Prop :=
  (a.kind = 2 ∧ 0 ≤ a.count ∧ a.count ≤ 4096 ∧ a.at_ = 0 ∧ a.data = [] ∧ a.fin = false) ∨
  (a.kind = 1 ∧ a.count = 0 ∧ ∃ f t : Nat, f ≤ t ∧ t ≤ S.length ∧ t ≤ f + 64 ∧ a.at_ = f ∧ a.data = (S.drop f).take (t - f) ∧ a.fin = (closed && decide (t = S.length)))

/-- what Stream answers -/
def RetSt (w : World) (m : Nat) (e : Ending) (w' : World) : Prop :=
  ∃ A c zs, e = .returned (.slice A m c) ∧ OwnL byS 5 w' w.heap.size A m c zs ∧ (∀ z ∈ zs, 0 ≤ z ∧ z ≤ 255) ∧ Below w.heap.size w w'

set_option maxHeartbeats 2000000 in
theorem stream_any (seed : Int) (m : Nat) (w : World) (s1 : -9223372036854775808 ≤ seed) (s2 : seed ≤ 9223372036854775807) (hm : m ≤ 1000) :
    Calls Try.prog 28 #[.int .i64 seed, .int .i64 m] w (RetSt w m) := by
  obtain ⟨sd, hsd, hsd2⟩ := pick_nat seed 251 (by omega)
  go_enter Try.func28, Try.ntmps28
  go_wp2
  go_loopw [5, 6] (fun o i wr => ∃ (k : Nat) (A : Option Addr) (c : Nat) (zs : List Int), k ≤ m ∧ i = .int .i64 k ∧ o = .slice A k c ∧ OwnL byS 5 wr w.heap.size A k c zs ∧ (∀ z ∈ zs, 0 ≤ z ∧ z ≤ 255) ∧ Below w.heap.size w wr) (fun _ i _ => m - (intOf i).toNat)
  case atStart => exact ⟨0, none, 0, [], Nat.zero_le _, rfl, rfl, OwnL.nil _ _, by simp, Below.refl _ _⟩
  case round =>
    obtain ⟨k, A, c', zs, hk, rfl, rfl, hown, hz, hbw⟩ := hrel
    have HOW := Lib.hid hown
    have HZ := Lib.hid hz
    have HBW := Lib.hid hbw
    clear hown hz hbw
    by_cases hlt : k < m
    · have hki : (k : Int) < (m : Int) := by omega
      obtain ⟨k7, hk7⟩ : ∃ q : Nat, q = k * 7 := ⟨_, rfl⟩
      obtain ⟨k36, hk36⟩ : ∃ q : Nat, q = k / 36 := ⟨_, rfl⟩
      have e1 : IntKind.i64.wrap ((k : Int) * 7) = (k7 : Int) := by rw [IntKind.wrap_i64]; omega
      have e2 : IntKind.i64.wrap ((sd : Int) + (k7 : Int)) = (sd : Int) + (k7 : Int) := by rw [IntKind.wrap_i64]; omega
      have e3 : ((k : Int)).tdiv 36 = (k36 : Int) := by rw [Int.tdiv_eq_ediv_of_nonneg (by omega)]; omega
      have e3w : IntKind.i64.wrap (k36 : Int) = (k36 : Int) := by rw [IntKind.wrap_i64]; omega
      have e4 : IntKind.i64.wrap ((sd : Int) + (k7 : Int) + (k36 : Int)) = (sd : Int) + (k7 : Int) + (k36 : Int) := by rw [IntKind.wrap_i64]; omega
      obtain ⟨v, hv⟩ : ∃ v, IntKind.u8.wrap ((sd : Int) + (k7 : Int) + (k36 : Int)) = v := ⟨_, rfl⟩
      have hvb : 0 ≤ v ∧ v ≤ 255 := by rw [← hv]; exact u8_in _
      have hw1 : IntKind.i64.wrap ((k : Int) + 1) = ((k + 1 : Nat) : Int) := by rw [IntKind.wrap_i64]; omega
      have HVB := Lib.hid hvb
      clear hk7 hk36 hvb
      go_wp2_with (first
        | (go_at_call 20; (with_reducible refine (picked_n seed 251 sd _ hsd s1 s2 (by omega) (by omega)).mono ?_); rintro e w' ⟨rfl, rfl⟩)
        | (at_builtin; refine wpList_appL (F := byS) rfl _ (.tmp 12) (.tmp 22) 27 rfl _ 1 Try.underlying27 byInfo rfl w.heap.size A k c' zs rfl (HOW.out.below (ba1 _ _)) (some ⟨wr.heap.size, 0, none⟩) 1 1 [v] rfl (ls_new wr _ _ _ rfl _ rfl) rfl (k + 1) rfl (by omega) (by omega) (by have := HBW.out.size; simp; omega) ?_; intro A8 c8 w8 ho8 hb8 hs8; have HO8 := Lib.hid ho8; have HB8 := Lib.hid hb8; clear ho8 hb8 hs8))
      refine ⟨⟨k + 1, A8, c8, zs ++ [v], by omega, by first | rfl | go_num, rfl, HO8.out, fun z hz => ?_, (HBW.out.trans ((ba1 wr _).mono HBW.out.size)).trans (HB8.out.mono (Nat.le_refl _))⟩, by simp [intOf]; omega⟩
      rcases List.mem_append.1 hz with hz | hz
      · exact HZ.out z hz
      · simp at hz; subst hz; exact HVB.out
    · obtain rfl : k = m := by omega
      have hki : ¬ (k : Int) < (k : Int) := by omega
      go_wp2
      go_ret
      exact ⟨A, c', zs, rfl, HOW.out, HZ.out, HBW.out⟩

/-- what Arrivals answers -/
def RetAs (w : World) (m : Nat) (S : List Int) (closed : Bool) (e : Ending) (w' : World) : Prop :=
  ∃ k A c xs, e = .returned (.slice A k c) ∧ k ≤ m ∧ OwnL arS 61 w' w.heap.size A k c xs ∧ AEI w' (fun j => (Value.slice A k c).ownBlock = some j) xs ∧ (∀ x ∈ xs, Tame8 S closed x.a) ∧ Below w.heap.size w w'
def ArsI (w : World) (n m : Nat) (S : List Int) (closed : Bool) (o i : Value) (wr : World) : Prop :=
  ∃ (k : Nat) (A : Option Addr) (c : Nat) (xs : List Av), k ≤ n ∧ k ≤ m ∧ i = .int .i64 k ∧ o = .slice A k c ∧ OwnL arS 61 wr w.heap.size A k c xs ∧ AEI wr (fun j => (Value.slice A k c).ownBlock = some j) xs ∧ (∀ x ∈ xs, Tame8 S closed x.a) ∧ Below w.heap.size w wr

set_option maxRecDepth 100000 in
set_option maxHeartbeats 4000000 in
theorem arrivals_any (L : Option Addr) (n c m : Nat) (l : List Int) (w : World) (hb : Ls inS w L l) (hl : l.length = n) (hin : ∀ z ∈ l, i64in z) (hn : n ≤ 100000000000000) (hm : m ≤ 300) (SA : Option Addr) (sn scp : Nat) (S : List Int) (hs : Ls byS w SA S) (hsl : S.length = sn) (hsn : sn ≤ 700) (hsc : sn ≤ scp) (hsa : (SA = none ∧ sn = 0 ∧ scp = 0) ∨ ∃ g, SA = some ⟨g, 0, none⟩) (hsb : ∀ z ∈ S, 0 ≤ z ∧ z ≤ 255) (closed : Bool) :
    Calls Try.prog 29 #[.slice L n c, .slice SA sn scp, .int .i64 m, .bool closed] w (RetAs w m S closed) := by
  have HL := Lib.hid hb
  have HN := Lib.hid hl
  have HI := Lib.hid hin
  have HS := Lib.hid hs
  have HSL := Lib.hid hsl
  have HSB := Lib.hid hsb
  clear hb hl hin hs hsl hsb
  go_enter Try.func29, Try.ntmps29
  go_wp2
  go_loopw [9, 10] (fun o i wr => ArsI w n m S closed o i wr) (fun _ i _ => n - (intOf i).toNat)
  case atStart => exact ⟨0, none, 0, [], Nat.zero_le _, Nat.zero_le _, rfl, rfl, OwnL.nil _ _, fun x hx => by (cases hx), fun x hx => by (cases hx), Below.refl _ _⟩
  case round =>
    obtain ⟨k, A, c', xs, hk, hkm, rfl, rfl, hown, hei, hta, hbw⟩ := hrel
    have HOW := Lib.hid hown
    have HEI := Lib.hid hei
    have HTA := Lib.hid hta
    have HBW := Lib.hid hbw
    have hw1 : IntKind.i64.wrap ((k : Int) + 1) = ((k + 1 : Nat) : Int) := by rw [IntKind.wrap_i64]; omega
    clear hown hei hta hbw
    by_cases hlt : k < n
    · have hki : (k : Int) < (n : Int) := by omega
      by_cases hltm : k < m
      · have hkm2 : (k : Int) < (m : Int) := by omega
        obtain ⟨z, hz⟩ : ∃ x, l[k]? = some x := ⟨_, List.getElem?_eq_getElem (by rw [HN.out]; exact hlt)⟩
        obtain ⟨bL, oL, rfl, hbl, hcl⟩ := (HL.out.below HBW.out).one k z hz rfl (.int .i64 z) rfl
        have hzi := HI.out z (List.mem_of_getElem? hz)
        obtain ⟨z1, z2⟩ := hzi
        have hq5 := tdiv_in (k := 5) (by omega) (And.intro z1 z2 : i64in z)
        have hq1000 := tdiv_in (k := 1000) (by omega) (And.intro z1 z2 : i64in z)
        have e5 := wrap_in hq5
        have e1000 := wrap_in hq1000
        obtain ⟨q5, hq5e⟩ : ∃ q, z.tdiv 5 = q := ⟨_, rfl⟩
        obtain ⟨q1000, hq1000e⟩ : ∃ q, z.tdiv 1000 = q := ⟨_, rfl⟩
        rw [hq5e] at e5 hq5
        rw [hq1000e] at e1000 hq1000
        obtain ⟨q51, q52⟩ := hq5
        obtain ⟨q101, q102⟩ := hq1000
        obtain ⟨pk, hpk, hpk2⟩ := pick_nat z 5 (by omega)
        by_cases h0 : pk = 0
        · subst h0
          obtain ⟨pc, hpc, hpc2⟩ := pick_nat q5 60 (by omega)
          clear hz
          go_wp2_with (first
            | (go_at_call 20; (with_reducible refine (picked_n z 5 0 _ hpk z1 z2 (by omega) (by omega)).mono ?_); rintro e w' ⟨rfl, rfl⟩)
            | (go_at_call 20; (with_reducible refine (picked_n q5 60 pc _ hpc q51 q52 (by omega) (by omega)).mono ?_); rintro e w' ⟨rfl, rfl⟩)
            | (at_builtin; refine wpList_appL (F := arS) rfl _ (.tmp 30) (.tmp 38) 47 rfl _ 56 Try.underlying47 arInfo rfl w.heap.size A k c' xs rfl (HOW.out.below (ba1 _ _)) (some ⟨wr.heap.size, 0, none⟩) 1 1 [⟨⟨2, 0, [], false, pc⟩, none, 0, 0⟩] rfl (ls_new wr _ _ _ rfl _ rfl) rfl (k + 1) rfl (by omega) (by omega) (by have := HBW.out.size; simp; omega) ?_; intro A8 c8 w8 ho8 hb8 hs8; have HO8 := Lib.hid ho8; have HB8 := Lib.hid hb8; have HS8 := Lib.hid hs8; clear ho8 hb8 hs8))
          refine ⟨⟨k + 1, A8, c8, xs ++ [⟨⟨2, 0, [], false, pc⟩, none, 0, 0⟩], by omega, by omega, by first | rfl | go_num, rfl, HO8.out, ?_, ?_, (HBW.out.trans ((ba1 wr _).mono HBW.out.size)).trans (HB8.out.mono (Nat.le_refl _))⟩, by simp [intOf]; omega⟩
          · exact AEI.only ((HEI.out.app ⟨Ls.nil _ _, rfl, by simp, by simp, Clear.none _⟩).new (ba1 _ _)) (HS8.out.only HB8.out) (fun j hj => .inl hj) (fun j hj => HS8.out.own j hj)
          · intro y hy
            rcases List.mem_append.1 hy with hy | hy
            · exact HTA.out y hy
            · simp at hy; subst hy; exact .inl ⟨rfl, by simp, by simp only; omega, rfl, rfl, rfl⟩
        · have hp0 : ¬ (pk : Int) = 0 := by omega
          obtain ⟨f, hf, hf2⟩ := pick_nat q5 ((sn : Int) + 1) (by omega)
          obtain ⟨g, hg, hg2⟩ := pick_nat q1000 64 (by omega)
          have ew1 : IntKind.i64.wrap ((sn : Int) + 1) = (sn : Int) + 1 := by rw [IntKind.wrap_i64]; omega
          have ew2 : IntKind.i64.wrap ((f : Int) + 1) = (f : Int) + 1 := by rw [IntKind.wrap_i64]; omega
          obtain ⟨u, hu⟩ : ∃ u : Nat, f + 1 + g = u := ⟨_, rfl⟩
          have ew3 : IntKind.i64.wrap ((f : Int) + 1 + (g : Int)) = (u : Int) := by rw [IntKind.wrap_i64]; omega
          obtain ⟨t, ht⟩ : ∃ t : Nat, t = min sn u := ⟨_, rfl⟩
          have hft : f ≤ t ∧ t ≤ sn ∧ t ≤ f + 64 := by omega
          have hmin : ((sn : Int) ≤ (u : Int) ∧ t = sn) ∨ ((u : Int) < (sn : Int) ∧ t = u) := by omega
          have HMIN := Lib.hid hmin
          clear hz ht hmin hu
          go_upto_region 8 with (first
            | (go_at_call 20; (with_reducible refine (picked_n z 5 pk _ hpk z1 z2 (by omega) (by omega)).mono ?_); rintro e w' ⟨rfl, rfl⟩)
            | (go_at_call 20; (with_reducible refine (picked_n q5 ((sn : Int) + 1) f _ hf q51 q52 (by omega) (by omega)).mono ?_); rintro e w' ⟨rfl, rfl⟩))
          go_cut [12] (fun v wx => v = .int .i64 t ∧ wr = wx)
          case first =>
            rcases HMIN.out with ⟨g1, rfl⟩ | ⟨g1, rfl⟩
            all_goals
              go_wp2_with (go_at_call 20; (with_reducible refine (picked_n q1000 64 g _ hg q101 q102 (by omega) (by omega)).mono ?_); rintro e w' ⟨rfl, rfl⟩)
            all_goals
              go_meet
            all_goals
              exact ⟨rfl, rfl⟩
          case rest =>
            obtain ⟨rfl, hwx⟩ := hcut
            subst hwx
            obtain ⟨h1, h2, h3⟩ := hft
            obtain ⟨fin, hfin⟩ : ∃ fin, fin = (closed && decide (t = S.length)) := ⟨_, rfl⟩
            obtain ⟨D, hD⟩ : ∃ D, D = (S.drop f).take (t - f) := ⟨_, rfl⟩
            have hDl : D.length = t - f := by rw [hD, List.length_take, List.length_drop, HSL.out]; omega
            have hcs : (closed = false ∧ fin = false) ∨ (closed = true ∧ t = sn ∧ fin = true) ∨ (closed = true ∧ ¬ t = sn ∧ fin = false) := by
              rw [HSL.out] at hfin
              cases closed
              · exact .inl ⟨rfl, by simpa using hfin⟩
              · by_cases g1 : t = sn
                · exact .inr (.inl ⟨rfl, g1, by simpa [g1] using hfin⟩)
                · exact .inr (.inr ⟨rfl, g1, by simpa [g1] using hfin⟩)
            have HFIN := Lib.hid hfin
            have HD := Lib.hid hD
            have HDL := Lib.hid hDl
            have HDB : Hid (∀ z ∈ D, 0 ≤ z ∧ z ≤ 255) := Lib.hid (fun z hz => HSB.out z (List.mem_of_mem_drop (List.mem_of_mem_take (hD ▸ hz))))
            have v1 : (0 : Int) ≤ (f : Int) := by omega
            have v2 : (f : Int) ≤ (t : Int) := by omega
            have v3 : (t : Int) ≤ (scp : Int) := by omega
            have v4 : ((f : Int)).toNat = f := by omega
            have v5 : ((t : Int)).toNat = t := by omega
            have hLSr : Ls byS wr SA S := HS.out.below HBW.out
            have hsrc : ∃ SB dB, (SA = none ∧ f = 0 ∧ t = 0 ∧ SB = none ∧ dB = 0 ∧ scp = 0 ∧ sn = 0 ∨ ∃ g, SA = some ⟨g, 0, none⟩ ∧ SB = (if scp = f then some (⟨g, 0, none⟩ : Addr) else some ⟨g, f, none⟩) ∧ dB = scp - f) ∧ Ls byS wr SB D := by
              rcases hsa with ⟨a1, a2, a3⟩ | ⟨g, rfl⟩
              · refine ⟨none, 0, .inl ⟨a1, by omega, by omega, rfl, rfl, a3, a2⟩, ?_⟩
                have : D = [] := List.eq_nil_of_length_eq_zero (by omega)
                rw [this]; exact Ls.nil _ _
              · refine ⟨_, _, .inr ⟨g, rfl, rfl, rfl⟩, ?_⟩
                by_cases hc : scp = f
                · have : D = [] := List.eq_nil_of_length_eq_zero (by omega)
                  rw [this]; exact Ls.nil _ _
                · rw [if_neg hc, hD]
                  have := (hLSr.drop1 rfl f).take (t - f)
                  rw [Nat.zero_add] at this
                  exact this
            obtain ⟨SB, dB, hsb, hlsb⟩ := hsrc
            have HLSB := Lib.hid hlsb
            clear hfin hD hDl hLSr hlsb
            have e8 : Hid (∀ (A8 : Option Addr) (c8 : Nat) (A7 : Option Addr) (c7 : Nat) (w7 w8 : World), OwnL byS 5 w7 wr.heap.size A7 (t - f) c7 D → Below wr.heap.size wr w7 → OwnL arS 61 w8 w.heap.size A8 (k + 1) c8 (xs ++ [⟨⟨1, f, D, fin, 0⟩, A7, t - f, c7⟩]) →
                Below w.heap.size (w7.alloc (.cells #[.int .i64 1, .int .i64 f, .slice A7 ((t - f : Nat) : Nat) c7, .bool fin, .int .i64 0] 61)) w8 → Beside (.slice A k c') (.slice A8 (k + 1) c8) (w7.alloc (.cells #[.int .i64 1, .int .i64 f, .slice A7 ((t - f : Nat) : Nat) c7, .bool fin, .int .i64 0] 61)) w8 →
                ArsI w n m S closed (.slice A8 (k + 1) c8) (.int .i64 ((k + 1 : Nat) : Int)) w8) := Lib.hid (fun A8 c8 A7 c7 w7 w8 h7 hb7 h8 hb8 hs8 => by
              have hrow : ∀ j, (Value.slice A k c').ownBlock = some j → j < wr.heap.size := fun j hj => (HOW.out.lt j hj).2
              refine ⟨k + 1, A8, c8, xs ++ [⟨⟨1, f, D, fin, 0⟩, A7, t - f, c7⟩], by omega, by omega, rfl, rfl, h8, ?_, ?_, ((HBW.out.trans (hb7.mono HBW.out.size)).trans ((ba1 w7 _).mono (by have := HBW.out.size; have := hb7.size; omega))).trans hb8⟩
              · exact AEI.only (((HEI.out.new hb7).app ⟨h7.ls, HDL.out, by simp only; omega, HDB.out, clear_of_own h7.2 (fun j hj => hj.imp (fun g => hrow j g) id)⟩).new (ba1 _ _)) (hs8.only hb8) (fun j hj => .inl hj) (fun j hj => hs8.own j hj)
              · intro y hy
                rcases List.mem_append.1 hy with hy | hy
                · exact HTA.out y hy
                · simp at hy; subst hy; exact .inr ⟨rfl, rfl, f, t, h1, by rw [HSL.out]; exact h2, h3, rfl, HD.out, HFIN.out⟩)
            rcases hsb with ⟨rfl, rfl, rfl, rfl, rfl, rfl, rfl⟩ | ⟨gB, rfl, hSB, rfl⟩
            · rcases hcs with ⟨rfl, rfl⟩ | ⟨rfl, g1, rfl⟩ | ⟨rfl, g1, rfl⟩
              · go_wp2_with (first
                | (at_builtin; refine wpList_appL (F := byS) rfl _ (.const (.slice none 0 0)) (.tmp 66) 27 rfl _ 1 Try.underlying27 byInfo rfl wr.heap.size none 0 0 [] rfl (OwnL.nil _ _) none 0 0 D rfl HLSB.out HDL.out 0 (by omega) (by omega) (by omega) (Nat.le_refl _) ?_; intro A7 c7 w7 ho7 hb7 _; rw [List.nil_append] at ho7; have HO7 := Lib.hid ho7; have HB7 := Lib.hid hb7; clear ho7 hb7)
                | (at_builtin; refine wpList_appL (F := arS) rfl _ (.tmp 61) (.tmp 76) 47 rfl _ 56 Try.underlying47 arInfo rfl w.heap.size A k c' xs rfl ((HOW.out.below HB7.out).below (ba1 _ _)) (some ⟨w7.heap.size, 0, none⟩) 1 1 [⟨⟨1, 0, D, false, 0⟩, A7, 0, c7⟩] rfl (ls_new w7 _ _ _ rfl _ rfl) rfl (k + 1) rfl (by omega) (by omega) (by have := HBW.out.size; have := HB7.out.size; simp; omega) ?_; intro A8 c8 w8 ho8 hb8 hs8; have HO8 := Lib.hid ho8; have HB8 := Lib.hid hb8; have HS8 := Lib.hid hs8; clear ho8 hb8 hs8))
                exact ⟨e8.out A8 c8 A7 c7 w7 w8 HO7.out HB7.out HO8.out HB8.out HS8.out, by simp [intOf]; omega⟩
              · go_wp2_with (first
                | (at_builtin; refine wpList_appL (F := byS) rfl _ (.const (.slice none 0 0)) (.tmp 66) 27 rfl _ 1 Try.underlying27 byInfo rfl wr.heap.size none 0 0 [] rfl (OwnL.nil _ _) none 0 0 D rfl HLSB.out HDL.out 0 (by omega) (by omega) (by omega) (Nat.le_refl _) ?_; intro A7 c7 w7 ho7 hb7 _; rw [List.nil_append] at ho7; have HO7 := Lib.hid ho7; have HB7 := Lib.hid hb7; clear ho7 hb7)
                | (at_builtin; refine wpList_appL (F := arS) rfl _ (.tmp 61) (.tmp 76) 47 rfl _ 56 Try.underlying47 arInfo rfl w.heap.size A k c' xs rfl ((HOW.out.below HB7.out).below (ba1 _ _)) (some ⟨w7.heap.size, 0, none⟩) 1 1 [⟨⟨1, 0, D, true, 0⟩, A7, 0, c7⟩] rfl (ls_new w7 _ _ _ rfl _ rfl) rfl (k + 1) rfl (by omega) (by omega) (by have := HBW.out.size; have := HB7.out.size; simp; omega) ?_; intro A8 c8 w8 ho8 hb8 hs8; have HO8 := Lib.hid ho8; have HB8 := Lib.hid hb8; have HS8 := Lib.hid hs8; clear ho8 hb8 hs8))
                exact ⟨e8.out A8 c8 A7 c7 w7 w8 HO7.out HB7.out HO8.out HB8.out HS8.out, by simp [intOf]; omega⟩
              · exact absurd rfl g1
            · have zD := hSB.symm
              clear hSB
              rcases hcs with ⟨rfl, rfl⟩ | ⟨rfl, g1, rfl⟩ | ⟨rfl, g1, rfl⟩
              · go_wp2_with (first
                | (at_builtin; refine wpList_appL (F := byS) rfl _ (.const (.slice none 0 0)) (.tmp 66) 27 rfl _ 1 Try.underlying27 byInfo rfl wr.heap.size none 0 0 [] rfl (OwnL.nil _ _) SB (t - f) (scp - f) D rfl HLSB.out HDL.out (t - f) (by omega) (by omega) (by omega) (Nat.le_refl _) ?_; intro A7 c7 w7 ho7 hb7 _; rw [List.nil_append] at ho7; have HO7 := Lib.hid ho7; have HB7 := Lib.hid hb7; clear ho7 hb7)
                | (at_builtin; refine wpList_appL (F := arS) rfl _ (.tmp 61) (.tmp 76) 47 rfl _ 56 Try.underlying47 arInfo rfl w.heap.size A k c' xs rfl ((HOW.out.below HB7.out).below (ba1 _ _)) (some ⟨w7.heap.size, 0, none⟩) 1 1 [⟨⟨1, f, D, false, 0⟩, A7, t - f, c7⟩] rfl (ls_new w7 _ _ _ rfl _ rfl) rfl (k + 1) rfl (by omega) (by omega) (by have := HBW.out.size; have := HB7.out.size; simp; omega) ?_; intro A8 c8 w8 ho8 hb8 hs8; have HO8 := Lib.hid ho8; have HB8 := Lib.hid hb8; have HS8 := Lib.hid hs8; clear ho8 hb8 hs8))
                exact ⟨e8.out A8 c8 A7 c7 w7 w8 HO7.out HB7.out HO8.out HB8.out HS8.out, by simp [intOf]; omega⟩
              · have e1 : ((t : Int) == (sn : Int)) = true := by simp; omega
                have e2 : decide ((t : Int) = (sn : Int)) = true := by simp; omega
                clear g1
                go_wp2_with (first
                | (at_builtin; refine wpList_appL (F := byS) rfl _ (.const (.slice none 0 0)) (.tmp 66) 27 rfl _ 1 Try.underlying27 byInfo rfl wr.heap.size none 0 0 [] rfl (OwnL.nil _ _) SB (t - f) (scp - f) D rfl HLSB.out HDL.out (t - f) (by omega) (by omega) (by omega) (Nat.le_refl _) ?_; intro A7 c7 w7 ho7 hb7 _; rw [List.nil_append] at ho7; have HO7 := Lib.hid ho7; have HB7 := Lib.hid hb7; clear ho7 hb7)
                | (at_builtin; refine wpList_appL (F := arS) rfl _ (.tmp 61) (.tmp 76) 47 rfl _ 56 Try.underlying47 arInfo rfl w.heap.size A k c' xs rfl ((HOW.out.below HB7.out).below (ba1 _ _)) (some ⟨w7.heap.size, 0, none⟩) 1 1 [⟨⟨1, f, D, true, 0⟩, A7, t - f, c7⟩] rfl (ls_new w7 _ _ _ rfl _ rfl) rfl (k + 1) rfl (by omega) (by omega) (by have := HBW.out.size; have := HB7.out.size; simp; omega) ?_; intro A8 c8 w8 ho8 hb8 hs8; have HO8 := Lib.hid ho8; have HB8 := Lib.hid hb8; have HS8 := Lib.hid hs8; clear ho8 hb8 hs8))
                exact ⟨e8.out A8 c8 A7 c7 w7 w8 HO7.out HB7.out HO8.out HB8.out HS8.out, by simp [intOf]; omega⟩
              · have e1 : ((t : Int) == (sn : Int)) = false := by simp; omega
                have e2 : decide ((t : Int) = (sn : Int)) = false := by simp; omega
                clear g1
                go_wp2_with (first
                | (at_builtin; refine wpList_appL (F := byS) rfl _ (.const (.slice none 0 0)) (.tmp 66) 27 rfl _ 1 Try.underlying27 byInfo rfl wr.heap.size none 0 0 [] rfl (OwnL.nil _ _) SB (t - f) (scp - f) D rfl HLSB.out HDL.out (t - f) (by omega) (by omega) (by omega) (Nat.le_refl _) ?_; intro A7 c7 w7 ho7 hb7 _; rw [List.nil_append] at ho7; have HO7 := Lib.hid ho7; have HB7 := Lib.hid hb7; clear ho7 hb7)
                | (at_builtin; refine wpList_appL (F := arS) rfl _ (.tmp 61) (.tmp 76) 47 rfl _ 56 Try.underlying47 arInfo rfl w.heap.size A k c' xs rfl ((HOW.out.below HB7.out).below (ba1 _ _)) (some ⟨w7.heap.size, 0, none⟩) 1 1 [⟨⟨1, f, D, false, 0⟩, A7, t - f, c7⟩] rfl (ls_new w7 _ _ _ rfl _ rfl) rfl (k + 1) rfl (by omega) (by omega) (by have := HBW.out.size; have := HB7.out.size; simp; omega) ?_; intro A8 c8 w8 ho8 hb8 hs8; have HO8 := Lib.hid ho8; have HB8 := Lib.hid hb8; have HS8 := Lib.hid hs8; clear ho8 hb8 hs8))
                exact ⟨e8.out A8 c8 A7 c7 w7 w8 HO7.out HB7.out HO8.out HB8.out HS8.out, by simp [intOf]; omega⟩
      · have hkm2 : ¬ (k : Int) < (m : Int) := by omega
        go_wp2
        go_ret
        exact ⟨k, A, c', xs, rfl, hkm, HOW.out, HEI.out, HTA.out, HBW.out⟩
    · have hki : ¬ (k : Int) < (n : Int) := by omega
      go_wp2
      go_ret
      exact ⟨k, A, c', xs, rfl, hkm, HOW.out, HEI.out, HTA.out, HBW.out⟩

end Go.Proofs.Ytehckiihipnimaa
