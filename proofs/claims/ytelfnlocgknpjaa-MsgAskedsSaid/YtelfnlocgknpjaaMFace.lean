/-
  Ask and Asked, by a request's fields.
-/
import Derived.Test.YtelfnlocgknpjaaMSameK
namespace Go.Proofs.Ytelfnlocgknpjaa
open Go.RowKit
set_option linter.unusedVariables false
set_option linter.unusedSimpArgs false

theorem OwnL.caps {α : Type} {F : Shape α} {e : TypeId} {w : World} {base : Nat} {A : Option Addr} {n c : Nat} {l : List α} (h : OwnL F e w base A n c l) : n ≤ c ∧ c ≤ 9223372036854775807 := by
  rcases h.2.2 with ⟨hv, hn⟩ | ⟨g, cap, cur, hv, hg, hh, hx, hm, -⟩
  · injection hv with hA h1 hcc
    omega
  · injection hv with hA h1 hcc
    subst hcc
    exact ⟨hx, hm⟩
/-- a request's fields -/
structure Rqv where
  (kd mrk : Int) (p q : Byt) (how han a c : Int) (D : Option Addr) (m d : Nat) (zs : List Int)
def Rqv.F (x : Rqv) : Nat → PV
  | 0 => .n x.kd | 1 => .n x.mrk | 2 => .t x.p | 3 => .t x.q | 4 => .n x.how | 5 => .n x.han | 6 => .n x.a | 7 => .n x.c | _ => .d x.D x.m x.d x.zs
def Rqv.G (x : Rqv) : Nat → PC
  | 0 => .n x.kd | 1 => .n x.mrk | 2 => .t x.p | 3 => .t x.q | 4 => .n x.how | 5 => .n x.han | 6 => .n x.a | 7 => .n x.c | _ => .d x.zs
def Rqv.V (x : Rqv) : Array Value := #[.int .i64 x.kd, .int .i64 x.mrk, .string (tx x.p), .string (tx x.q), .int .i64 x.how, .int .i64 x.han, .int .i64 x.a, .int .i64 x.c, .slice x.D x.m x.d]
theorem Rqv.rqC (x : Rqv) : rqC x.F = x.V := rfl
theorem Rqv.pure (x : Rqv) (o : Nat) : (x.F o).pure = x.G o := by
  rcases o with _ | _ | _ | _ | _ | _ | _ | _ | o <;> rfl
theorem Rqv.typed (x : Rqv) : Typed x.F := by
  refine ⟨fun o h => ?_, fun o h => ?_, ⟨x.D, x.m, x.d, x.zs, rfl⟩⟩
  · rcases h with rfl | rfl | rfl | rfl | rfl | rfl <;> exact ⟨_, rfl⟩
  · rcases h with rfl | rfl <;> exact ⟨_, rfl⟩
theorem Rqv.ptyped (x : Rqv) : PTyped x.G := x.typed.pure x.pure
/-- its bytes are there -/
def Rqv.In (x : Rqv) (w : World) : Prop := Ls byS w x.D x.zs ∧ x.zs.length = x.m
theorem Rqv.In.ok {x : Rqv} {w : World} (h : x.In w) : (x.F 8).ok (fun k => w.heap.size ≤ k) w := by
  refine okAll (T := fun _ => False) (v := .d x.D x.m x.d x.zs) ⟨h.1, h.2, .inr fun a _ h => h⟩
theorem Rqv.In.below {x : Rqv} {w w' : World} (h : x.In w) (hb : Below w.heap.size w w') : x.In w' := ⟨h.1.below hb, h.2⟩
theorem rqv_of {f : Nat → PV} (h : Typed f) : ∃ x : Rqv, rqC f = x.V ∧ ∀ o, o < 9 → f o = x.F o := by
  obtain ⟨v0, e0⟩ := h.num 0 (by omega)
  obtain ⟨v1, e1⟩ := h.num 1 (by omega)
  obtain ⟨s2, e2⟩ := h.txt 2 (by omega)
  obtain ⟨s3, e3⟩ := h.txt 3 (by omega)
  obtain ⟨v4, e4⟩ := h.num 4 (by omega)
  obtain ⟨v5, e5⟩ := h.num 5 (by omega)
  obtain ⟨v6, e6⟩ := h.num 6 (by omega)
  obtain ⟨v7, e7⟩ := h.num 7 (by omega)
  obtain ⟨D, m, d, zs, e8⟩ := h.dat
  refine ⟨⟨v0, v1, s2, s3, v4, v5, v6, v7, D, m, d, zs⟩, ?_, fun o ho => ?_⟩
  · unfold Go.Proofs.Ytelfnlocgknpjaa.rqC; rw [e0, e1, e2, e3, e4, e5, e6, e7, e8]; rfl
  · rcases o with _ | _ | _ | _ | _ | _ | _ | _ | _ | o
    · exact e0
    · exact e1
    · exact e2
    · exact e3
    · exact e4
    · exact e5
    · exact e6
    · exact e7
    · exact e8
    · omega
/-- what Asked answers, by fields -/
theorem asked_x (A : Option Addr) (n c : Nat) (zs : List Int) (cd : Int) (w : World) (hs : Ls byS w A zs) (hl : zs.length = n) (hc : n ≤ c) (hc2 : c ≤ 9223372036854775807) (ho : Oct zs) (hcd : (askedT zs).1 = cd) :
    Calls Try.prog 13 #[.slice A n c] w fun e w' => Below w.heap.size w w' ∧ ∃ x : Rqv, e = .returned (.tuple #[.agg #[.int .i64 x.kd, .int .i64 x.mrk, .string (tx x.p), .string (tx x.q), .int .i64 x.how, .int .i64 x.han, .int .i64 x.a, .int .i64 x.c, .slice x.D x.m x.d], .int .i64 cd]) ∧ x.In w' ∧ ∀ o, o < 9 → (askedT zs).2 o = x.G o := by
  refine (asked_any A n c zs w hs hl hc hc2 ho).mono ?_
  rintro e w' ⟨hb, f, rfl, ht, hok, hp⟩
  obtain ⟨x, h1, h2⟩ := rqv_of ht
  refine ⟨hb, x, by rw [h1, hcd]; rfl, ?_, fun o h => by rw [← hp o, h2 o h, x.pure]⟩
  rw [h2 8 (by omega)] at hok
  exact ⟨hok.1, hok.2.1⟩
theorem ask_x (x : Rqv) (w : World) (hin : x.In w) (hf : faultC x.G x.kd = 0) :
    Calls Try.prog 10 #[.agg #[.int .i64 x.kd, .int .i64 x.mrk, .string (tx x.p), .string (tx x.q), .int .i64 x.how, .int .i64 x.han, .int .i64 x.a, .int .i64 x.c, .slice x.D x.m x.d]] w fun e w' => Below w.heap.size w w' ∧ ∃ A n c, e = .returned (.tuple #[.slice A n c, .int .i64 0]) ∧ OwnL byS 5 w' w.heap.size A n c (askC x.G x.kd) := by
  refine (ask_any x.F x.kd w rfl x.typed hin.ok).mono ?_
  rintro e w' ⟨hb, h⟩
  have hp : (fun o => (x.F o).pure) = x.G := funext x.pure
  have hz : faultT x.F x.kd = 0 := by rw [fault_pure x.typed hin.ok.len, hp]; exact hf
  rw [if_pos hz, ask_pure, hp] at h
  exact ⟨hb, h⟩
theorem reqK_x (x y : Rqv) (w : World) (hx : x.In w) (hy : y.In w) (he : ∀ o, o < 9 → x.G o = y.G o) (h47 : x.m ≤ 140737488355328) :
    Calls Try.prog 22 #[.agg #[.int .i64 x.kd, .int .i64 x.mrk, .string (tx x.p), .string (tx x.q), .int .i64 x.how, .int .i64 x.han, .int .i64 x.a, .int .i64 x.c, .slice x.D x.m x.d], .agg #[.int .i64 y.kd, .int .i64 y.mrk, .string (tx y.p), .string (tx y.q), .int .i64 y.how, .int .i64 y.han, .int .i64 y.a, .int .i64 y.c, .slice y.D y.m y.d]] w fun e w' => e = .returned (.bool true) ∧ Below w.heap.size w w' := by
  obtain ⟨kd, mrk, p, q, how, han, a, c, D, m, d, zs⟩ := x
  obtain ⟨kd', mrk', p', q', how', han', a', c', D', m', d', zs'⟩ := y
  have e0 := he 0 (by omega); have e1 := he 1 (by omega); have e2 := he 2 (by omega); have e3 := he 3 (by omega); have e4 := he 4 (by omega)
  have e5 := he 5 (by omega); have e6 := he 6 (by omega); have e7 := he 7 (by omega); have e8 := he 8 (by omega)
  simp only [Rqv.G, PC.n.injEq, PC.t.injEq, PC.d.injEq] at e0 e1 e2 e3 e4 e5 e6 e7 e8
  subst e0; subst e1; subst e2; subst e3; subst e4; subst e5; subst e6; subst e7; subst e8
  obtain ⟨hx1, hx2⟩ := hx
  obtain ⟨hy1, hy2⟩ := hy
  simp only at hx1 hx2 hy1 hy2 h47 ⊢
  obtain rfl : m' = m := by rw [← hx2, ← hy2]
  exact reqK_at kd mrk how han a c p q D D' m' d d' zs w hx1 hy1 hx2 h47

end Go.Proofs.Ytelfnlocgknpjaa
