/-
  The document's Outlet: its state in memory; places, heard, islands.
-/
import Derived.Test.YtehckiihipnimaaShapes
import Derived.Test.YtehckiihipnimaaSendOk
namespace Go.Proofs.Ytehckiihipnimaa
open Go.RowKit
set_option linter.unusedVariables false
set_option linter.unusedSimpArgs false

theorem boolInfo : (Try.prog.info? 4).map (fun i => (i.zero, i.size, i.bytes)) = some (some (.bool false), blS.size, 1) := by kernel_rfl

def outC (s : Sd) (D : Option Addr) (c : Nat) (K : Option Addr) (k : Nat) : Array Value := #[.slice D s.data.length c, .bool s.closed, .int .i64 s.edge, .int .i64 s.sent, .slice K s.known.length k, .int .i64 s.todo]
/-- who sends lies at block B; its rows lie in none of T -/
def Outl (w : World) (T : Nat → Prop) (B : Nat) (s : Sd) : Prop :=
  ∃ D c K k, Bx 112 w B (outC s D c K k) ∧ Ls byS w D s.data ∧ Ls blS w K s.known ∧ Clear (fun j => j = B ∨ T j ∨ w.heap.size ≤ j) D ∧ Clear (fun j => j = B ∨ T j ∨ w.heap.size ≤ j) K ∧ ¬ T B

theorem Outl.lt {w : World} {T : Nat → Prop} {B : Nat} {s : Sd} (h : Outl w T B s) : B < w.heap.size := by obtain ⟨D, c, K, k, h1, _⟩ := h; exact h1.lt
theorem Outl.only {w w' : World} {T T' S : Nat → Prop} {B : Nat} {s : Sd} (h : Outl w T B s) (ho : Only S w w') (hS : ∀ k, S k → T k ∨ w.heap.size ≤ k) (hT : ∀ k, T' k → T k ∨ w.heap.size ≤ k) : Outl w' T' B s := by
  obtain ⟨D, c, K, k, h1, h2, h3, h4, h5, h6⟩ := h
  have hlt := h1.lt
  have hSB : ¬ S B := fun g => by
    rcases hS B g with g | g
    · exact h6 g
    · omega
  refine ⟨D, c, K, k, h1.only ho hSB, h2.only ho ?_, h3.only ho ?_, ?_, ?_, fun g => ?_⟩
  · exact fun a ha g => h4 a ha (by rcases hS _ g with g | g; exact .inr (.inl g); exact .inr (.inr g))
  · exact fun a ha g => h5 a ha (by rcases hS _ g with g | g; exact .inr (.inl g); exact .inr (.inr g))
  · exact fun a ha g => h4 a ha (by
      have := ho.size
      rcases g with g | g | g
      · exact .inl g
      · rcases hT _ g with g | g
        · exact .inr (.inl g)
        · exact .inr (.inr g)
      · exact .inr (.inr (by omega)))
  · exact fun a ha g => h5 a ha (by
      have := ho.size
      rcases g with g | g | g
      · exact .inl g
      · rcases hT _ g with g | g
        · exact .inr (.inl g)
        · exact .inr (.inr g)
      · exact .inr (.inr (by omega)))
  · rcases hT B g with g | g
    · exact h6 g
    · omega
theorem Outl.new {w w' : World} {T : Nat → Prop} {B : Nat} {s : Sd} (h : Outl w T B s) (ho : Below w.heap.size w w') : Outl w' T B s := h.only (S := fun _ => False) (only_new ho) (fun _ h => h.elim) (fun _ h => .inl h)
/-- the facts that a walk reads -/
theorem Outl.cells {w : World} {T : Nat → Prop} {B : Nat} {s : Sd} (h : Outl w T B s) : ∃ D c K k,
    (w.cell? ⟨B, 0, none⟩ = some (.slice D s.data.length c) ∧ w.cell? ⟨B, 1, none⟩ = some (.bool s.closed) ∧ w.cell? ⟨B, 2, none⟩ = some (.int .i64 s.edge) ∧ w.cell? ⟨B, 3, none⟩ = some (.int .i64 s.sent) ∧ w.cell? ⟨B, 4, none⟩ = some (.slice K s.known.length k) ∧ w.cell? ⟨B, 5, none⟩ = some (.int .i64 s.todo)) ∧
    (w.frozen? ⟨B, 0, none⟩ = false ∧ w.frozen? ⟨B, 1, none⟩ = false ∧ w.frozen? ⟨B, 2, none⟩ = false ∧ w.frozen? ⟨B, 3, none⟩ = false ∧ w.frozen? ⟨B, 4, none⟩ = false ∧ w.frozen? ⟨B, 5, none⟩ = false) ∧ Ls byS w D s.data ∧ Ls blS w K s.known := by
  obtain ⟨D, c, K, k, h1, h2, h3, -, -, -⟩ := h
  exact ⟨D, c, K, k, ⟨h1.cell 0 _ rfl, h1.cell 1 _ rfl, h1.cell 2 _ rfl, h1.cell 3 _ rfl, h1.cell 4 _ rfl, h1.cell 5 _ rfl⟩, ⟨h1.soft 0, h1.soft 1, h1.soft 2, h1.soft 3, h1.soft 4, h1.soft 5⟩, h2, h3⟩

theorem oplaces_any (w : World) (T : Nat → Prop) (B : Nat) (s : Sd) (h : Outl w T B s) (hok : SdOk s) :
    Calls Try.prog 55 #[.pointer (some ⟨B, 0, none⟩)] w fun e w' => e = .returned (.int .i64 (places s : Nat)) ∧ w' = w := by
  obtain ⟨D, c, K, k, ⟨c0, c1, c2, c3, c4, c5⟩, -, -, -⟩ := h.cells
  have hl := hok.len
  obtain ⟨n, hn⟩ : ∃ n, n = s.data.length := ⟨_, rfl⟩
  rw [← hn] at c0 hl
  obtain ⟨p, hp⟩ : ∃ p, p = places s := ⟨_, rfl⟩
  have hpl : p = n + (if s.closed then 1 else 0) := by rw [hp, hn]; rfl
  rw [← hp]
  rcases hc : s.closed with _ | _
  · rw [hc] at hpl c1
    simp at hpl
    subst hpl
    clear hn hp
    go_enter Try.func55, Try.ntmps55
    go_wp2
    go_ret
    exact ⟨rfl, rfl⟩
  · rw [hc] at hpl c1
    simp at hpl
    subst hpl
    clear hn hp
    go_enter Try.func55, Try.ntmps55
    go_wp2
    go_ret
    exact ⟨by simp, rfl⟩

theorem oheard_any (w : World) (T : Nat → Prop) (B : Nat) (s : Sd) (n : Nat) (h : Outl w T B s) (hok : SdOk s) (hn : n ≤ 1048577) :
    Calls Try.prog 54 #[.pointer (some ⟨B, 0, none⟩), .int .i64 n] w fun e w' => e = .returned (.bool (hd s.known n)) ∧ w' = w := by
  obtain ⟨D, c, K, k, ⟨c0, c1, c2, c3, c4, c5⟩, -, -, hK⟩ := h.cells
  have hl := hok.known
  have hs := hok.sent; have hl2 := hok.len; have hpp := places_le s
  obtain ⟨m, hm⟩ : ∃ m, m = s.known.length := ⟨_, rfl⟩
  rw [← hm] at c4 hl
  have hm2 : m ≤ 1048576 := by omega
  by_cases hlt : n < m
  · obtain ⟨x, hx⟩ : ∃ x, s.known[n]? = some x := ⟨_, List.getElem?_eq_getElem (by omega)⟩
    obtain ⟨b, o, rfl, hb, hc⟩ := hK.one n x hx rfl (.bool x) rfl
    have hv : hd s.known n = x := by unfold hd; rw [List.getD_eq_getElem?_getD, hx]; rfl
    rw [hv]
    have hlt2 : (n : Int) < (m : Int) := by omega
    clear hm hv hx hK
    go_enter Try.func54, Try.ntmps54
    go_wp2
    go_ret
    exact ⟨rfl, rfl⟩
  · have hv : hd s.known n = false := by unfold hd; rw [List.getD_eq_getElem?_getD, List.getElem?_eq_none (by omega)]; rfl
    rw [hv]
    have hlt2 : ¬ (n : Int) < (m : Int) := by omega
    clear hm hv hK
    go_enter Try.func54, Try.ntmps54
    go_wp2
    go_ret
    exact ⟨rfl, rfl⟩

end Go.Proofs.Ytehckiihipnimaa
