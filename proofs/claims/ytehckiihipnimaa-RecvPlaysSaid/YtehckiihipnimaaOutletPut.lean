/-
  The document's Outlet: stores into it.
-/
import Derived.Test.YtehckiihipnimaaOutlet1
namespace Go.Proofs.Ytehckiihipnimaa
open Go.RowKit
set_option linter.unusedVariables false
set_option linter.unusedSimpArgs false

theorem size_set (w : World) (a : Addr) (u : Value) : (w.setCell a u).heap.size = w.heap.size := by simp [World.setCell]
theorem only_set (w : World) (B j : Nat) (u : Value) : Only (fun k => k = B) w (w.setCell ⟨B, j, none⟩ u) := (Only.refl (fun k => k = B) w).setCell (.inl rfl) u
theorem Clear.same {S T : Nat → Prop} {A : Option Addr} (h : Clear S A) (hS : ∀ k, T k ↔ S k) : Clear T A := h.mono fun k hk => (hS k).1 hk

/-- a store of what is no row -/
theorem Outl.set {w : World} {T : Nat → Prop} {B : Nat} {s : Sd} (h : Outl w T B s) (j : Nat) (u : Value) (s' : Sd) (hd : s'.data = s.data) (hk : s'.known = s.known)
    (hC : ∀ D c K k, (outC s D c K k).modify j (fun _ => u) = outC s' D c K k) : Outl (w.setCell ⟨B, j, none⟩ u) T B s' := by
  obtain ⟨D, c, K, k, h1, h2, h3, h4, h5, h6⟩ := h
  refine ⟨D, c, K, k, ?_, ?_, ?_, ?_, ?_, h6⟩
  · rw [← hC]; exact h1.set j u
  · rw [hd]; exact h2.only (only_set w B j u) (h4.mono fun k hk => .inl hk)
  · rw [hk]; exact h3.only (only_set w B j u) (h5.mono fun k hk => .inl hk)
  · exact h4.mono fun k hk => by rw [size_set] at hk; exact hk
  · exact h5.mono fun k hk => by rw [size_set] at hk; exact hk
/-- the places heard of are another row -/
theorem Outl.putKnown {w : World} {T : Nat → Prop} {B : Nat} {s : Sd} (h : Outl w T B s) (K' : Option Addr) (ks : List Bool) (n c' : Nat) (hn : ks.length = n) (hl : Ls blS w K' ks) (hc : Clear (fun j => j = B ∨ T j ∨ w.heap.size ≤ j) K') :
    Outl (w.setCell ⟨B, 4, none⟩ (.slice K' n c')) T B { s with known := ks } := by
  subst hn
  obtain ⟨D, c, K, k, h1, h2, h3, h4, h5, h6⟩ := h
  refine ⟨D, c, K', c', ?_, ?_, ?_, ?_, ?_, h6⟩
  · have := h1.set 4 (.slice K' ks.length c'); exact this
  · exact h2.only (only_set w B 4 _) (h4.mono fun k hk => .inl hk)
  · exact hl.only (only_set w B 4 _) (hc.mono fun k hk => .inl hk)
  · exact h4.mono fun k hk => by rw [size_set] at hk; exact hk
  · exact hc.mono fun k hk => by rw [size_set] at hk; exact hk
/-- the bytes are another row -/
theorem Outl.putData {w : World} {T : Nat → Prop} {B : Nat} {s : Sd} (h : Outl w T B s) (D' : Option Addr) (zs : List Int) (n c' : Nat) (hn : zs.length = n) (hl : Ls byS w D' zs) (hc : Clear (fun j => j = B ∨ T j ∨ w.heap.size ≤ j) D') :
    Outl (w.setCell ⟨B, 0, none⟩ (.slice D' n c')) T B { s with data := zs } := by
  subst hn
  obtain ⟨D, c, K, k, h1, h2, h3, h4, h5, h6⟩ := h
  refine ⟨D', c', K, k, ?_, ?_, ?_, ?_, ?_, h6⟩
  · have := h1.set 0 (.slice D' zs.length c'); exact this
  · exact hl.only (only_set w B 0 _) (hc.mono fun k hk => .inl hk)
  · exact h3.only (only_set w B 0 _) (h5.mono fun k hk => .inl hk)
  · exact hc.mono fun k hk => by rw [size_set] at hk; exact hk
  · exact h5.mono fun k hk => by rw [size_set] at hk; exact hk

end Go.Proofs.Ytehckiihipnimaa
