/-
  The program's sender in memory: what it holds; stores into it.
-/
import Derived.Test.YtehckiihipnimaaSents
import Derived.Test.YtehckiihipnimaaSendRel
import Derived.Test.YtehckiihipnimaaOutletPut
import Derived.Test.YtehckiihipnimaaRg
namespace Go.Proofs.Ytehckiihipnimaa
open Go.RowKit
set_option linter.unusedVariables false
set_option linter.unusedSimpArgs false

theorem rcells_flat : ∀ l : List Rg, rcells l = rgS.flat l
  | [] => rfl
  | x :: t => by show _ = rgS.cells x ++ rgS.flat t; rw [← rcells_flat t]; rfl
theorem ls_rs {w : World} {A : Option Addr} {l : List Rg} : Ls rgS w A l ↔ Rs w A l := by unfold Ls Rs; rw [rcells_flat]

def snC (dt : List Int) (cl : Bool) (sn ag : Nat) (dn : Int) (bt : List Rg) (ed : Int) (D : Option Addr) (dc : Nat) (Y : Option Addr) (yc : Nat) : Array Value :=
  #[.slice D dt.length dc, .bool cl, .int .i64 sn, .int .i64 ag, .int .i64 dn, .slice Y bt.length yc, .int .i64 ed]
/-- the sender lies at block B; its rows lie in none of T -/
def SM (w : World) (T : Nat → Prop) (B : Nat) (dt : List Int) (cl : Bool) (sn ag : Nat) (dn : Int) (bt : List Rg) (ed : Int) : Prop :=
  ∃ D dc Y yc, Bx 87 w B (snC dt cl sn ag dn bt ed D dc Y yc) ∧ OwnL byS 5 w (B + 1) D dt.length dc dt ∧ Ls rgS w Y bt ∧
    Clear (fun j => j = B ∨ T j ∨ w.heap.size ≤ j ∨ (Value.slice D dt.length dc).ownBlock = some j) Y ∧ (∀ k, (Value.slice D dt.length dc).ownBlock = some k → ¬ T k) ∧ ¬ T B
def Sndr (w : World) (T : Nat → Prop) (B : Nat) (s : Sd) : Prop := ∃ (dn : Int) (bt : List Rg) (ag : Nat), SM w T B s.data s.closed s.sent ag dn bt s.edge ∧ Rel s dn bt ag

section
variable {w w' : World} {T T' S : Nat → Prop} {B : Nat} {dt : List Int} {cl : Bool} {sn ag : Nat} {dn : Int} {bt : List Rg} {ed : Int}
theorem SM.lt (h : SM w T B dt cl sn ag dn bt ed) : B < w.heap.size := by obtain ⟨D, dc, Y, yc, h1, _⟩ := h; exact h1.lt
theorem SM.only (h : SM w T B dt cl sn ag dn bt ed) (ho : Only S w w') (hS : ∀ k, S k → T k ∨ w.heap.size ≤ k) (hT : ∀ k, T' k → T k ∨ w.heap.size ≤ k) : SM w' T' B dt cl sn ag dn bt ed := by
  obtain ⟨D, dc, Y, yc, h1, h2, h3, h4, h5, h6⟩ := h
  have hlt := h1.lt
  have hS' : ∀ k, S k → ¬ k = B ∧ ¬ (Value.slice D dt.length dc).ownBlock = some k := fun k hk => by
    rcases hS k hk with g | g
    · exact ⟨fun e => h6 (e ▸ g), fun e => h5 k e g⟩
    · exact ⟨fun e => by omega, fun e => by have := (h2.lt k e).2; omega⟩
  refine ⟨D, dc, Y, yc, h1.only ho (fun g => (hS' B g).1 rfl), h2.only ho (fun k hk g => (hS' k g).2 hk), h3.only ho (fun a ha g => h4 a ha ?_), fun a ha g => h4 a ha ?_, fun k hk g => ?_, fun g => ?_⟩
  · rcases hS _ g with g | g
    · exact .inr (.inl g)
    · exact .inr (.inr (.inl g))
  · have := ho.size
    rcases g with g | g | g | g
    · exact .inl g
    · rcases hT _ g with g | g
      · exact .inr (.inl g)
      · exact .inr (.inr (.inl g))
    · exact .inr (.inr (.inl (by omega)))
    · exact .inr (.inr (.inr g))
  · rcases hT k g with g | g
    · exact h5 k hk g
    · have := (h2.lt k hk).2; omega
  · rcases hT B g with g | g
    · exact h6 g
    · omega
theorem SM.new (h : SM w T B dt cl sn ag dn bt ed) (ho : Below w.heap.size w w') : SM w' T B dt cl sn ag dn bt ed := h.only (S := fun _ => False) (only_new ho) (fun _ h => h.elim) (fun _ h => .inl h)
theorem SM.cells (h : SM w T B dt cl sn ag dn bt ed) : ∃ D dc Y yc,
    (w.cell? ⟨B, 0, none⟩ = some (.slice D dt.length dc) ∧ w.cell? ⟨B, 1, none⟩ = some (.bool cl) ∧ w.cell? ⟨B, 2, none⟩ = some (.int .i64 sn) ∧ w.cell? ⟨B, 3, none⟩ = some (.int .i64 ag) ∧ w.cell? ⟨B, 4, none⟩ = some (.int .i64 dn) ∧ w.cell? ⟨B, 5, none⟩ = some (.slice Y bt.length yc) ∧ w.cell? ⟨B, 6, none⟩ = some (.int .i64 ed)) ∧
    (∀ j, w.frozen? ⟨B, j, none⟩ = false) ∧ OwnL byS 5 w (B + 1) D dt.length dc dt ∧ Ls rgS w Y bt := by
  obtain ⟨D, dc, Y, yc, h1, h2, h3, -, -, -⟩ := h
  exact ⟨D, dc, Y, yc, ⟨h1.cell 0 _ rfl, h1.cell 1 _ rfl, h1.cell 2 _ rfl, h1.cell 3 _ rfl, h1.cell 4 _ rfl, h1.cell 5 _ rfl, h1.cell 6 _ rfl⟩, fun j => h1.soft j, h2, h3⟩
/-- a store of what is no row -/
theorem SM.set (h : SM w T B dt cl sn ag dn bt ed) (j : Nat) (u : Value) (cl' : Bool) (sn' ag' : Nat) (dn' ed' : Int)
    (hC : ∀ D dc Y yc, (snC dt cl sn ag dn bt ed D dc Y yc).modify j (fun _ => u) = snC dt cl' sn' ag' dn' bt ed' D dc Y yc) : SM (w.setCell ⟨B, j, none⟩ u) T B dt cl' sn' ag' dn' bt ed' := by
  obtain ⟨D, dc, Y, yc, h1, h2, h3, h4, h5, h6⟩ := h
  refine ⟨D, dc, Y, yc, ?_, h2.only (only_set w B j u) (fun k hk e => by have := (h2.lt k hk).1; omega), h3.only (only_set w B j u) (h4.mono fun k hk => .inl hk), h4.mono fun k hk => ?_, h5, h6⟩
  · rw [← hC]; exact h1.set j u
  · rw [size_set] at hk; exact hk
/-- more bytes: its own row has grown -/
theorem SM.grow (h : SM w T B dt cl sn ag dn bt ed) (D : Option Addr) (dc : Nat) (h0 : w.cell? ⟨B, 0, none⟩ = some (.slice D dt.length dc)) (D' : Option Addr) (dt' : List Int) (n dc' : Nat) (hn : dt'.length = n)
    (ho : OwnL byS 5 w' (B + 1) D' n dc' dt') (hb : Below (B + 1) w w') (hs : Beside (.slice D dt.length dc) (.slice D' n dc') w w') (hT : ∀ k, T k → k < w.heap.size) : SM (w'.setCell ⟨B, 0, none⟩ (.slice D' n dc')) T B dt' cl sn ag dn bt ed ∧ Only (fun k => k = B ∨ (Value.slice D dt.length dc).ownBlock = some k) w (w'.setCell ⟨B, 0, none⟩ (.slice D' n dc')) := by
  subst hn
  obtain ⟨D0, dc0, Y, yc, h1, h2, h3, h4, h5, h6⟩ := h
  have e := h1.cell 0 _ rfl
  rw [h0] at e
  injection e with e
  injection e with e1 _ e3
  subst e1; subst e3
  have hon := hs.only hb
  have hc : Clear (fun j => j = B ∨ T j ∨ w'.heap.size ≤ j ∨ (Value.slice D' dt'.length dc').ownBlock = some j) Y := fun a ha g => h4 a ha (by
    have := hon.size
    rcases g with g | g | g | g
    · exact .inl g
    · exact .inr (.inl g)
    · exact .inr (.inr (.inl (by omega)))
    · rcases hs.own _ g with q | q
      · exact .inr (.inr (.inr q))
      · exact .inr (.inr (.inl q)))
  have hx := h1.only hon (fun g => by have := (h2.lt B g).1; omega)
  refine ⟨⟨D', dc', Y, yc, ?_, ho.only (only_set w' B 0 _) (fun k hk e => by have := (ho.lt k hk).1; omega), (h3.only hon (fun a ha g => h4 a ha (.inr (.inr (.inr g))))).only (only_set w' B 0 _) (hc.mono fun k hk => .inl hk), hc.mono fun k hk => ?_, fun k hk g => ?_, h6⟩, (hon.mono fun k hk => .inr hk).trans (only_set w' B 0 _) (fun k hk => .inl (.inl hk))⟩
  · have := hx.set 0 (.slice D' dt'.length dc'); exact this
  · rw [size_set] at hk; exact hk
  · rcases hs.own k hk with q | q
    · exact h5 k q g
    · have := hT k g; omega
theorem SM.ownT (h : SM w T B dt cl sn ag dn bt ed) (D : Option Addr) (dc : Nat) (h0 : w.cell? ⟨B, 0, none⟩ = some (.slice D dt.length dc)) : ∀ k, (Value.slice D dt.length dc).ownBlock = some k → B < k ∧ ¬ T k := by
  obtain ⟨D0, dc0, Y, yc, h1, h2, h3, h4, h5, h6⟩ := h
  have e := h1.cell 0 _ rfl
  rw [h0] at e
  injection e with e
  injection e with e1 _ e3
  subst e1; subst e3
  exact fun k hk => ⟨(h2.lt k hk).1, h5 k hk⟩
/-- other ranges -/
theorem SM.setBeyond (h : SM w T B dt cl sn ag dn bt ed) (Y' : Option Addr) (bt' : List Rg) (n yc' : Nat) (hn : bt'.length = n) (hl : Ls rgS w Y' bt') (lo : Nat) (hcl : ∀ a, Y' = some a → lo ≤ a.block ∧ a.block < w.heap.size) (hlo : B < lo) (hTlo : ∀ k, T k → k < lo)
    (hD : ∀ (D : Option Addr) (dc : Nat), w.cell? ⟨B, 0, none⟩ = some (.slice D dt.length dc) → ∀ k, (Value.slice D dt.length dc).ownBlock = some k → k < lo) : SM (w.setCell ⟨B, 5, none⟩ (.slice Y' n yc')) T B dt cl sn ag dn bt' ed := by
  subst hn
  obtain ⟨D, dc, Y, yc, h1, h2, h3, h4, h5, h6⟩ := h
  have hDk := hD D dc (h1.cell 0 _ rfl)
  have hc : Clear (fun j => j = B ∨ T j ∨ w.heap.size ≤ j ∨ (Value.slice D dt.length dc).ownBlock = some j) Y' := fun a ha g => by
    obtain ⟨q1, q2⟩ := hcl a ha
    rcases g with g | g | g | g
    · omega
    · have := hTlo _ g; omega
    · omega
    · have := hDk _ g; omega
  refine ⟨D, dc, Y', yc', ?_, h2.only (only_set w B 5 _) (fun k hk e => by have := (h2.lt k hk).1; omega), hl.only (only_set w B 5 _) (hc.mono fun k hk => .inl hk), hc.mono fun k hk => ?_, h5, h6⟩
  · have := h1.set 5 (.slice Y' bt'.length yc'); exact this
  · rw [size_set] at hk; exact hk
end

/-- what a method may turn: nothing below B, nothing of T -/
def Eff (T : Nat → Prop) (B : Nat) (w w' : World) : Prop := Only (fun k => B ≤ k ∧ ¬ T k) w w'
theorem Eff.refl (T : Nat → Prop) (B : Nat) (w : World) : Eff T B w w := Only.refl _ _
theorem Eff.trans {T : Nat → Prop} {B : Nat} {w0 w w' : World} (h : Eff T B w0 w) (k : Eff T B w w') : Eff T B w0 w' := Only.trans h k (fun _ hj => .inl hj)
theorem Eff.of {T S : Nat → Prop} {B : Nat} {w w' : World} (h : Only S w w') (hS : ∀ k, S k → B ≤ k ∧ ¬ T k) : Eff T B w w' := h.mono hS
theorem Eff.set {T : Nat → Prop} {B : Nat} (w : World) (hT : ¬ T B) (j : Nat) (u : Value) : Eff T B w (w.setCell ⟨B, j, none⟩ u) := Eff.of (only_set w B j u) (fun k hk => by subst hk; exact ⟨Nat.le_refl _, hT⟩)
theorem Eff.new {T : Nat → Prop} {B : Nat} {w w' : World} (h : Below w.heap.size w w') : Eff T B w w' := only_new h
theorem SM.notT {w : World} {T : Nat → Prop} {B : Nat} {dt : List Int} {cl : Bool} {sn ag : Nat} {dn : Int} {bt : List Rg} {ed : Int} (h : SM w T B dt cl sn ag dn bt ed) : ¬ T B := by obtain ⟨D, dc, Y, yc, -, -, -, -, -, h6⟩ := h; exact h6

theorem splaces_any (w : World) (T : Nat → Prop) (B : Nat) (dt : List Int) (cl : Bool) (sn ag : Nat) (dn : Int) (bt : List Rg) (ed : Int) (h : SM w T B dt cl sn ag dn bt ed) (hl : dt.length ≤ 1048575) (p : Nat) (hp : p = dt.length + (if cl then 1 else 0)) :
    Calls Try.prog 71 #[.pointer (some ⟨B, 0, none⟩)] w fun e w' => e = .returned (.int .i64 p) ∧ w = w' := by
  obtain ⟨D, dc, Y, yc, ⟨c0, c1, -, -, -, -, -⟩, -, -, -⟩ := h.cells
  obtain ⟨n, hn⟩ : ∃ n, n = dt.length := ⟨_, rfl⟩
  rw [← hn] at c0 hl hp
  have hB := h.lt
  clear h hn
  cases cl with
  | false =>
    simp at hp
    subst hp
    go_enter Try.func71, Try.ntmps71
    go_wp2
    go_ret
    exact ⟨rfl, rfl⟩
  | true =>
    simp at hp
    subst hp
    go_enter Try.func71, Try.ntmps71
    go_wp2
    go_ret
    exact ⟨by simp, rfl⟩

theorem finish_any (w : World) (T : Nat → Prop) (B : Nat) (dt : List Int) (cl : Bool) (sn ag : Nat) (dn : Int) (bt : List Rg) (ed : Int) (h : SM w T B dt cl sn ag dn bt ed) :
    Calls Try.prog 51 #[.pointer (some ⟨B, 0, none⟩)] w fun e w' => e = .returned (.int .i64 (if cl then 10 else 0)) ∧ SM w' T B dt true sn ag dn bt ed ∧ Eff T B w w' := by
  obtain ⟨D, dc, Y, yc, ⟨c0, c1, -, -, -, -, -⟩, hf, -, -⟩ := h.cells
  have f1 := hf 1
  have hB := h.lt
  have H := Lib.hid h
  clear h hf
  cases cl with
  | false =>
    go_enter Try.func51, Try.ntmps51
    go_wp2
    go_ret
    exact ⟨rfl, H.out.set 1 (.bool true) true sn ag dn ed (fun _ _ _ _ => rfl), Eff.set _ H.out.notT _ _⟩
  | true =>
    go_enter Try.func51, Try.ntmps51
    go_wp2
    go_ret
    exact ⟨rfl, H.out, Eff.refl _ _ _⟩

end Go.Proofs.Ytehckiihipnimaa
