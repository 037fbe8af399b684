/-
  The tree in memory.
-/
import Derived.Test.YthjpighlcalocaaGreatDoorDirMap
import Derived.Test.YthjpighlcalocaaGreatDoorTreeMath
import Derived.Test.YthjpighlcalocaaGreatDoorBy
namespace Go.Proofs.YthjpighlcalocaaGreatDoor
open Go.RowKit Go.Maps
set_option linter.unusedVariables false
set_option linter.unusedSimpArgs false

/-- what a block of the tree is: the tree itself, a node's struct, its map, its bytes -/
inductive Role where
  | top
  | str (i : Nat)
  | map (i : Nat)
  | row (i : Nat)
abbrev Rl := Nat → Option Role
/-- the type of a pointer to a node of a kind -/
def tyK (k : Nat) : Nat := if k = 1 then 68 else if k = 2 then 73 else 112
/-- node i as the program names it -/
def vtx (T : Wd) (p : Nat → Nat) (i : Nat) : Nat × Nat := (tyK (nd T i).kind, p i)
def nodeV (T : Wd) (p : Nat → Nat) (i : Nat) : Value := mkV (some (vtx T p i))
/-- the names of directory i -/
def namesM (T : Wd) (p : Nat → Nat) (i : Nat) : Byt → Option (Nat × Nat) := fun nm => (child T i nm).map (vtx T p)

/-- node i lies where it should -/
def NodeAt (w : World) (f : Rl) (p : Nat → Nat) (T : Wd) (K i : Nat) : Prop :=
  f (p i) = some (.str i) ∧
  (((nd T i).kind = 1 ∧ ∃ m, f m = some (.map i) ∧ Bx 107 w (p i) #[.map (some m)] ∧ DirIs w m K (namesM T p i)) ∨
   ((nd T i).kind = 2 ∧ ∃ A c, Bx 75 w (p i) #[.slice A (nd T i).data.length c] ∧ OwnL byS 5 w 0 A (nd T i).data.length c (nd T i).data ∧ ∀ k, (Value.slice A (nd T i).data.length c).ownBlock = some k → f k = some (.row i)) ∨
   ((nd T i).kind = 3 ∧ Bx 114 w (p i) #[.string (tx (nd T i).to)]))

/-- block tb is the tree T, whose names' maps had at most K stores; f: what its blocks are; p: where its nodes are -/
structure TreeIs (w : World) (tb : Nat) (T : Wd) (f : Rl) (p : Nat → Nat) (K : Nat) : Prop where
  wf : WF T
  top : Bx 71 w tb #[.pointer (some ⟨p 0, 0, none⟩), .int .i64 (liveN T : Nat)]
  ftop : f tb = some .top
  lt : ∀ b, f b ≠ none → b < w.heap.size
  node : ∀ i, Live T i → NodeAt w f p T K i

section
variable {w w' : World} {f : Rl} {p : Nat → Nat} {T : Wd} {K i : Nat} {tb : Nat}
theorem NodeAt.only {S : Nat → Prop} (h : NodeAt w f p T K i) (ho : Only S w w') (hS : ∀ b, S b → f b = none) : NodeAt w' f p T K i := by
  obtain ⟨h0, h⟩ := h
  have hn : ∀ b r, f b = some r → ¬ S b := fun b r hb hs => by rw [hS b hs] at hb; cases hb
  refine ⟨h0, ?_⟩
  rcases h with ⟨hk, m, hm, hb, hd⟩ | ⟨hk, A, c, hb, hr, hf⟩ | ⟨hk, hb⟩
  · exact .inl ⟨hk, m, hm, hb.only ho (hn _ _ h0), hd.only ho (hn _ _ hm)⟩
  · exact .inr (.inl ⟨hk, A, c, hb.only ho (hn _ _ h0), ⟨hr.1, own_only hr.2 ho (fun k hk => hn _ _ (hf k hk))⟩, hf⟩)
  · exact .inr (.inr ⟨hk, hb.only ho (hn _ _ h0)⟩)
theorem TreeIs.only {S : Nat → Prop} (h : TreeIs w tb T f p K) (ho : Only S w w') (hS : ∀ b, S b → f b = none) : TreeIs w' tb T f p K :=
  ⟨h.wf, h.top.only ho (fun hs => by have := h.ftop; rw [hS _ hs] at this; cases this), h.ftop, fun b hb => Nat.lt_of_lt_of_le (h.lt b hb) ho.size, fun i hi => (h.node i hi).only ho hS⟩
theorem TreeIs.new (h : TreeIs w tb T f p K) (hb : Below w.heap.size w w') : TreeIs w' tb T f p K := h.only (S := fun _ => False) (only_new hb) (fun _ h => h.elim)
theorem TreeIs.mono (h : TreeIs w tb T f p K) {K' : Nat} (hK : K ≤ K') : TreeIs w tb T f p K' :=
  ⟨h.wf, h.top, h.ftop, h.lt, fun i hi => by
    obtain ⟨h0, h⟩ := h.node i hi
    refine ⟨h0, ?_⟩
    rcases h with ⟨hk, m, hm, hb, hd⟩ | h | h
    · exact .inl ⟨hk, m, hm, hb, hd.mono hK⟩
    · exact .inr (.inl h)
    · exact .inr (.inr h)⟩
/-- no two nodes lie in one block -/
theorem TreeIs.inj (h : TreeIs w tb T f p K) {i j : Nat} (hi : Live T i) (hj : Live T j) (e : p i = p j) : i = j := by
  have h1 := (h.node i hi).1
  have h2 := (h.node j hj).1
  rw [e, h2] at h1
  injection h1 with h1; injection h1 with h1; exact h1.symm
theorem TreeIs.dir (h : TreeIs w tb T f p K) (hi : Live T i) (hk : (nd T i).kind = 1) : ∃ m, f m = some (.map i) ∧ f (p i) = some (.str i) ∧ Bx 107 w (p i) #[.map (some m)] ∧ DirIs w m K (namesM T p i) := by
  obtain ⟨h0, ⟨_, m, h1, h2, h3⟩ | ⟨k, _⟩ | ⟨k, _⟩⟩ := h.node i hi
  · exact ⟨m, h1, h0, h2, h3⟩
  · omega
  · omega
theorem TreeIs.file (h : TreeIs w tb T f p K) (hi : Live T i) (hk : (nd T i).kind = 2) : ∃ A c, f (p i) = some (.str i) ∧ Bx 75 w (p i) #[.slice A (nd T i).data.length c] ∧ OwnL byS 5 w 0 A (nd T i).data.length c (nd T i).data ∧ ∀ k, (Value.slice A (nd T i).data.length c).ownBlock = some k → f k = some (.row i) := by
  obtain ⟨h0, ⟨k, _⟩ | ⟨_, A, c, h1, h2, h3⟩ | ⟨k, _⟩⟩ := h.node i hi
  · omega
  · exact ⟨A, c, h0, h1, h2, h3⟩
  · omega
theorem TreeIs.link (h : TreeIs w tb T f p K) (hi : Live T i) (hk : (nd T i).kind = 3) : Bx 114 w (p i) #[.string (tx (nd T i).to)] := by
  obtain ⟨h0, ⟨k, _⟩ | ⟨k, _⟩ | ⟨_, h1⟩⟩ := h.node i hi
  · omega
  · omega
  · exact h1
end

/-- a place as the program names it: the directory, the name, the node -/
def placeC (T : Wd) (p : Nat → Nat) (c : Nat) : Array Value := #[.pointer (if c = 0 then none else some ⟨p (nd T c).inn, 0, none⟩), .string (tx (nd T c).name), nodeV T p c]
def noPlace : Array Value := #[.pointer none, .string ⟨#[]⟩, .nilIface]
theorem placeC_pos {T : Wd} {p : Nat → Nat} {c : Nat} (h : 0 < c) : placeC T p c = #[.pointer (some ⟨p (nd T c).inn, 0, none⟩), .string (tx (nd T c).name), nodeV T p c] := by
  unfold placeC; rw [if_neg (by omega)]
theorem nodeV_1 {T : Wd} {p : Nat → Nat} {c : Nat} (h : (nd T c).kind = 1) : nodeV T p c = .iface 68 (.pointer (some ⟨p c, 0, none⟩)) := by
  unfold nodeV vtx tyK mkV; rw [if_pos h]
theorem nodeV_2 {T : Wd} {p : Nat → Nat} {c : Nat} (h : (nd T c).kind = 2) : nodeV T p c = .iface 73 (.pointer (some ⟨p c, 0, none⟩)) := by
  unfold nodeV vtx tyK mkV; rw [if_neg (by omega), if_pos h]
theorem nodeV_3 {T : Wd} {p : Nat → Nat} {c : Nat} (h : (nd T c).kind = 3) : nodeV T p c = .iface 112 (.pointer (some ⟨p c, 0, none⟩)) := by
  unfold nodeV vtx tyK mkV; rw [if_neg (by omega), if_neg (by omega)]

end Go.Proofs.YthjpighlcalocaaGreatDoor
