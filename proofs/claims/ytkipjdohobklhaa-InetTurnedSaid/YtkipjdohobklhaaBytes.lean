/-
  Lists of bytes of the call's own: 'OwnB'; the builtin append on them; and the contracts of packthreadkeep.Octets, Picked.
-/
import Derived.Test.YtkipjdohobklhaaInet
import Derived.Test.YtkipjdohobklhaaMem
import Derived.WalkKit
import Derived.Handy
import Derived.Lib.Hide
import Derived.Outline
import Derived.OwnWalk
import Derived.Laws.Rows
namespace Go.Proofs.Ytkipjdohobklhaa
open Go.RowKit
set_option linter.unusedVariables false

theorem byteInfo : (Try.prog.info? 5).map (fun i => (i.zero, i.size, i.bytes)) = some (some (.int .u8 0), 1, 1) := by kernel_rfl

/-- The slice '.slice A n c' is nil, or of the call's own (a block from 'base' on), and holds the n bytes zs. -/
def OwnB (w : World) (base : Nat) (A : Option Addr) (n c : Nat) (zs : List Int) : Prop :=
  (∀ z ∈ zs, 0 ≤ z ∧ z ≤ 255) ∧ zs.length = n ∧ w.ownsRow base 5 1 (.slice A n c) n (zs.map (Value.int .u8))

theorem bs_of_cs {w : World} {A : Option Addr} {zs : List Int} (h0 : ∀ z ∈ zs, 0 ≤ z ∧ z ≤ 255) (h : Cs w A (zs.map (Value.int .u8))) : Bs w A zs := by
  refine ⟨h0, ?_⟩
  rcases h with h | ⟨b, o, rfl, hlt, hc⟩
  · exact .inl (by simpa using h)
  · refine .inr ⟨b, o, rfl, hlt, fun j hj => hc j _ ?_⟩
    rw [List.getElem?_map, List.getElem?_eq_getElem hj]
    simp [hj]
theorem Bs.cs {w : World} {A : Option Addr} {zs : List Int} (h : Bs w A zs) : Cs w A (zs.map (Value.int .u8)) := by
  rcases h.2 with h | ⟨b, o, rfl, hlt, hc⟩
  · exact .inl (by rw [h]; rfl)
  · refine .inr ⟨b, o, rfl, hlt, fun j u hu => ?_⟩
    rw [List.getElem?_map] at hu
    by_cases hj : j < zs.length
    · rw [List.getElem?_eq_getElem hj] at hu
      rw [hc j hj, ← hu]
      simp [hj]
    · rw [List.getElem?_eq_none (by omega)] at hu; cases hu
theorem Bs.below {w w' : World} {A : Option Addr} {zs : List Int} (h : Bs w A zs) (hb : Below w.heap.size w w') : Bs w' A zs := bs_of_cs h.1 (h.cs.below hb)
theorem OwnB.bs {w : World} {base : Nat} {A : Option Addr} {n c : Nat} {zs : List Int} (h : OwnB w base A n c zs) : Bs w A zs := bs_of_cs h.1 (own_cs h.2.2)
theorem OwnB.below {w w' : World} {base : Nat} {A : Option Addr} {n c : Nat} {zs : List Int} (h : OwnB w base A n c zs) (hb : Below w.heap.size w w') : OwnB w' base A n c zs :=
  ⟨h.1, h.2.1, own_below h.2.2 hb⟩
theorem OwnB.base {w : World} {base base' : Nat} {A : Option Addr} {n c : Nat} {zs : List Int} (h : OwnB w base A n c zs) (hb : base' ≤ base) : OwnB w base' A n c zs :=
  ⟨h.1, h.2.1, own_base h.2.2 hb⟩
theorem OwnB.nil (w : World) (base : Nat) : OwnB w base none 0 0 [] := ⟨by simp, rfl, w.ownsRow_nil _ _ _⟩

theorem wpList_appB {ops : Array Oper} {rest : List Oper} {o : Oper} {a : Act} {Q : Exit → Act → World → Prop} (hw : Region.wanted o (yielded ops a.tmps) = true) (w : World) (s x : Operand)
    (ho : o.op = .call { callee := .builtin .append, args := #[s, x], argTypes := #[22, 22] })
    (base : Nat) (A : Option Addr) (n c : Nat) (zs : List Int) (hs : a.eval s = .slice A n c) (hown : OwnB w base A n c zs)
    (B : Option Addr) (m d : Nat) (ys : List Int) (hx : a.eval x = .slice B m d) (hb : Bs w B ys) (hm : ys.length = m)
    (N : Nat) (hN : n + m = N) (small : N ≤ 1000000000) (hbase : base ≤ w.heap.size)
    (h : ∀ A' c' w', OwnB w' base A' N c' (zs ++ ys) → Below base w w' → wpList Try.prog ops Q rest (a.put o.dst (.slice A' N c')) w') : wpList Try.prog ops Q (o :: rest) a w := by
  obtain ⟨i0, hi, hz0, hz1, hz2⟩ := info_parts byteInfo
  refine wpList_app hw w s x 22 ho base 5 i0 (.int .u8 0) 1 1 Try.underlying22 hi hz0 hz1 hz2 rfl (by decide) A n c _ hs hown.2.2 B m d (ys.map (Value.int .u8)) hx (by simpa using hm) hb.cs
    (by intro u hu; simp at hu; obtain ⟨y, _, rfl⟩ := hu; rfl) N hN (by simp only [maxLen]; omega) (by omega) hbase ?_
  intro A' c' w' h2 h3
  refine h A' c' w' ⟨?_, ?_, by simpa using h2⟩ h3
  · intro z hz
    rcases List.mem_append.1 hz with h | h
    · exact hown.1 z h
    · exact hb.1 z h
  · rw [List.length_append, hown.2.1, hm, hN]

theorem step_appB {ops : Array Oper} {o : Oper} {a : Act} {K : Act → World → Prop} {Q : Exit → Act → World → Prop} {E : Prop} (hw : Region.wanted o (yielded ops a.tmps) = true) (w : World) (s x : Operand)
    (ho : o.op = .call { callee := .builtin .append, args := #[s, x], argTypes := #[22, 22] })
    (base : Nat) (A : Option Addr) (n c : Nat) (zs : List Int) (hs : a.eval s = .slice A n c) (hown : OwnB w base A n c zs)
    (B : Option Addr) (m d : Nat) (ys : List Int) (hx : a.eval x = .slice B m d) (hb : Bs w B ys) (hm : ys.length = m)
    (N : Nat) (hN : n + m = N) (small : N ≤ 1000000000) (hbase : base ≤ w.heap.size)
    (h : ∀ A' c' w', OwnB w' base A' N c' (zs ++ ys) → Below base w w' → K (a.put o.dst (.slice A' N c')) w') : if Region.wanted o (yielded ops a.tmps) = true then Oper.wp Try.prog o a w K Q else E := by
  obtain ⟨i0, hi, hz0, hz1, hz2⟩ := info_parts byteInfo
  refine step_app hw w s x 22 ho base 5 i0 (.int .u8 0) 1 1 Try.underlying22 hi hz0 hz1 hz2 rfl (by decide) A n c _ hs hown.2.2 B m d (ys.map (Value.int .u8)) hx (by simpa using hm) hb.cs
    (by intro u hu; simp at hu; obtain ⟨y, _, rfl⟩ := hu; rfl) N hN (by simp only [maxLen]; omega) (by omega) hbase ?_
  intro A' c' w' h2 h3
  refine h A' c' w' ⟨?_, ?_, by simpa using h2⟩ h3
  · intro z hz
    rcases List.mem_append.1 hz with h | h
    · exact hown.1 z h
    · exact hb.1 z h
  · rw [List.length_append, hown.2.1, hm, hN]

/-- a call's answer: m bytes of its own -/
def RetB (W : World) (m : Nat) (zs : List Int) (e : Ending) (w' : World) : Prop :=
  ∃ A c, e = .returned (.slice A m c) ∧ OwnB w' W.heap.size A m c zs ∧ Below W.heap.size W w'

theorem Bs.take {w : World} {A : Option Addr} {zs : List Int} (h : Bs w A zs) (k : Nat) : Bs w A (zs.take k) :=
  bs_of_cs (fun z hz => h.1 z (List.mem_of_mem_take hz)) (by rw [List.map_take]; exact h.cs.take k)

theorem octets_any (A : Option Addr) (n c k m : Nat) (zs : List Int) (w : World) (hb : Bs w A zs) (hn : zs.length = n) (hc : n ≤ c) (h47 : c ≤ 140737488355328) (hk : k ≤ 1000000) (hm : m ≤ n) (hm2 : m ≤ k) (hm3 : n ≤ k → m = n) (hm4 : k ≤ n → m = k) :
    Calls Try.prog 19 #[.slice A n c, .int .i64 k] w (RetB w m (zs.take m)) := by
  have HB := Lib.hid hb
  have HN := Lib.hid hn
  clear hb hn
  have HT : Hid ((zs.take m).length = m) := Lib.hid (by rw [List.length_take, HN.out]; omega)
  by_cases h : n ≤ k
  · have M := hm3 h
    clear hm3 hm4
    subst M
    go_enter Try.func19, Try.ntmps19
    go_wp2_with (at_builtin; refine wpList_appB rfl w (.const (.slice none 0 0)) (.tmp 10) rfl w.heap.size none 0 0 [] rfl (OwnB.nil _ _) A m c (zs.take m) rfl (HB.out.take m) HT.out m (by omega) (by omega) (Nat.le_refl _) ?_; intro A1 c1 w1 ho1 hb1)
    go_ret
    exact ⟨A1, c1, rfl, ho1, hb1⟩
  · have M := hm4 (by omega)
    clear hm3 hm4
    subst M
    go_enter Try.func19, Try.ntmps19
    go_wp2_with (at_builtin; refine wpList_appB rfl w (.const (.slice none 0 0)) (.tmp 10) rfl w.heap.size none 0 0 [] rfl (OwnB.nil _ _) A m c (zs.take m) rfl (HB.out.take m) HT.out m (by omega) (by omega) (Nat.le_refl _) ?_; intro A1 c1 w1 ho1 hb1)
    go_ret
    exact ⟨A1, c1, rfl, ho1, hb1⟩

/-- A list of bytes that has just been laid. -/
theorem bs_new (w : World) (t : TypeId) (zs : List Int) (cs : Array Value) (h0 : ∀ z ∈ zs, 0 ≤ z ∧ z ≤ 255) (hcs : cs = (zs.map (Value.int .u8)).toArray) (b : Nat) (hb : b = w.heap.size) : Bs (w.alloc (.cells cs t)) (some ⟨b, 0, none⟩) zs := by
  subst hb; subst hcs
  refine bs_of_cs h0 (.inr ⟨w.heap.size, 0, rfl, by simp, fun j u hu => ?_⟩)
  have hh : (w.alloc (.cells (zs.map (Value.int .u8)).toArray t)).heap[w.heap.size]? = some (.cells (zs.map (Value.int .u8)).toArray t (0, 0)) := heap_alloc_new w _
  rw [Nat.zero_add, cell_of_row _ _ j _ t (0, 0) hh]
  simpa using hu

theorem sure_any (w : World) :
    Calls Try.prog 20 #[] w fun e w' => e = .returned (.bool true) ∧ Below w.heap.size w w' := by
  have hf : Hid (fo (tot 0 [1, 2, 3]) = 1026) := Lib.hid (by decide)
  go_enter Try.func20, Try.ntmps20
  go_wp2_with (go_at_call 12; refine (fold_any _ 3 3 [1, 2, 3] _ (bs_new _ _ _ _ (by simp) rfl _ rfl) rfl (by omega)).mono ?_; rw [hf.out]; rintro e w' ⟨rfl, rfl⟩)
  go_ret
  exact ⟨rfl, (Below.refl _ _).alloc (Nat.le_refl _) _⟩

end Go.Proofs.Ytkipjdohobklhaa
