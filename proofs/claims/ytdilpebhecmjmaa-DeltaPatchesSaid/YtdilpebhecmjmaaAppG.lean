/-
  append of a great list onto nil or an own row. Nothing of the program.
-/
import Derived.Test.YtdilpebhecmjmaaRow
namespace Go.Proofs.Ytdilpebhecmjmaa
open Go.RowKit
set_option linter.unusedVariables false
variable {α : Type} {F : Shape α} {e : TypeId} {P : Program}

theorem wpList_appG {ops : Array Oper} {rest : List Oper} {o : Oper} {a : Act} {Q : Exit → Act → World → Prop} (hw : Region.wanted o (yielded ops a.tmps) = true) (w : World) (s x : Operand) (t : TypeId)
    (ho : o.op = .call { callee := .builtin .append, args := #[s, x], argTypes := #[t, t] })
    (z : Value) (bytes : Nat) (ht : P.underlying t = some (.slice e)) (hinfo : (P.info? e).map (fun i => (i.zero, i.size, i.bytes)) = some (some z, F.size, bytes)) (hzs : z.cells.size = F.size)
    (base : Nat) (A : Option Addr) (n c : Nat) (zs : List α) (hs : a.eval s = .slice A n c) (hown : OwnL F e w base A n c zs)
    (B : Option Addr) (m d : Nat) (ys : List α) (hx : a.eval x = .slice B m d) (hb : Ls F w B ys) (hm : ys.length = m)
    (N : Nat) (hN : n + m = N) (small : N ≤ 281474976710656) (hby : N * bytes ≤ 140737488355328) (hbase : base ≤ w.heap.size)
    (h : ∀ A' c' w', OwnL F e w' base A' N c' (zs ++ ys) → Below base w w' → Beside (.slice A n c) (.slice A' N c') w w' → wpList P ops Q rest (a.put o.dst (.slice A' N c')) w') : wpList P ops Q (o :: rest) a w := by
  obtain ⟨i0, hi, hz0, hz1, hz2⟩ := info_parts hinfo
  refine wpList_app3 hw w s x t ho base e i0 _ F.size bytes ht hi hz0 hz1 hz2 hzs F.pos A n c _ hs hown.2 B m d (F.flat ys) hx (by rw [F.flat_len, hm]) hb
    (F.flat_one ys) N hN (by simp only [maxLen]; omega) (by rw [hN]; exact hby) hbase ?_
  intro A' c' w' h2 h3 h4
  exact h A' c' w' ⟨by rw [List.length_append, hown.1, hm, hN], by rw [F.flat_app]; exact h2⟩ h3 h4


end Go.Proofs.Ytdilpebhecmjmaa
