/-
  The builtin append onto an own row, inside a fence (a round of a range over a function). slices.Clone of texts.
-/
import Derived.Test.YthjpighlcalocaaGreatDoorRetN
import Derived.OwnWalkIn
import Derived.Lib.SliceRun
import Derived.Laws.Cover1
namespace Go.Proofs.YthjpighlcalocaaGreatDoor
open Go.RowKit
set_option linter.unusedVariables false
set_option linter.unusedSimpArgs false

theorem wpListIn_appL {α : Type} {Sh : Shape α} {e : TypeId} {F : Fence} {n' : Nat} {P : Program} {ops : Array Oper} {rest : List Oper} {o : Oper} {a : Act} {Q : Exit → Act → World → Prop} (hg : o.guard = none) (w : World) (s x : Operand) (t : TypeId)
    (hop : o.op = .call { callee := .builtin .append, args := #[s, x], argTypes := #[t, t] })
    (z : Value) (bytes : Nat) (ht : P.underlying t = some (.slice e)) (hinfo : (P.info? e).map (fun i => (i.zero, i.size, i.bytes)) = some (some z, Sh.size, bytes)) (hzs : z.cells.size = Sh.size)
    (base : Nat) (A : Option Addr) (n c : Nat) (zs : List α) (hs : a.eval s = .slice A n c) (hown : OwnL Sh e w base A n c zs)
    (B : Option Addr) (m d : Nat) (ys : List α) (hx : a.eval x = .slice B m d) (hb : Ls Sh w B ys) (hm : ys.length = m)
    (N : Nat) (hN : n + m = N) (small : N ≤ 1000000000) (hby : N * bytes ≤ 140737488355328) (hbase : base ≤ w.heap.size)
    (h : ∀ A' c' w', OwnL Sh e w' base A' N c' (zs ++ ys) → Below base w w' → Beside (.slice A n c) (.slice A' N c') w w' → wpListIn F n' P ops Q rest (a.put o.dst (.slice A' N c')) w') : wpListIn F n' P ops Q (o :: rest) a w := by
  obtain ⟨i0, hi, hz0, hz1, hz2⟩ := info_parts hinfo
  subst hN
  refine wpListIn_plain hg fun K hK' => ?_
  obtain ⟨A', c', w', hrun, h2, h3, h4⟩ := run_app3 (P := P) w base t o.type e i0 z Sh.size bytes ht hi hz0 hz1 hz2 hzs Sh.pos A n c _ hown.2 B m d (Sh.flat ys) (by rw [Sh.flat_len, hm]) hb (Sh.flat_one ys) (by simp only [maxLen]; omega) hby hbase
  unfold Oper.wpIn
  refine ⟨?_, ?_⟩
  · simp [Oper.about, hop, resolve, Target.leads, Sem.run_pure]
  · rw [Oper.semAt_plain F _ _ (by rw [hop]; intro c hc'; cases hc')]
    simp [execOp, hop, resolve, invoke, builtin, hs, hx, hrun, Result.andThen]
    exact hK' _ _ (h A' c' w' ⟨by rw [List.length_append, hown.1, hm], by rw [Sh.flat_app]; exact h2⟩ h3 h4)

theorem cloneT_any (A : Option Addr) (n c : Nat) (l : List Byt) (w : World) (hb : Ls stS w A l) (hn : l.length = n) (hm : n ≤ 1000000) :
    Calls Tryz.prog 96 #[.slice A n c] w fun e w' => ∃ A' c', e = .returned (.slice A' n c') ∧ OwnL stS 9 w' w.heap.size A' n c' l ∧ Below w.heap.size w w' := by
  have HB := Lib.hid hb
  have HN := Lib.hid hn
  clear hb hn
  rcases A with _ | a
  · have hl0 : l = [] := by
      rcases hl : l with _ | ⟨x, t⟩
      · rfl
      · obtain ⟨b, o, h, -⟩ := HB.out.text 0 (by rw [hl]; simp)
        cases h
    obtain rfl : n = 0 := by rw [← HN.out, hl0]; rfl
    have hl := Lib.hid hl0
    clear hl0
    go_enter Tryz.func96, Tryz.ntmps96
    have hnil : ∀ w : World, (binOp .eql 29 (.slice none 0 c) (.slice none 0 0)).run Tryz.prog w = .ok (.bool true) w := fun w => Lib.run_eql_slice_nil w 29 9 none 0 c 0 0 Tryz.underlying29
    go_wp2
    go_ret
    exact ⟨none, 0, rfl, by rw [hl.out]; exact OwnL.nil _ _, Below.refl _ _⟩
  · go_enter Tryz.func96, Tryz.ntmps96
    have hnil : ∀ w : World, (binOp .eql 29 (.slice (some a) n c) (.slice none 0 0)).run Tryz.prog w = .ok (.bool false) w := fun w => Lib.run_eql_slice_nil w 29 9 (some a) n c 0 0 Tryz.underlying29
    go_wp2_with (at_builtin; refine wpList_appL (F := stS) rfl _ (.tmp 5) (.tmp 6) 29 rfl _ 16 Tryz.underlying29 stInfo rfl w.heap.size (some ⟨w.heap.size, 0, none⟩) 0 0 [] rfl (ownL_new w w.heap.size (Nat.le_refl _) [] 0 _ rfl rfl (by omega) _ rfl) (some a) n c l rfl (HB.out.below (ba1 _ _)) HN.out n (by omega) (by omega) (by omega) (by simp) ?_; intro A5 c5 w5 ho5 hb5 _; have O5 := Lib.hid ho5; have HB5 := Lib.hid ((ba1 w (.cells #[] 9)).trans hb5); clear ho5 hb5)
    go_ret
    exact ⟨A5, c5, rfl, by simpa using O5.out, HB5.out⟩

end Go.Proofs.YthjpighlcalocaaGreatDoor
