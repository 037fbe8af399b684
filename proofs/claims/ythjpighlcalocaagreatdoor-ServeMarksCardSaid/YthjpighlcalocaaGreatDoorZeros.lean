/-
  'append(s, make([]byte, n)...)' onto a row of bytes of the call's own: zeros behind it.
-/
import Derived.Test.YthjpighlcalocaaGreatDoorBy
import Derived.Lib.AppendZeros
import Derived.Lib.AppendZerosOnto
import Derived.Laws.CopyRow
import Derived.Laws.AppendOwn
namespace Go.Proofs.YthjpighlcalocaaGreatDoor
open Go.RowKit
set_option linter.unusedVariables false
set_option linter.unusedSimpArgs false

theorem byZeros (m : Nat) : Builtin.zeroCells #[.int .u8 0] m = (List.replicate m (Value.int .u8 0)).toArray := by
  unfold Builtin.zeroCells
  apply Array.ext
  · simp
  · intro i h1 h2
    simp [Nat.mod_one]
theorem run_zeros_room (w : World) (t tn ty e : TypeId) (i : TypeInfo) (k : IntKind) (kn : IntKind) (ht : Tryz.prog.underlying t = some (.slice e)) (htn : Tryz.prog.underlying tn = some (.int kn)) (hi : Tryz.prog.info? e = some i) (hz : i.zero = some (.int .u8 0)) (hs : i.size = 1) (hby : i.bytes = 1)
    (g sLen sCap : Nat) (cur : Array Value) (hg : w.heap[g]? = some (.cells cur e (0, 0))) (m : Nat) (h0 : 0 < m) (hm : m ≤ 1000000000) (hroom : sLen + m ≤ sCap) (hfit : sLen + m ≤ cur.size) :
    (Builtin.append_ #[t, tn] ty #[.slice (some ⟨g, 0, none⟩) sLen sCap, .int k m]).run Tryz.prog w =
      .ok (.slice (some ⟨g, 0, none⟩) (sLen + m) sCap) (w.setRow g (cur.toList.take sLen ++ List.replicate m (Value.int .u8 0) ++ cur.toList.drop (sLen + m)).toArray) := by
  have hw : IntKind.i64.wrap (m : Int) = m := by rw [IntKind.wrap_i64]; omega
  have hneg : ¬ ((m : Int) < 0) := by omega
  have h48 : ¬ (281474976710656 < (m : Int)) := by omega
  have hst := run_storeCells_at Tryz.prog g sLen e (List.replicate m (Value.int .u8 0)) 0 cur w hg (by simpa using hfit) (by intro u hu; rw [(List.mem_replicate.1 hu).2]; rfl)
  simp only [Nat.add_zero, List.length_replicate] at hst
  have hm0 : ¬ m = 0 := by omega
  have hzc := byZeros m
  simp [Builtin.append_, run_underlying ht, run_underlying htn, sizeOf, typeInfo, zeroValue, hi, hz, hs, hby, asInt, asIntOf, hw, hneg, h48, hroom, hm0, Addr.add_lit, Value.cells, hzc, hst]

theorem zeros_own (w : World) (ty : TypeId) (base : Nat) (A : Option Addr) (n c : Nat) (zs : List Int) (ho : OwnL byS 5 w base A n c zs) (m : Nat) (h0 : 0 < m) (hm : n + m ≤ 1000000000) (hbase : base ≤ w.heap.size) :
    ∃ A' c' w', (Builtin.append_ #[28, 3] ty #[.slice A n c, .int .i64 m]).run Tryz.prog w = .ok (.slice A' (n + m) c') w' ∧ OwnL byS 5 w' base A' (n + m) c' (zs ++ List.replicate m 0) ∧ Below base w w' ∧ Beside (.slice A n c) (.slice A' (n + m) c') w w' := by
  obtain ⟨i0, hi, hz0, hz1, hz2⟩ := info_parts byInfo
  have hz1' : i0.size = 1 := hz1
  obtain ⟨hl, hrl, hcs⟩ := ho
  have hfl : byS.flat (zs ++ List.replicate m 0) = byS.flat zs ++ List.replicate m (Value.int .u8 0) := by
    rw [flat_by, flat_by, List.map_append, List.map_replicate]
  have hlz : (byS.flat zs).length = n := by rw [flat_by, List.length_map, hl]
  have hszf : byS.size = 1 := rfl
  have fresh : ∀ (A0 : Option Addr) (old : Nat), old < n + m → OwnL byS 5 (w.drew.alloc (.cells ((byS.flat zs).toArray ++ Builtin.zeroCells #[.int .u8 0] m ++ Builtin.zeroCells #[.int .u8 0] (grownCap w (n + m) old 5 - (n + m))) 5)) base (some ⟨w.heap.size, 0, none⟩) (n + m) (grownCap w (n + m) old 5) (zs ++ List.replicate m 0) := by
    intro A0 old ho
    have hge := grownCap_ge w (n + m) old 5
    have hcm : grownCap w (n + m) old 5 ≤ maxLen := grownCap_le_maxLen w (n + m) old _ (by simp only [maxLen]; omega)
    refine ⟨by simp [hl], by rw [hfl, List.length_append, hlz, List.length_replicate, hszf, Nat.mul_one], .inr ⟨w.heap.size, _, _, rfl, hbase, heap_alloc_new w.drew _, hge, hcm, ?_, ?_⟩⟩
    · rw [byZeros, byZeros]; simp [hlz, hszf]; omega
    · rw [hfl, byZeros, byZeros]
      simp only [Array.toList_append, List.append_assoc, hszf, Nat.mul_one]
      rw [← List.append_assoc]
      exact List.take_left' (by simp [hlz])
  have fb : ∀ o, Below base w (w.drew.alloc o) := fun o => ((Below.refl base w).drew).alloc hbase o
  have fs : ∀ (v : Value) (cp : Nat) o, Beside v (.slice (some ⟨w.heap.size, 0, none⟩) (n + m) cp) w (w.drew.alloc o) := fun v cp o =>
    ⟨fun k hk _ => heap_alloc_old w.drew _ hk, fun k hk => .inr (by injection hk with hk; simp only at hk; omega)⟩
  have hit : Tryz.prog.underlying 3 = some (.int .i64) := Tryz.underlying3
  rcases hcs with ⟨hv, hn⟩ | ⟨g, cap, cur, hv, hbg, hg, hnc, hcm, hcsz, htake⟩
  · injection hv with hA hn0 hc0
    subst hA
    have hn' : n = 0 := by omega
    have hc' : c = 0 := by omega
    subst hn'; subst hc'
    have hr := Lib.run_append_nil_zeros (P := Tryz.prog) w 28 3 ty 5 i0 _ .i64 .i64 Tryz.underlying28 hit hi hz0 m h0 (by rw [hz1']; omega) (by omega) (by rw [hz2]; omega)
    have hf := fresh none 0 (by omega)
    have hzn : zs = [] := List.eq_nil_of_length_eq_zero hl
    subst hzn
    simp only [Nat.zero_add] at hf hr fs ⊢
    refine ⟨_, _, _, hr, ?_, fb _, fs _ _ _⟩
    simpa [Shape.flat, Value.cells] using hf
  · injection hv with hA hn0 hc0
    subst hA; subst hc0
    by_cases hroom : n + m ≤ c
    · have hsz : cur.size = c := by rw [hcsz, hszf, Nat.mul_one]
      have hr := run_zeros_room w 28 3 ty 5 i0 .i64 .i64 Tryz.underlying28 hit hi hz0 hz1' hz2 g n c cur hg m h0 (by omega) hroom (by rw [hsz]; exact hroom)
      have htk : cur.toList.take n = byS.flat zs := by rw [← htake, hszf, Nat.mul_one]
      refine ⟨_, _, _, hr, ⟨by simp [hl], by rw [hfl, List.length_append, hlz, List.length_replicate, hszf, Nat.mul_one], .inr ⟨g, c, _, rfl, hbg, setRow_heap w g cur _ _ _ hg, hroom, hcm, ?_, ?_⟩⟩, ⟨rfl, rfl, rfl, by simp, fun k hk => setRow_other w g k _ (by omega)⟩, ⟨fun k _ hk => setRow_other w g k _ (hk g rfl), fun k hk => .inl hk⟩⟩
      · simp only [List.size_toArray, List.length_append, List.length_take, List.length_drop, Array.length_toList, List.length_replicate, hszf]
        omega
      · rw [htk, hfl, hszf, Nat.mul_one]
        exact List.take_left' (by simp [hlz])
    · have holds : ∀ j u, (byS.flat zs)[j]? = some u → w.cell? ((⟨g, 0, none⟩ : Addr).add j) = some u := by
        have hown : w.ownsRow base 5 byS.size (.slice (some ⟨g, 0, none⟩) n c) n (byS.flat zs) := ⟨hrl, .inr ⟨g, c, cur, rfl, hbg, hg, hnc, hcm, hcsz, htake⟩⟩
        exact hown.cells (g := g) rfl
      have hold : (Builtin.firstCells i0.size n (.slice (some ⟨g, 0, none⟩) n c)).run Tryz.prog w.drew = .ok (byS.flat zs).toArray w.drew := run_firstCells_some (P := Tryz.prog) w.drew i0.size n ⟨g, 0, none⟩ n c (byS.flat zs) (by rw [hlz, hz1', Nat.mul_one]) holds
      have hr := Lib.run_append_grow_zeros (P := Tryz.prog) w 28 3 ty 5 i0 _ .i64 .i64 Tryz.underlying28 hit hi hz0 (some ⟨g, 0, none⟩) n c (byS.flat zs) hold m h0 (by rw [hz1']; omega) (by omega) (by omega) (by rw [hz2]; omega) (by rw [hz2]; exact growslice_fits (by omega) (by omega))
      exact ⟨_, _, _, hr, fresh (some ⟨g, 0, none⟩) c (by omega), fb _, fs _ _ _⟩

theorem wpList_appZ {ops : Array Oper} {rest : List Oper} {o : Oper} {a : Act} {Q : Exit → Act → World → Prop} (hgd : o.guard = none) (w : World) (s x : Operand)
    (ho : o.op = .call { callee := .builtin .append, args := #[s, x], argTypes := #[28, 3] }) (base : Nat) (A : Option Addr) (n c : Nat) (zs : List Int) (hs : a.eval s = .slice A n c) (hown : OwnL byS 5 w base A n c zs)
    (M : Int) (m : Nat) (hx : a.eval x = .int .i64 M) (hM : M = m) (h0 : 0 < m) (N : Nat) (hN : n + m = N) (small : N ≤ 1000000000) (hbase : base ≤ w.heap.size)
    (h : ∀ A' c' w', OwnL byS 5 w' base A' N c' (zs ++ List.replicate m 0) → Below base w w' → Beside (.slice A n c) (.slice A' N c') w w' → wpList Tryz.prog ops Q rest (a.put o.dst (.slice A' N c')) w') : wpList Tryz.prog ops Q (o :: rest) a w := by
  subst hN; subst hM
  obtain ⟨A', c', w', hr, h1, h2, h3⟩ := zeros_own w o.type base A n c zs hown m h0 small hbase
  exact Lib.wpList_append_run w hgd s x 28 3 ho _ _ hs hx _ _ hr (h A' c' w' h1 h2 h3)

end Go.Proofs.YthjpighlcalocaaGreatDoor
