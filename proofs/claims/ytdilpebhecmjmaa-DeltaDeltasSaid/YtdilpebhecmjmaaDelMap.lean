/-
  A map whose keys are runs of eight bytes, and whose elements are rows of places, each its own.
-/
import Derived.Test.YtdilpebhecmjmaaRowArg
import Derived.Test.YtdilpebhecmjmaaIns
import Derived.Test.YtdilpebhecmjmaaTool
import Derived.Maps.OwnRows
import Derived.WideKeyEntry
import Derived.DeepKeys4
namespace Go.Proofs.Ytdilpebhecmjmaa
open Go.RowKit Go.Maps Go.MapKept Go.ChangeShapes Go.WideElems
open Go.ChangeMaps (notKey putKey setBlock heap_setBlock_same heap_setBlock_other)
set_option linter.unusedVariables false
set_option linter.unusedSimpArgs false

/-- a run, and its value -/
def Key8 (b : List Int) : Prop := b.length = 8 ∧ ∀ z ∈ b, 0 ≤ z ∧ z ≤ 255
def keyV (b : List Int) : Value := .agg (b.map fun z => Value.int .u8 z).toArray
theorem keyV_inj {a b : List Int} (h : keyV a = keyV b) : a = b := by
  unfold keyV at h
  injection h with h
  have h' : (a.map fun z => Value.int .u8 z) = (b.map fun z => Value.int .u8 z) := by simpa using h
  exact (List.map_inj_right (fun x y hxy => by cases hxy; rfl)).1 h'
theorem rowRun : 53 < Try.prog.types.size := of_decide_eq_true (by kernel_rfl)
theorem lawRun : WideMaps.KeyLaw Try.prog 53 := deep_law_laid laidOut (m := 2) (by omega) rowRun (by kernel_rfl) (by kernel_rfl)
theorem keyedRun : Keyed Try.prog 53 := Keyed.of_law lawRun
theorem typesSize : ∃ m, Try.prog.types.size = m + 1 := ⟨Try.prog.types.size - 1, by have : 0 < Try.prog.types.size := of_decide_eq_true (by kernel_rfl); omega⟩
theorem cells1 : Try.prog.cellsOf 5 = 1 := by kernel_rfl
theorem cells8 : Try.prog.cellsOf 53 = 8 := by kernel_rfl
theorem keyTypeRun : Try.prog.keyType 53 = true := by kernel_rfl
theorem wf_u8 {z : Int} (h : 0 ≤ z ∧ z ≤ 255) : (Lit.int .u8 z).wf = true := by
  simp [Lit.wf, IntKind.min, IntKind.max, IntKind.signed, IntKind.bits]; omega
set_option maxRecDepth 100000 in
theorem key8 {b : List Int} (h : Key8 b) : ∃ l, keyOf Try.prog 53 (keyV b) = some l := by
  obtain ⟨h1, h2⟩ := h
  match b, h1, h2 with
  | [a0, a1, a2, a3, a4, a5, a6, a7], _, h2 =>
    have w0 := wf_u8 (h2 a0 (by simp))
    have w1 := wf_u8 (h2 a1 (by simp))
    have w2 := wf_u8 (h2 a2 (by simp))
    have w3 := wf_u8 (h2 a3 (by simp))
    have w4 := wf_u8 (h2 a4 (by simp))
    have w5 := wf_u8 (h2 a5 (by simp))
    have w6 := wf_u8 (h2 a6 (by simp))
    have w7 := wf_u8 (h2 a7 (by simp))
    obtain ⟨m, hm⟩ := typesSize
    refine ⟨.string (keyBytes [.int .u8 a0, .int .u8 a1, .int .u8 a2, .int .u8 a3, .int .u8 a4, .int .u8 a5, .int .u8 a6, .int .u8 a7]), ?_⟩
    unfold keyOf
    simp only [Try.underlying53]
    rw [if_pos (by simp [keyTypeRun, Value.formed, keyV, Try.underlying53, cells8]), hm]
    unfold Program.keyLits
    simp only [Try.underlying53, Value.cells, keyV]
    rw [if_pos (by rw [cells8]; rfl), show List.range 8 = [0, 1, 2, 3, 4, 5, 6, 7] from rfl, List.mapM_cons, List.mapM_cons, List.mapM_cons, List.mapM_cons, List.mapM_cons, List.mapM_cons, List.mapM_cons, List.mapM_cons, List.mapM_nil]
    simp [cells1, Program.keyLits, Try.underlying5, w0, w1, w2, w3, w4, w5, w6, w7]

/-- block b is a map of at most K runs; at each the places that M says, in a row of their own -/
def Grp (w : World) (base b K : Nat) (M : List Int → List Int) : Prop :=
  ∃ es clock, w.heap[b]? = some (.map es clock) ∧ Stamped es clock ∧ es.size ≤ K ∧
    (∀ x ∈ es.toList, ∃ kb A n c, Key8 kb ∧ x.key = keyV kb ∧ x.val = .slice A n c ∧ OwnL inS 3 w base A n c (M kb)) ∧
    (∀ kb, Key8 kb → (∀ x ∈ es.toList, x.key ≠ keyV kb) → M kb = []) ∧
    (∀ x ∈ es.toList, ∀ y ∈ es.toList, x.key ≠ y.key → ∀ g, x.val.ownBlock = some g → y.val.ownBlock ≠ some g)
def updM (M : List Int → List Int) (kb l : List Int) : List Int → List Int := fun b => if b = kb then l else M b

theorem Grp.lt {w : World} {base b K : Nat} {M : List Int → List Int} (h : Grp w base b K M) : b < w.heap.size := by
  obtain ⟨es, clock, hb, -⟩ := h
  exact (Array.getElem?_eq_some_iff.1 hb).1
theorem Grp.below {w w' : World} {base b K : Nat} {M : List Int → List Int} (h : Grp w base b K M) (hb : Below w.heap.size w w') : Grp w' base b K M := by
  have hlt := h.lt
  obtain ⟨es, clock, h1, h2, h3, h4, h5, h6⟩ := h
  refine ⟨es, clock, (hb.block b hlt).trans h1, h2, h3, fun x hx => ?_, h5, h6⟩
  obtain ⟨kb, A, n, c, k1, k2, k3, k4⟩ := h4 x hx
  exact ⟨kb, A, n, c, k1, k2, k3, k4.below hb⟩
theorem grp_made (w : World) (base : Nat) : Grp (w.alloc (.map #[] 0)) base w.heap.size 0 (fun _ => []) :=
  ⟨#[], 0, (MapKept.heap_alloc w _).1, stamped_empty 0, Nat.le_refl _, by simp, fun _ _ _ => rfl, by simp⟩

def R0 : Value → Option (DataW Unit × List MemPlace) := fun _ => some (.nil, [])
theorem keys_of {es : Array MapEntry} (h4 : ∀ x ∈ es.toList, ∃ kb, Key8 kb ∧ x.key = keyV kb) : ∀ x ∈ es.toList, ∃ l, keyOf Try.prog 53 x.key = some l := fun x hx => by
  obtain ⟨kb, k1, k2⟩ := h4 x hx
  rw [k2]; exact key8 k1
theorem fit0 {es : Array MapEntry} {clock : Nat} (hs : es.size ≤ maxLen) (h2 : Stamped es clock) (h4 : ∀ x ∈ es.toList, ∃ kb, Key8 kb ∧ x.key = keyV kb) : Fit Try.prog 53 R0 es clock :=
  ⟨hs, h2, fun x hx => by
    obtain ⟨l, hl⟩ := keys_of h4 x hx
    exact ⟨_, rd_mk hl rfl⟩⟩
theorem rg0 {x : MapEntry} {l : Lit} (hl : keyOf Try.prog 53 x.key = some l) : rg Try.prog 53 R0 x = (l, .nil) := by
  obtain ⟨k, v, b⟩ := x
  have h := rd_mk (R := R0) (key := k) (val := v) (born := b) (yv := (.nil, [])) hl rfl
  exact rg_of h
theorem zeroIs (w : World) : (zeroValue 32).run Try.prog w = .ok (.slice none 0 0) w := by kernel_rfl

/-- 'm[k]' -/
theorem Grp.look {w : World} {base b K : Nat} {M : List Int → List Int} (h : Grp w base b K M) {kb : List Int} (hk : Key8 kb) :
    ∃ A n c, (∀ w' : World, w'.heap[b]? = w.heap[b]? → (Instr.lookup 43 (.map (some b)) (keyV kb) false).run Try.prog w' = .ok (.slice A n c) w') ∧ Ls inS w A (M kb) ∧ (M kb).length = n := by
  obtain ⟨es, clock, h1, h2, h3, h4, h5, h6⟩ := h
  obtain ⟨kl, hkl⟩ := key8 hk
  have hks := keys_of (es := es) fun x hx => by obtain ⟨kb, A, n, c, k1, k2, -⟩ := h4 x hx; exact ⟨kb, k1, k2⟩
  by_cases hno : ∀ x ∈ es.toList, x.key ≠ keyV kb
  · refine ⟨none, 0, 0, fun w' hw' => ?_, by rw [h5 kb hk hno]; exact Ls.nil _ _, by rw [h5 kb hk hno]; rfl⟩
    have h1' := hw'.trans h1
    rcases keyedRun.find w' hkl es.toList hks with ⟨f1, f2⟩ | ⟨j, e0, f1, f2, f3⟩
    · simp [Instr.lookup, run_underlying Try.underlying43, MapKept.run_getObj_map h1', keyedRun.check w' _ hkl, f1, zeroIs, Result.andThen]
    · exact absurd f3 (hno e0 (List.mem_of_getElem? f2))
  · have hex : ∃ e0 ∈ es.toList, e0.key = keyV kb := Classical.byContradiction fun hn => hno fun x hx he => hn ⟨x, hx, he⟩
    obtain ⟨e0, hm0, f0⟩ := hex
    obtain ⟨kb', A, n, c, k1, k2, k3, k4⟩ := h4 e0 hm0
    obtain rfl : kb' = kb := keyV_inj (k2.symm.trans f0)
    refine ⟨A, n, c, fun w' hw' => ?_, k4.ls, k4.1⟩
    have h1' := hw'.trans h1
    rcases keyedRun.find w' hkl es.toList hks with ⟨f1, f2⟩ | ⟨j, e1, f1, f2, f3⟩
    · exact absurd f0 (f2 e0 hm0)
    · have he : e1 = e0 := by
        obtain ⟨i, hi, hie⟩ := List.mem_iff_getElem.1 hm0
        obtain ⟨hj, hje⟩ := List.getElem?_eq_some_iff.1 f2
        have hp := List.pairwise_iff_getElem.1 ((stamped_iff es clock).1 h2).2.2
        rcases Nat.lt_trichotomy i j with g | g | g
        · exact absurd (by rw [hie, hje, f0, f3]) (hp i j hi hj g)
        · subst g; rw [← hie, ← hje]
        · exact absurd (by rw [hie, hje, f0, f3]) (hp j i hj hi g)
      subst he
      rw [k3] at f1
      simp [Instr.lookup, run_underlying Try.underlying43, MapKept.run_getObj_map h1', keyedRun.check w' _ hkl, f1, Result.andThen]

theorem set_only {w : World} {b : Nat} {es es' : Array MapEntry} {clock clock' : Nat} (hb : w.heap[b]? = some (.map es clock)) : Only (fun k => k = b) w (setBlock w b (.map es' clock')) :=
  ⟨rfl, rfl, rfl, by simp [setBlock], fun k _ hk => heap_setBlock_other hb _ hk⟩

/-- 'm[k] = f(m[k])': the element, and the way back -/
theorem Grp.entry {w : World} {base b K : Nat} {M : List Int → List Int} (h : Grp w base b K M) (hbb : b < base) (hK : K < 1000000) {kb : List Int} (hk : Key8 kb) :
    ∃ A n c st w1, (Instr.mapEntry 43 (.map (some b)) (keyV kb)).run Try.prog w = .ok (.tuple #[.slice A n c, goInt st]) w1 ∧ Only (fun k => k = b) w w1 ∧ w1.heap.size = w.heap.size ∧ OwnL inS 3 w1 base A n c (M kb) ∧
      ∀ (w2 : World) A' n' c' L', Only (fun g => (Value.slice A n c).ownBlock = some g) w1 w2 → OwnL inS 3 w2 base A' n' c' L' → (∀ g, (Value.slice A' n' c').ownBlock = some g → (Value.slice A n c).ownBlock = some g ∨ w1.heap.size ≤ g) →
        ∃ w3, (Instr.entryStore 43 (.map (some b)) (goInt st) (.slice A' n' c')).run Try.prog w2 = .ok () w3 ∧ Grp w3 base b (K + 1) (updM M kb L') ∧ Only (fun k => k = b) w2 w3 ∧ w3.heap.size = w2.heap.size := by
  obtain ⟨es, clock, h1, h2, h3, h4, h5, h6⟩ := h
  have hlt : b < w.heap.size := (Array.getElem?_eq_some_iff.1 h1).1
  obtain ⟨kl, hkl⟩ := key8 hk
  have h4' : ∀ x ∈ es.toList, ∃ kb, Key8 kb ∧ x.key = keyV kb := fun x hx => by obtain ⟨kb, A, n, c, k1, k2, -⟩ := h4 x hx; exact ⟨kb, k1, k2⟩
  have hmax : es.size < maxLen := by unfold maxLen; omega
  have F := fit0 (Nat.le_of_lt hmax) h2 h4'
  obtain ⟨v0, st, es1, clock1, e1, e2, e3⟩ := entry_then_store (R := R0) lawRun Try.underlying43 (fun u => zeroIs u) h1 F hkl
  have hsz : ∀ es' clock', (setBlock w b (.map es' clock')).heap.size = w.heap.size := fun _ _ => by simp [setBlock]
  have hon1 : Only (fun k => k = b) w (setBlock w b (.map es1 clock1)) := set_only h1
  -- what the element is
  have hv : ∃ A n c, v0 = .slice A n c ∧ OwnL inS 3 w base A n c (M kb) ∧ ∀ x ∈ es.toList, x.key ≠ keyV kb → ∀ g, x.val.ownBlock = some g → v0.ownBlock ≠ some g := by
    rcases e2 with ⟨e0, m0, k0, rfl⟩ | ⟨hno, rfl⟩
    · obtain ⟨kb', A, n, c, k1, k2, k3, k4⟩ := h4 e0 m0
      obtain rfl : kb' = kb := keyV_inj (k2.symm.trans k0)
      exact ⟨A, n, c, k3, k4, fun x hx hne => h6 x hx e0 m0 (by rw [k0]; exact hne)⟩
    · refine ⟨none, 0, 0, rfl, by rw [h5 kb hk hno]; exact OwnL.nil _ _, fun x hx hne g hg e => by cases e⟩
  obtain ⟨A, n, c, rfl, hown, hap⟩ := hv
  have hob : ∀ {w' : World} {A n c} {l : List Int}, OwnL inS 3 w' base A n c l → ∀ g, (Value.slice A n c).ownBlock = some g → ¬ g = b := fun ho g hg e => by have := (ho.lt g hg).1; omega
  have hown1 := hown.only hon1 (hob hown)
  refine ⟨A, n, c, st, _, e1, hon1, hsz _ _, hown1, ?_⟩
  intro w2 A' n' c' L' ho2 hown2 hloc
  have hb2 : w2.heap[b]? = some (.map es1 clock1) := (ho2.block b (by rw [hsz]; exact hlt) (fun e => hob hown1 b e rfl)).trans (heap_setBlock_same h1 _)
  obtain ⟨es', clock', g1, g2⟩ := e3 w2 (.slice A' n' c') hb2
  obtain ⟨es'', clock'', r1, F', hput, -, -, hwho⟩ := Maps.fit_store (R' := R0) (val := .slice A' n' c') keyedRun Try.underlying43 h1 F hmax (fun _ _ _ _ h => h) hkl rfl
  rw [g2] at r1
  have hse : setBlock w b (.map es' clock') = setBlock w b (.map es'' clock'') := by simpa using r1
  obtain ⟨rfl, rfl⟩ : es' = es'' ∧ clock' = clock'' := by
    have := congrArg (fun u => u.heap[b]?) hse
    simp only [heap_setBlock_same h1] at this
    simpa using this
  have hb2lt : b < w2.heap.size := (Array.getElem?_eq_some_iff.1 hb2).1
  have hon3 : Only (fun k => k = b) w2 (setBlock w2 b (.map es' clock')) := set_only hb2
  refine ⟨_, g1, ⟨es', clock', heap_setBlock_same hb2 _, F'.stamped, ?_, ?_, ?_, ?_⟩, hon3, by simp [setBlock]⟩
  · have q1 : es'.size = ((es'.toList.map (rg Try.prog 53 R0)).foldr DataW.insert []).length := by rw [length_sorted]; simp
    rw [q1, hput]
    unfold putKey
    rw [length_insert]
    have q2 := List.length_filter_le (notKey kl) ((es.toList.map (rg Try.prog 53 R0)).foldr DataW.insert [])
    rw [length_sorted] at q2
    simp at q2
    omega
  · intro x hx
    rcases hwho x hx with ⟨hx0, hne⟩ | ⟨hxk, hxv⟩
    · obtain ⟨kb', A4, n4, c4, k1, k2, k3, k4⟩ := h4 x hx0
      have hkb : kb' ≠ kb := fun e => hne (by rw [k2, e])
      refine ⟨kb', A4, n4, c4, k1, k2, k3, ?_⟩
      unfold updM
      rw [if_neg hkb]
      refine ((k4.only hon1 (hob k4)).only ho2 (fun g hg e => ?_)).only hon3 (hob k4)
      exact hap x hx0 hne g (by rw [k3]; exact hg) e
    · refine ⟨kb, A', n', c', hk, hxk, hxv, ?_⟩
      unfold updM
      rw [if_pos rfl]
      exact hown2.only hon3 (hob hown2)
  · intro kb' hk' hno
    unfold updM
    have hkb : kb' ≠ kb := fun e => by
      have hin : (kl, (DataW.nil : DataW Unit)) ∈ (es'.toList.map (rg Try.prog 53 R0)).foldr DataW.insert [] := by
        rw [hput]; unfold putKey
        exact (Go.ChangeMaps.mem_insert_iff).2 (.inl rfl)
      have hin2 := (Go.WideShapes.sorted_perm _).mem_iff.1 hin
      obtain ⟨x, hx, hrx⟩ := List.mem_map.1 hin2
      obtain ⟨l, hl⟩ := keys_of (fun x hx => by
        rcases hwho x hx with ⟨hx0, _⟩ | ⟨hxk, _⟩
        · exact h4' x hx0
        · exact ⟨kb, hk, hxk⟩) x hx
      have hre := rg0 hl
      rw [hre] at hrx
      have hll : l = kl := congrArg Prod.fst hrx
      rw [hll] at hl
      exact hno x hx (by rw [e]; exact keyedRun.inj hl hkl)
    rw [if_neg hkb]
    refine h5 kb' hk' fun x hx hxe => ?_
    obtain ⟨l, hl⟩ := keys_of h4' x hx
    have hre := rg0 hl
    have hin : (l, (DataW.nil : DataW Unit)) ∈ (es.toList.map (rg Try.prog 53 R0)).foldr DataW.insert [] := (Go.WideShapes.sorted_perm _).mem_iff.2 (List.mem_map.2 ⟨x, hx, hre⟩)
    have hne : l ≠ kl := fun e => hkb (keyV_inj (by rw [e] at hl; rw [hxe] at hl; exact keyedRun.inj hl hkl))
    have hin2 : (l, (DataW.nil : DataW Unit)) ∈ (es'.toList.map (rg Try.prog 53 R0)).foldr DataW.insert [] := by
      rw [hput]; unfold putKey
      exact (Go.ChangeMaps.mem_insert_iff).2 (.inr (List.mem_filter.2 ⟨hin, (notKey_iff (keyedRun.key hkl)).2 hne⟩))
    obtain ⟨x', hx', hrx'⟩ := List.mem_map.1 ((Go.WideShapes.sorted_perm _).mem_iff.1 hin2)
    obtain ⟨l', hl'⟩ := keys_of (fun x hx => by
        rcases hwho x hx with ⟨hx0, _⟩ | ⟨hxk, _⟩
        · exact h4' x hx0
        · exact ⟨kb, hk, hxk⟩) x' hx'
    rw [rg0 hl'] at hrx'
    have hll : l' = l := congrArg Prod.fst hrx'
    rw [hll] at hl'
    exact hno x' hx' (by rw [← hxe]; exact keyedRun.inj hl' hl)
  · intro x hx y hy hne g hg hg'
    rcases hwho x hx with ⟨hx0, hxk⟩ | ⟨hxk, hxv⟩ <;> rcases hwho y hy with ⟨hy0, hyk⟩ | ⟨hyk, hyv⟩
    · exact h6 x hx0 y hy0 hne g hg hg'
    · rw [hyv] at hg'
      rcases hloc g hg' with q | q
      · exact hap x hx0 hxk g hg q
      · obtain ⟨kb', A4, n4, c4, k1, k2, k3, k4⟩ := h4 x hx0
        rw [k3] at hg
        have := (k4.lt g hg).2
        rw [hsz] at q; omega
    · rw [hxv] at hg
      rcases hloc g hg with q | q
      · exact hap y hy0 hyk g hg' q
      · obtain ⟨kb', A4, n4, c4, k1, k2, k3, k4⟩ := h4 y hy0
        rw [k3] at hg'
        have := (k4.lt g hg').2
        rw [hsz] at q; omega
    · exact absurd (hxk.trans hyk.symm) hne

end Go.Proofs.Ytdilpebhecmjmaa
