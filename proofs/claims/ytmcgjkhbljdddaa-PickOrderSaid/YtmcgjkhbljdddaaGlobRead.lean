/-
  The program's reading of a whole pattern: read; May.
-/
import Derived.Test.YtmcgjkhbljdddaaGlobProg
namespace Go.Proofs.Ytmcgjkhbljdddaa
open Go.RowKit
set_option linter.unusedVariables false
set_option linter.unusedSimpArgs false

theorem fsT_suffix {s r : Byt} {it : Gi} (h : fsT s = some (it, r)) : r <:+ s := by
  rcases s with _ | ⟨c, t⟩
  · cases h
  · by_cases h1 : c = 42 ∨ c = 63
    · rw [fsT_any t h1] at h; injection h with h; injection h with e1 e2; subst e2; exact List.suffix_cons _ _
    · by_cases h2 : c = 92
      · subst h2
        rcases t with _ | ⟨b, t⟩
        · cases h
        · rw [fsT_esc] at h; injection h with h; injection h with e1 e2; subst e2; exact (List.suffix_cons _ _).trans (List.suffix_cons _ _)
      · by_cases h3 : c = 91
        · subst h3
          rw [fsT_set] at h
          unfold setT at h
          rcases hr : rgT (bodyT (setU t)) with _ | rs
          · rw [hr] at h; cases h
          · rw [hr] at h
            simp only [] at h
            by_cases h4 : rs = [] ∨ (setE (setU t)).head? ≠ some 93
            · rw [if_pos h4] at h; cases h
            · rw [if_neg h4] at h
              injection h with h; injection h with e1 e2; subst e2
              have g1 : setU t <:+ t := by
                unfold setU
                split
                · exact List.tail_suffix _
                · exact List.suffix_refl _
              exact ((((List.tail_suffix _).trans (List.drop_suffix _ _)).trans g1).trans (List.suffix_cons _ _))
        · rw [fsT_one t (fun e => h1 (.inl e)) (fun e => h1 (.inr e)) h2 h3] at h; injection h with h; injection h with e1 e2; subst e2; exact List.suffix_cons _ _

section
variable {ops : Array Oper} {o : Oper} {a : Act} {w : World} {K : Act → World → Prop} {Q : Exit → Act → World → Prop} {E : Prop}
theorem stepG_load (hw : Region.wanted o (yielded ops a.tmps) = true) (x : Operand) (ho : o.op = .load 52 x) (B : Nat) (hx : a.eval x = .pointer (some ⟨B, 0, none⟩)) (p : Gp) (hp : Gx w B p)
    (h : K (a.put o.dst (.agg (gpC p))) w) : if Region.wanted o (yielded ops a.tmps) = true then Oper.wp Try.prog o a w K Q else E := by
  rw [if_pos hw]
  exact wp_load_row _ x ho B hx _ _ _ _ hp Try.underlying52 rfl (gp_szC p) h
theorem gp_buildSlice (p : Gp) (w : World) : (Instr.buildSlice 41 1 #[(0, .agg (gpC p))]).run Try.prog w = .ok (.slice (some ⟨w.heap.size, 0, none⟩) 1 1) (w.alloc (.cells (gpC p) 52)) := by
  have hi := gpInfo
  cases hq : Try.prog.info? 52 with
  | none => rw [hq] at hi; cases hi
  | some ie =>
    rw [hq] at hi
    simp only [Option.map_some, Option.some.injEq, Prod.mk.injEq] at hi
    obtain ⟨h1, h2, h3⟩ := hi
    refine run_buildSlice w _ _ 1 _ _ ie _ Try.underlying41 hq h1 (by rw [h2]; decide) (by rw [h2]; decide) ?_
    rw [h2]
    have hf := Great.fill_whole (s := 257) (by decide) [.agg (gpC p)] ((Array.range (1 * 257)).map fun j => (Value.agg (gpC gp0)).cells[j % (Value.agg (gpC gp0)).cells.size]!) (by intro v hv; simp at hv; subst hv; simp [Value.cells, gpC_size]) (by simp)
    have e : (([.agg (gpC p)] : List Value).flatMap fun v => v.cells.toList).toArray = gpC p := by simp [Value.cells]
    rw [e] at hf
    exact hf
theorem stepG_build (hw : Region.wanted o (yielded ops a.tmps) = true) (x : Operand) (ho : o.op = .buildSlice 41 1 #[(0, x)]) (p : Gp) (hx : a.eval x = .agg (gpC p))
    (h : K (a.put o.dst (.slice (some ⟨w.heap.size, 0, none⟩) 1 1)) (w.alloc (.cells (gpC p) 52))) : if Region.wanted o (yielded ops a.tmps) = true then Oper.wp Try.prog o a w K Q else E := by
  rw [if_pos hw]
  unfold Oper.wp execOp
  have e : (#[((0 : Nat), x)].map fun (i, x) => (i, a.eval x)) = #[(0, .agg (gpC p))] := by simp [hx]
  simp only [ho, e, Sem.run_bind, gp_buildSlice, Result.andThen_ok]
  exact h
end
theorem gpsInfo : (Try.prog.info? 52).map (fun i => (i.zero, i.size, i.bytes)) = some (some (.agg (gpC gp0)), gpS.size, 257) := gpInfo

/-- what read answers -/
def RetRd (w : World) (o : Option (List Gi)) (e : Ending) (w' : World) : Prop :=
  Below w.heap.size w w' ∧ match o with
  | none => e = .returned (.tuple #[.slice none 0 0, .bool false])
  | some its => ∃ A c, e = .returned (.tuple #[.slice A its.length c, .bool true]) ∧ OwnL gpS 52 w' w.heap.size A its.length c (its.map gpOf)

set_option maxHeartbeats 4000000 in
theorem read_any (s : Byt) (w : World) : Calls Try.prog 23 #[.string (tx s)] w (RetRd w (patT s)) := by
  have hz := gp_zero
  by_cases h40 : 40 < s.length
  · have h1 : (40 : Int) < (s.length : Int) := by omega
    have hts := tx_size s
    rw [show patT s = none from by unfold patT; rw [if_pos h40]]
    go_enter Try.func23, Try.ntmps23
    go_wp2
    go_ret2
    exact ⟨Below.refl _ _, rfl⟩
  · have h1 : ¬ (40 : Int) < (s.length : Int) := by omega
    have hts := tx_size s
    rw [show patT s = itT s from by unfold patT; rw [if_neg h40]]
    have HS : Hid (s.length ≤ 40) := Lib.hid (by omega)
    go_enter Try.func23, Try.ntmps23
    go_wp2
    clear h1 hts h40
    go_loopw [0, 4] (fun i0 i4 wr => ∃ (rest : Byt) (ds : List Gi) (A : Option Addr) (c m : Nat), i0 = .string (tx rest) ∧ i4 = .slice A m c ∧ OwnL gpS 52 wr w.heap.size A m c (ds.map gpOf) ∧ itT s = (itT rest).map (ds ++ ·) ∧ Below w.heap.size w wr ∧ m + rest.length ≤ 40) (fun i0 _ _ => strSz i0)
    case atStart => exact ⟨s, [], none, 0, 0, rfl, rfl, OwnL.nil _ _, by rcases itT s with _ | q <;> simp, Below.refl _ _, by have := HS.out; omega⟩
    case round =>
      obtain ⟨rest, ds, A, c, m, rfl, rfl, how, hit, hbw, hml⟩ := hrel
      have HOW := Lib.hid how
      have HIT := Lib.hid hit
      have HBW := Lib.hid hbw
      clear how hit hbw
      have hTr := tx_toList rest
      rcases rest with _ | ⟨b, t⟩
      · have HF : Hid (itT s = some ds) := Lib.hid (by rw [HIT.out, itT_nil]; simp)
        have HM : Hid (ds.length = m) := Lib.hid (by have := HOW.out.1; rwa [List.length_map] at this)
        go_wp2
        go_ret2
        rw [HF.out]
        exact ⟨HBW.out, A, c, by rw [HM.out]; rfl, by rw [HM.out]; exact HOW.out⟩
      · have HFI := Lib.hid (fun w => first_any b t w (by have : (b :: t).length = t.length + 1 := rfl; omega))
        have hml' : m + (t.length + 1) ≤ 40 := hml
        clear hml
        rcases hf : fsT (b :: t) with _ | ⟨it, r⟩
        · rw [hf] at HFI
          simp only [retF] at HFI
          have HF : Hid (itT s = none) := Lib.hid (by rw [HIT.out, itT_none hf (by simp)]; rfl)
          clear hf
          go_wp2_with (first | (go_at_call 29; refine (HFI.out _).mono ?_; rintro e w7 ⟨rfl, hb7⟩; have HB7 := Lib.hid hb7; clear hb7) | (refine wpG_store rfl (.tmp 5) (.tmp 15) rfl w7.heap.size rfl gp0 gp0 rfl (heap_alloc_new _ _) ?_))
          go_ret2
          rw [HF.out]
          exact ⟨below_setRow ((bthen HBW.out HB7.out).alloc (bthen HBW.out HB7.out).size _) (bthen HBW.out HB7.out).size _, rfl⟩
        · rw [hf] at HFI
          simp only [retF] at HFI
          have hsx := fsT_suffix hf
          have hlt := fsT_lt hf
          have hdr := List.suffix_iff_eq_drop.1 hsx
          have HF : Hid (itT s = (itT r).map ((ds ++ [it]) ++ ·)) := Lib.hid (by
            rw [HIT.out, itT_some hf]
            rcases itT r with _ | q
            · rfl
            · simp)
          obtain ⟨k, hk⟩ : ∃ k, (b :: t).length - r.length = k := ⟨_, rfl⟩
          rw [hk] at hdr
          have hki : (((b :: t).length : Nat) : Int) - (r.length : Int) = (k : Int) := by omega
          rw [hki] at HFI
          simp only [List.length_cons] at hlt hk hki
          have HDR : Hid ((tx (b :: t)).extract k (t.length + 1) = tx r) := Lib.hid (by
            rw [tx_cut, ← hdr, List.take_of_length_le (by rw [← hk]; omega)])
          have hrl : r.length + k = t.length + 1 := by omega
          have hk0 : ¬ (k : Int) = 0 := by omega
          have hk1 : (k : Int) ≤ (t.length : Int) + 1 := by omega
          have hts : (tx (b :: t)).size = t.length + 1 := tx_size _
          clear hf hsx hdr hk hki
          go_upto_region 8 with (first | (go_at_call 29; refine (HFI.out _).mono ?_; rintro e w7 ⟨rfl, hb7⟩; have HB7 := Lib.hid hb7; clear hb7) | (refine wpG_store rfl (.tmp 5) (.tmp 15) rfl w7.heap.size rfl gp0 (gpOf it) rfl (heap_alloc_new _ _) ?_))
          obtain ⟨Q3, hQ3⟩ : ∃ Q3, Q3 = w7.heap.size := ⟨_, rfl⟩
          obtain ⟨w8, hw8⟩ : ∃ w8, w8 = (w7.alloc (.cells (gpC gp0) 52)).setRow w7.heap.size (gpC (gpOf it)) := ⟨_, rfl⟩
          have HB8 : Hid (Below w7.heap.size w7 w8) := Lib.hid (by rw [hw8]; exact below_setRow (ba1 _ _) (Nat.le_refl _) _)
          have HX8 : Hid (Gx w8 Q3 (gpOf it)) := Lib.hid (by rw [hw8, hQ3]; exact Gx.put (p := gp0) (heap_alloc_new _ _) _)
          have HW8 : Hid (Below w.heap.size w w8) := Lib.hid (bthen (bthen HBW.out HB7.out) HB8.out)
          have HO8 : Hid (OwnL gpS 52 w8 w.heap.size A m c (ds.map gpOf)) := Lib.hid ((HOW.out.below HB7.out).below HB8.out)
          rw [← hw8, ← hQ3]
          clear hw8 hQ3 HB7 HB8 HBW HOW
          have hz8 : w.heap.size ≤ w8.heap.size := HW8.out.size
          refine wp_region_any (by kernel_rfl) ?_
          change wpAny _ _ _ _ _ _ _ (World.drew _)
          refine wpAny_take (i := 0) (v := .slice A m c) rfl (by kernel_rfl) (by kernel_rfl) (by kernel_rfl) (fun _ _ _ h => h) (Or.inl ⟨by rfl, by intro w; go_simp⟩) ?_
          refine wpAny_take (i := 4) (v := .string (tx (b :: t))) rfl (by kernel_rfl) (by kernel_rfl) (by kernel_rfl) (fun _ _ _ h => h) (Or.inl ⟨by rfl, by intro w; go_simp⟩) ?_
          refine wpAny_take (i := 5) (v := .int .i64 (k : Int)) rfl (by kernel_rfl) (by kernel_rfl) (by kernel_rfl) (fun _ _ _ h => h) (Or.inl ⟨by rfl, by intro w; go_simp⟩) ?_
          have hdr := HDR.out
          have hkk : (0 : Int) ≤ (k : Int) := by omega
          refine wpAny_take (i := 6) (v := .string (tx r)) rfl (by kernel_rfl) (by kernel_rfl) (by kernel_rfl) (fun _ _ _ h => h) (Or.inl ⟨by rfl, by intro w; go_simp⟩) ?_
          have hX9 : Gx (World.drew w8) Q3 (gpOf it) := HX8.out.below (Below.refl _ _).drew
          have hO9 : OwnL gpS 52 (World.drew w8) w.heap.size A m c (ds.map gpOf) := HO8.out.below (Below.refl _ _).drew
          have hW9 : Below w.heap.size w (World.drew w8) := HW8.out.drew
          have HX9 := Lib.hid hX9
          have HO9 := Lib.hid hO9
          have HW9 := Lib.hid hW9
          generalize World.drew w8 = w9 at *
          clear hX9 hO9 hW9 HX8 HO8 HW8
          refine wpAny_ready (rs := [1]) (by kernel_rfl) (by simp) (AllReady.cons rfl (fun K1 hK1 => ?_) AllReady.nil)
          refine stepG_load rfl (.tmp 5) rfl Q3 rfl (gpOf it) HX9.out (hK1 _ _ ?_)
          clear hK1 K1
          refine wpAny_ready (rs := [2]) (by kernel_rfl) (by simp) (AllReady.cons rfl (fun K2 hK2 => ?_) AllReady.nil)
          refine stepG_build rfl (.tmp 20) rfl (gpOf it) rfl (hK2 _ _ ?_)
          clear hK2 K2
          refine wpAny_ready (rs := [3]) (by kernel_rfl) (by simp) (AllReady.cons rfl (fun K3 hK3 => ?_) AllReady.nil)
          refine step_appL (F := gpS) rfl _ (.tmp 19) (.tmp 21) 41 rfl _ 257 Try.underlying41 gpsInfo (by simp [Value.cells, gpC_size, gpS]) w.heap.size A m c _ rfl (HO9.out.below (ba1 _ _)) (some ⟨w9.heap.size, 0, none⟩) 1 1 ([gpOf it] : List Gp) rfl (ls_new w9 52 ([gpOf it] : List Gp) _ (by simp [Shape.flat, gpS, gpC]) _ rfl) rfl (m + 1) rfl (by omega) (by omega) (by have := HW9.out.size; simp; omega) ?_
          intro A6 c6 w6 ho6 hb6 hs6
          have HO6 := Lib.hid ho6
          have HB6 := Lib.hid ((HW9.out.alloc HW9.out.size _).trans hb6)
          clear ho6 hb6 hs6
          refine hK3 _ _ ?_
          clear hK3 K3
          refine wpAny_take (i := 7) (v := .slice A6 (m + 1) c6) rfl (by kernel_rfl) (by kernel_rfl) (by kernel_rfl) (fun _ _ _ h => h) (Or.inl ⟨by rfl, by intro w; go_simp⟩) ?_
          refine wpAny_take (i := 8) (v := .string (tx r)) rfl (by kernel_rfl) (by kernel_rfl) (by kernel_rfl) (fun _ _ _ h => h) (Or.inl ⟨by rfl, by intro w; go_simp⟩) ?_
          refine wpAny_done (by kernel_rfl) ?_ _
          go_simp
          go_wp2_with fail
          go_roundw
          case rel => exact ⟨r, ds ++ [it], A6, c6, m + 1, rfl, rfl, by rw [List.map_append]; exact HO6.out, HF.out, HB6.out, by omega⟩
          case measure => simp only [strSz]; rw [tx_size, hts]; omega
end Go.Proofs.Ytmcgjkhbljdddaa
