/-
  The document's reader against a part's take; at literals; bytes of a text.
  What the document reads, letter by letter, and what the program takes.
  The document's MsgAsked.
  The document's MsgAsked: the walk.
-/
import Derived.Test.YtelfnlocgknpjaaMRefRead
import Derived.Lib.ConvBytes
import Derived.Test.YtelfnlocgknpjaaMAskRef
namespace Go.Proofs.Ytelfnlocgknpjaa
open Go.RowKit
set_option linter.unusedVariables false
set_option linter.unusedSimpArgs false

theorem numR_end (k : Nat) (hk : 1 ≤ k) : numR k [] true = (0, [], true) := by unfold numR; rw [if_pos (by simp; omega)]
theorem txtR_end : txtR [] true = ([], [], true) := by
  unfold txtR
  rw [numR_end 2 (by omega)]
  simp [toT]
/-- num and text as a part's take -/
theorem numR_some {k : Nat} {ys r : List Int} {v : PC} {a : Addr} (h : (Pt.num a k).tk ys = some (v, r)) : ∃ x, v = .n x ∧ numR k ys false = (x, r, false) ∧ ∀ z ∈ r, z ∈ ys := by
  simp only [Pt.tk] at h
  split at h
  · cases h
  · rename_i hk
    injection h with h
    injection h with h1 h2
    exact ⟨_, h1.symm, by unfold numR; rw [if_neg hk, h2], fun z hz => List.mem_of_mem_drop (by rw [← h2] at hz; exact hz)⟩
theorem numR_none {k : Nat} {ys : List Int} {a : Addr} (h : (Pt.num a k).tk ys = none) : numR k ys false = (0, [], true) := by
  simp only [Pt.tk] at h
  split at h
  · rename_i hk
    unfold numR; rw [if_pos hk]
  · cases h
theorem txtR_spl {ys : List Int} : (splT ys = none ∧ txtR ys false = ([], [], true)) ∨ ∃ x r, splT ys = some (x, r) ∧ txtR ys false = (toT x, r, false) ∧ (∀ z ∈ x, z ∈ ys) := by
  unfold splT txtR numR
  by_cases h2 : ys.length < 2
  · left
    rw [if_pos h2, if_pos h2]
    simp [toT]
  · rw [if_neg h2, if_neg h2]
    by_cases h3 : ys.length - 2 < (val (ys.take 2)).toNat
    · left
      refine ⟨if_pos h3, ?_⟩
      show (if (ys.drop 2).length < (val (ys.take 2)).toNat then _ else _) = _
      rw [if_pos (by rw [List.length_drop]; exact h3)]
    · right
      refine ⟨_, _, if_neg h3, ?_, fun z hz => List.mem_of_mem_drop (List.mem_of_mem_take hz)⟩
      show (if (ys.drop 2).length < (val (ys.take 2)).toNat then _ else _) = _
      rw [if_neg (by rw [List.length_drop]; exact h3)]

theorem numS {k : Nat} {ys y : List Int} {sh s : Bool} {v : Int} (hk : 1 ≤ k) (h : numR k ys sh = (v, y, s)) (hs : ys = [] ∧ sh = true) : y = [] ∧ s = true := by
  obtain ⟨rfl, rfl⟩ := hs
  rw [numR_end k hk] at h
  injection h with _ h
  injection h with h1 h2
  exact ⟨h1.symm, h2.symm⟩
theorem txtS {ys y : List Int} {sh s : Bool} {v : Byt} (h : txtR ys sh = (v, y, s)) (hs : ys = [] ∧ sh = true) : y = [] ∧ s = true := by
  obtain ⟨rfl, rfl⟩ := hs
  rw [txtR_end] at h
  injection h with _ h
  injection h with h1 h2
  exact ⟨h1.symm, h2.symm⟩
theorem num_of {k : Nat} {ys y : List Int} {s : Bool} {v : Int} (a : Addr) (h : numR k ys false = (v, y, s)) : ((Pt.num a k).tk ys = none ∧ y = [] ∧ s = true) ∨ ((Pt.num a k).tk ys = some (.n v, y) ∧ s = false ∧ ∀ z ∈ y, z ∈ ys) := by
  rcases hk : (Pt.num a k).tk ys with _ | ⟨u, r⟩
  · left
    have e := numR_none hk
    rw [e] at h
    injection h with _ h
    injection h with h1 h2
    exact ⟨rfl, h1.symm, h2.symm⟩
  · right
    obtain ⟨x, rfl, e, hm⟩ := numR_some hk
    rw [e] at h
    injection h with h0 h
    injection h with h1 h2
    subst h0; subst h1
    exact ⟨rfl, h2.symm, hm⟩
theorem txt_of {ys y : List Int} {s : Bool} {v : Byt} (a : Addr) (ho : Oct ys) (h : txtR ys false = (v, y, s)) : ((Pt.dat a).tk ys = none ∧ y = [] ∧ s = true) ∨ ((Pt.dat a).tk ys = some (.d (ofT v), y) ∧ s = false) := by
  rcases txtR_spl (ys := ys) with ⟨h1, h2⟩ | ⟨x, r, h1, h2, h3⟩
  · left
    rw [h2] at h
    injection h with _ h
    injection h with g1 g2
    exact ⟨by simp only [Pt.tk, h1]; rfl, g1.symm, g2.symm⟩
  · right
    rw [h2] at h
    injection h with g0 h
    injection h with g1 g2
    subst g0; subst g1
    exact ⟨by simp only [Pt.tk, h1, Option.map_some]; rw [ofT_toT x fun z hz => ho z (h3 z hz)], g2.symm⟩
theorem num_at4 {R : Nat} {ys y : List Int} {sh s : Bool} {v : Int} (w : World) (hr : RdIs R w ys sh) (h : numR 4 ys sh = (v, y, s)) :
    Calls Try.prog 35 #[.pointer (some ⟨R, 0, none⟩), .int .i64 4] w fun e w' => Only (fun j => j = R) w w' ∧ e = .returned (.int .i64 v) ∧ RdIs R w' y s := by
  have := num_any R 4 ys sh w (by omega) hr
  rw [h] at this
  exact this
theorem num_at1 {R : Nat} {ys y : List Int} {sh s : Bool} {v : Int} (w : World) (hr : RdIs R w ys sh) (h : numR 1 ys sh = (v, y, s)) :
    Calls Try.prog 35 #[.pointer (some ⟨R, 0, none⟩), .int .i64 1] w fun e w' => Only (fun j => j = R) w w' ∧ e = .returned (.int .i64 v) ∧ RdIs R w' y s := by
  have := num_any R 1 ys sh w (by omega) hr
  rw [h] at this
  exact this
theorem text_at {R : Nat} {ys y : List Int} {sh s : Bool} {v : Byt} (w : World) (hr : RdIs R w ys sh) (h : txtR ys sh = (v, y, s)) :
    Calls Try.prog 36 #[.pointer (some ⟨R, 0, none⟩)] w fun e w' => Only (fun j => j = R) w w' ∧ e = .returned (.string (tx v)) ∧ RdIs R w' y s := by
  have := text_any R ys sh w hr
  rw [h] at this
  exact this
theorem only_ofB {B : Nat} {w w' : World} (h : Below B w w') : Only (fun k => B ≤ k) w w' := ⟨h.os, h.tape, h.output, h.size, fun k hk hn => h.block k (by have hn : ¬ B ≤ k := hn; omega)⟩
theorem RdIs.under {R B : Nat} {w w' : World} {ys : List Int} {sh : Bool} (h : RdIs R w ys sh) (hb : Below B w w') (hB : R < B) : RdIs R w' ys sh := by
  obtain ⟨A, n, c, h1, h2, h3, h4, h5, h6, h7⟩ := h
  exact ⟨A, n, c, h1.below' hb hB, h2.only (only_ofB hb) (h6.mono fun k hk => by have hk : B ≤ k := hk; show R ≤ k; omega), h3, h4, h5, h6, h7⟩
theorem RdIs.put {R X j : Nat} {w : World} {ys : List Int} {sh : Bool} (h : RdIs R w ys sh) (hX : R < X) (u : Value) : RdIs R (w.setCell ⟨X, j, none⟩ u) ys sh := by
  obtain ⟨A, n, c, h1, h2, h3, h4, h5, h6, h7⟩ := h
  exact ⟨A, n, c, h1.other (by omega) u, h2.only ((Only.refl (fun k => k = X) w).setCell (.inl rfl) u) (h6.mono fun k hk => by have hk : k = X := hk; show R ≤ k; omega), h3, h4, h5, h6, h7⟩
theorem conv_bytes (w : World) (l : Byt) : (convert 9 22 (.string (tx l))).run Try.prog w = .ok (.slice (some ⟨w.heap.size, 0, none⟩) l.length (grownCap w (tx l).size 0 5)) (Lib.bytesWorld w 5 (tx l)) ∧ Below w.heap.size w (Lib.bytesWorld w 5 (tx l)) ∧ Ls byS (Lib.bytesWorld w 5 (tx l)) (some ⟨w.heap.size, 0, none⟩) (ofT l) ∧ (Lib.bytesWorld w 5 (tx l)).heap.size = w.heap.size + 1 := by
  refine ⟨?_, ⟨rfl, rfl, rfl, by rw [Lib.bytesWorld_size]; omega, fun j hj => Lib.bytesWorld_at_old w 5 (tx l) j hj⟩, ?_, Lib.bytesWorld_size w 5 (tx l)⟩
  · have h := Lib.run_convert_string_bytes (P := Try.prog) w 9 22 5 (tx l) (u := .string) Try.underlying9 Try.underlying22 Try.underlying5
    have e : (tx l).size = l.length := by simp [tx, ByteArray.size]
    rw [e] at h ⊢
    exact h
  · rcases l with _ | ⟨x, r⟩
    · exact Ls.nil _ _
    · refine .inr ⟨w.heap.size, 0, rfl, by rw [Lib.bytesWorld_size]; omega, fun j u hu => ?_⟩
      rw [flat_by, List.getElem?_map] at hu
      unfold ofT at hu
      rw [List.getElem?_map] at hu
      rcases hx : (x :: r)[j]? with _ | b
      · rw [hx] at hu; cases hu
      · rw [hx] at hu
        have hj : j < (x :: r).length := (List.getElem?_eq_some_iff.1 hx).1
        rw [Nat.zero_add, Lib.bytesWorld_cell w 5 (tx (x :: r)) j (by rw [tx_size]; exact hj), tx_list, List.getD_eq_getElem?_getD, hx]
        exact hu

end Go.Proofs.Ytelfnlocgknpjaa

namespace Go.Proofs.Ytelfnlocgknpjaa
open Go.RowKit
set_option linter.unusedVariables false
set_option linter.unusedSimpArgs false

/-- a request without its address -/
def Rqv.bare (x : Rqv) : Rqv := { x with D := none, m := 0, d := 0 }
theorem bare_G (x : Rqv) : x.bare.G = x.G := by funext o; rcases o with _ | _ | _ | _ | _ | _ | _ | _ | o <;> rfl
/-- one letter -/
def rd1 (x : Rqv) (ch : UInt8) (ys : List Int) (sh : Bool) : Rqv × List Int × Bool :=
  if ch = 112 then ({ x with p := (txtR ys sh).1 }, (txtR ys sh).2)
  else if ch = 116 then ({ x with q := (txtR ys sh).1 }, (txtR ys sh).2)
  else if ch = 104 then ({ x with how := (numR 1 ys sh).1 }, (numR 1 ys sh).2)
  else if ch = 110 then ({ x with han := (numR 4 ys sh).1 }, (numR 4 ys sh).2)
  else if ch = 97 then ({ x with a := (numR 4 ys sh).1 }, (numR 4 ys sh).2)
  else if ch = 99 then ({ x with c := (numR 2 ys sh).1 }, (numR 2 ys sh).2)
  else ({ x with zs := ofT (txtR ys sh).1 }, (txtR ys sh).2)
def rdL : Byt → Rqv → List Int → Bool → Rqv × List Int × Bool
  | [], x, ys, sh => (x, ys, sh)
  | ch :: t, x, ys, sh => rdL t (rd1 x ch ys sh).1 (rd1 x ch ys sh).2.1 (rd1 x ch ys sh).2.2
theorem rdL_app : ∀ (l m : Byt) (x : Rqv) (ys : List Int) (sh : Bool), rdL (l ++ m) x ys sh = rdL m (rdL l x ys sh).1 (rdL l x ys sh).2.1 (rdL l x ys sh).2.2
  | [], m, x, ys, sh => rfl
  | ch :: t, m, x, ys, sh => rdL_app t m _ _ _
def Let7 (ch : UInt8) : Prop := ch = 112 ∨ ch = 116 ∨ ch = 104 ∨ ch = 110 ∨ ch = 97 ∨ ch = 99 ∨ ch = 100
/-- a letter's part -/
def letP (ch : UInt8) : Pt :=
  if ch = 112 then .txt (at_ 0 2) else if ch = 116 then .txt (at_ 0 3) else if ch = 104 then .num (at_ 0 4) 1 else if ch = 110 then .num (at_ 0 5) 4 else if ch = 97 then .num (at_ 0 6) 4 else if ch = 99 then .num (at_ 0 7) 2 else .dat (at_ 0 8)
theorem num_cases (a : Addr) (k : Nat) (ys : List Int) : ((Pt.num a k).tk ys = none ∧ (numR k ys false).2.2 = true) ∨ (∃ v r, (Pt.num a k).tk ys = some (.n v, r) ∧ numR k ys false = (v, r, false) ∧ ∀ z ∈ r, z ∈ ys) := by
  rcases h : (Pt.num a k).tk ys with _ | ⟨v, r⟩
  · left; exact ⟨rfl, by rw [numR_none h]⟩
  · right
    obtain ⟨x, rfl, h2, h3⟩ := numR_some h
    exact ⟨x, r, rfl, h2, h3⟩
theorem rd1_short (x : Rqv) (ch : UInt8) (ys : List Int) (sh : Bool) (h : sh = true) (hy : ys = []) : (rd1 x ch ys sh).2 = ([], true) := by
  subst h; subst hy
  unfold rd1
  repeat' split
  all_goals first | (rw [txtR_end]) | (rw [numR_end _ (by omega)])
theorem rdL_short : ∀ (l : Byt) (x : Rqv), (rdL l x [] true).2.2 = true
  | [], x => rfl
  | ch :: t, x => by
    unfold rdL
    rw [rd1_short x ch [] true rfl rfl]
    exact rdL_short t _
theorem num_end {k : Nat} {ys : List Int} (h : (numR k ys false).2.2 = true) : (numR k ys false).2.1 = [] := by
  unfold numR at h ⊢
  split
  · rfl
  · rename_i hk; rw [if_neg hk] at h; cases h
theorem splT_sub {ys x r : List Int} (h : splT ys = some (x, r)) : ∀ z ∈ r, z ∈ ys := by
  unfold splT at h
  split at h
  · cases h
  · split at h
    · cases h
    · injection h with h
      injection h with h1 h2
      subst h2
      exact fun z hz => List.mem_of_mem_drop (List.mem_of_mem_drop hz)
/-- one letter: what the document reads is what the part takes -/
theorem rd1_tk (x : Rqv) (ch : UInt8) (hc : Let7 ch) (ys : List Int) (ho : Oct ys) :
    ((letP ch).tk ys = none ∧ (rd1 x ch ys false).2 = ([], true)) ∨ (∃ v r, (letP ch).tk ys = some (v, r) ∧ (rd1 x ch ys false).2 = (r, false) ∧ Oct r ∧ ∀ o, o < 9 → (rd1 x ch ys false).1.G o = if o = (letP ch).adr.off then v else x.G o) := by
  have htx : ∀ (a : Addr), ((Pt.txt a).tk ys = none ∧ txtR ys false = ([], [], true)) ∨ (∃ s r, (Pt.txt a).tk ys = some (.t s, r) ∧ txtR ys false = (s, r, false) ∧ Oct r) := fun a => by
    rcases txtR_spl (ys := ys) with ⟨h1, h2⟩ | ⟨s, r, h1, h2, h3⟩
    · exact .inl ⟨by simp [Pt.tk, h1], h2⟩
    · exact .inr ⟨toT s, r, by simp [Pt.tk, h1], h2, fun z hz => ho z (splT_sub h1 z hz)⟩
  have hdt : ∀ (a : Addr), ((Pt.dat a).tk ys = none ∧ txtR ys false = ([], [], true)) ∨ (∃ s r, (Pt.dat a).tk ys = some (.d (ofT s), r) ∧ txtR ys false = (s, r, false) ∧ Oct r) := fun a => by
    rcases txtR_spl (ys := ys) with ⟨h1, h2⟩ | ⟨s, r, h1, h2, h3⟩
    · exact .inl ⟨by simp [Pt.tk, h1], h2⟩
    · exact .inr ⟨toT s, r, by simp [Pt.tk, h1, ofT_toT s (fun z hz => ho z (h3 z hz))], h2, fun z hz => ho z (splT_sub h1 z hz)⟩
  have hnm := fun a k => num_cases a k ys
  rcases hc with rfl | rfl | rfl | rfl | rfl | rfl | rfl
  · rcases htx (at_ 0 2) with ⟨h1, h2⟩ | ⟨s, r, h1, h2, h3⟩
    · exact .inl ⟨h1, by show (txtR ys false).2 = _; rw [h2]⟩
    · exact .inr ⟨_, r, h1, by show (txtR ys false).2 = _; rw [h2], h3, fun o ho => by
        show (Rqv.G { x with p := (txtR ys false).1 } o) = _
        rw [h2]
        rcases o with _ | _ | _ | _ | _ | _ | _ | _ | _ | o <;> first | rfl | omega⟩
  · rcases htx (at_ 0 3) with ⟨h1, h2⟩ | ⟨s, r, h1, h2, h3⟩
    · exact .inl ⟨h1, by show (txtR ys false).2 = _; rw [h2]⟩
    · exact .inr ⟨_, r, h1, by show (txtR ys false).2 = _; rw [h2], h3, fun o ho => by
        show (Rqv.G { x with q := (txtR ys false).1 } o) = _
        rw [h2]
        rcases o with _ | _ | _ | _ | _ | _ | _ | _ | _ | o <;> first | rfl | omega⟩
  · rcases hnm (at_ 0 4) 1 with ⟨h1, h2⟩ | ⟨v, r, h1, h2, h3⟩
    · exact .inl ⟨h1, by show (numR 1 ys false).2 = _; rw [Prod.ext_iff]; exact ⟨num_end h2, h2⟩⟩
    · exact .inr ⟨_, r, h1, by show (numR 1 ys false).2 = _; rw [h2], fun z hz => ho z (h3 z hz), fun o ho => by
        show (Rqv.G { x with how := (numR 1 ys false).1 } o) = _
        rw [h2]
        rcases o with _ | _ | _ | _ | _ | _ | _ | _ | _ | o <;> first | rfl | omega⟩
  · rcases hnm (at_ 0 5) 4 with ⟨h1, h2⟩ | ⟨v, r, h1, h2, h3⟩
    · exact .inl ⟨h1, by show (numR 4 ys false).2 = _; rw [Prod.ext_iff]; exact ⟨num_end h2, h2⟩⟩
    · exact .inr ⟨_, r, h1, by show (numR 4 ys false).2 = _; rw [h2], fun z hz => ho z (h3 z hz), fun o ho => by
        show (Rqv.G { x with han := (numR 4 ys false).1 } o) = _
        rw [h2]
        rcases o with _ | _ | _ | _ | _ | _ | _ | _ | _ | o <;> first | rfl | omega⟩
  · rcases hnm (at_ 0 6) 4 with ⟨h1, h2⟩ | ⟨v, r, h1, h2, h3⟩
    · exact .inl ⟨h1, by show (numR 4 ys false).2 = _; rw [Prod.ext_iff]; exact ⟨num_end h2, h2⟩⟩
    · exact .inr ⟨_, r, h1, by show (numR 4 ys false).2 = _; rw [h2], fun z hz => ho z (h3 z hz), fun o ho => by
        show (Rqv.G { x with a := (numR 4 ys false).1 } o) = _
        rw [h2]
        rcases o with _ | _ | _ | _ | _ | _ | _ | _ | _ | o <;> first | rfl | omega⟩
  · rcases hnm (at_ 0 7) 2 with ⟨h1, h2⟩ | ⟨v, r, h1, h2, h3⟩
    · exact .inl ⟨h1, by show (numR 2 ys false).2 = _; rw [Prod.ext_iff]; exact ⟨num_end h2, h2⟩⟩
    · exact .inr ⟨_, r, h1, by show (numR 2 ys false).2 = _; rw [h2], fun z hz => ho z (h3 z hz), fun o ho => by
        show (Rqv.G { x with c := (numR 2 ys false).1 } o) = _
        rw [h2]
        rcases o with _ | _ | _ | _ | _ | _ | _ | _ | _ | o <;> first | rfl | omega⟩
  · rcases hdt (at_ 0 8) with ⟨h1, h2⟩ | ⟨s, r, h1, h2, h3⟩
    · exact .inl ⟨h1, by show (txtR ys false).2 = _; rw [h2]⟩
    · exact .inr ⟨_, r, h1, by show (txtR ys false).2 = _; rw [h2], h3, fun o ho => by
        show (Rqv.G { x with zs := ofT (txtR ys false).1 } o) = _
        rw [h2]
        rcases o with _ | _ | _ | _ | _ | _ | _ | _ | _ | o <;> first | rfl | omega⟩
/-- all letters -/
theorem rdL_tk : ∀ (l : Byt), (∀ ch ∈ l, Let7 ch) → ∀ (x : Rqv) (ys : List Int), Oct ys →
    ((rdL l x ys false).2.2 = true ∧ takeT (l.map letP) ys = none) ∨ ((rdL l x ys false).2.2 = false ∧ ∃ vs, takeT (l.map letP) ys = some (vs, (rdL l x ys false).2.1) ∧ ∀ g : Nat → PC, (∀ o, o < 9 → g o = x.G o) → ∀ o, o < 9 → gOf (l.map letP) vs g o = (rdL l x ys false).1.G o)
  | [], _, x, ys, _ => .inr ⟨rfl, [], rfl, fun g h => h⟩
  | ch :: t, hl, x, ys, ho => by
    rcases rd1_tk x ch (hl ch (List.mem_cons_self ..)) ys ho with ⟨h1, h2⟩ | ⟨v, r, h1, h2, h3, h4⟩
    · left
      refine ⟨?_, ?_⟩
      · unfold rdL; rw [h2]; exact rdL_short t _
      · show takeT (letP ch :: t.map letP) ys = none
        unfold takeT; rw [h1]
    · have e : rdL (ch :: t) x ys false = rdL t (rd1 x ch ys false).1 r false := by
        show rdL t _ _ _ = _
        rw [h2]
      rw [e]
      rcases rdL_tk t (fun c hc => hl c (List.mem_cons_of_mem _ hc)) (rd1 x ch ys false).1 r h3 with ⟨q1, q2⟩ | ⟨q1, vs, q2, q3⟩
      · left
        refine ⟨q1, ?_⟩
        show takeT (letP ch :: t.map letP) ys = none
        unfold takeT; rw [h1]; simp only; rw [q2]
      · right
        refine ⟨q1, v :: vs, ?_, fun g hg o ho9 => ?_⟩
        · show takeT (letP ch :: t.map letP) ys = _
          unfold takeT; rw [h1]; simp only; rw [q2]
        · show gOf (t.map letP) vs (fun o => if o = (letP ch).adr.off then v else g o) o = _
          refine q3 _ (fun o ho => ?_) o ho9
          rw [h4 o ho, hg o ho]

end Go.Proofs.Ytelfnlocgknpjaa

namespace Go.Proofs.Ytelfnlocgknpjaa
open Go.RowKit
set_option linter.unusedVariables false
set_option linter.unusedSimpArgs false

theorem named_let (kd : Int) (h : 1 ≤ kd ∧ kd ≤ 10) : namedBy 0 kd = (nmsK kd.toNat).map letP ∧ (∀ ch ∈ nmsK kd.toNat, Let7 ch) ∧ (nmsK kd.toNat).length ≤ 3 := by
  have h10 : kd = 1 ∨ kd = 2 ∨ kd = 3 ∨ kd = 4 ∨ kd = 5 ∨ kd = 6 ∨ kd = 7 ∨ kd = 8 ∨ kd = 9 ∨ kd = 10 := by omega
  rcases h10 with rfl | rfl | rfl | rfl | rfl | rfl | rfl | rfl | rfl | rfl
  all_goals
    refine ⟨rfl, ?_, by decide⟩
    intro ch hch
    simp [nmsK] at hch
    unfold Let7
    first
      | (rcases hch with rfl | rfl | rfl <;> simp)
      | (rcases hch with rfl | rfl <;> simp)
      | (subst hch; simp)
/-- a request of which only its number and its mark are known -/
def rq0 (kd mrk : Int) : Rqv := ⟨kd, mrk, [], [], 0, 0, 0, 0, none, 0, 0, []⟩
theorem rq00 (o : Nat) (h : o < 9) : g0 0 o = (rq0 0 0).G o := by
  rcases o with _ | _ | _ | _ | _ | _ | _ | _ | _ | o <;> first | rfl | omega
theorem parts_off9 (kd : Int) : ∀ p ∈ partsOf 0 kd, p.adr.off < 9 := by
  intro p hp
  unfold partsOf namedBy at hp
  repeat' split at hp
  all_goals
    simp at hp
    first
      | (rcases hp with rfl | rfl | rfl | rfl | rfl <;> simp [Pt.adr, at_])
      | (rcases hp with rfl | rfl | rfl | rfl <;> simp [Pt.adr, at_])
      | (rcases hp with rfl | rfl | rfl <;> simp [Pt.adr, at_])
theorem faultC_cong9 {g g' : Nat → PC} (h : ∀ o, o < 9 → g o = g' o) (kd : Int) : faultC g kd = faultC g' kd := by
  have hm : moreC g kd = moreC g' kd := by
    unfold moreC
    simp only [List.any_cons, List.any_nil, h 2 (by omega), h 3 (by omega), h 4 (by omega), h 5 (by omega), h 6 (by omega), h 7 (by omega), h 8 (by omega)]
  have hc : (partsOf 0 kd).map (fun p => ckC p (g p.adr.off)) = (partsOf 0 kd).map (fun p => ckC p (g' p.adr.off)) :=
    List.map_congr_left fun p hp => by rw [h _ (parts_off9 kd p hp)]
  unfold faultC
  rw [hm, hc]
theorem num_head {zs y1 y2 : List Int} {kd mrk : Int} {s1 s2 : Bool} (ho : Oct zs) (h1 : numR 1 zs false = (kd, y1, s1)) (h2 : numR 4 y1 s1 = (mrk, y2, s2)) :
    (s2 = true ∧ zs.length < 5) ∨ (s2 = false ∧ ¬ zs.length < 5 ∧ zs.headD 0 = kd ∧ Oct y2 ∧ ∀ l, takeT ([.num (at_ 0 0) 1, .num (at_ 0 1) 4] ++ l) zs = (takeT l y2).map fun r => (.n kd :: .n mrk :: r.1, r.2)) := by
  rcases num_of (at_ 0 0) h1 with ⟨t1, rfl, rfl⟩ | ⟨t1, rfl, hm1⟩
  · left
    obtain ⟨e1, e2⟩ := numS (by omega) h2 ⟨rfl, rfl⟩
    refine ⟨e2, ?_⟩
    simp only [Pt.tk] at t1
    split at t1
    · omega
    · cases t1
  · have hz : zs.headD 0 = kd ∧ y1 = zs.drop 1 ∧ ¬ zs.length < 1 := by
      simp only [Pt.tk] at t1
      split at t1
      · cases t1
      · rename_i hl
        injection t1 with t1
        injection t1 with t1 t2
        injection t1 with t1
        rcases zs with _ | ⟨z, t⟩
        · simp at hl
        · refine ⟨?_, t2.symm, hl⟩
          rw [← t1]
          simp [val]
    obtain ⟨hz1, hz2, hz3⟩ := hz
    rcases num_of (at_ 0 1) h2 with ⟨t2, rfl, rfl⟩ | ⟨t2, rfl, hm2⟩
    · left
      refine ⟨rfl, ?_⟩
      simp only [Pt.tk] at t2
      split at t2
      · rename_i hl; rw [hz2, List.length_drop] at hl; omega
      · cases t2
    · right
      refine ⟨rfl, ?_, hz1, fun z hz => ho z (hm1 z (hm2 z hz)), fun l => ?_⟩
      · simp only [Pt.tk] at t2
        split at t2
        · cases t2
        · rename_i hl; rw [hz2, List.length_drop] at hl; omega
      · show takeT (.num (at_ 0 0) 1 :: .num (at_ 0 1) 4 :: l) zs = _
        simp only [takeT, t1, t2]
        rcases takeT l y2 with _ | ⟨vs, r⟩ <;> rfl
/-- what the document reads against what the program answers -/
theorem askd_ref {zs y1 y2 : List Int} {kd mrk : Int} {s1 s2 : Bool} (ho : Oct zs) (h1 : numR 1 zs false = (kd, y1, s1)) (h2 : numR 4 y1 s1 = (mrk, y2, s2)) :
    (s2 = true ∧ askedT zs = (5, g0 0)) ∨ (s2 = false ∧ ¬ (1 ≤ kd ∧ kd ≤ 10) ∧ askedT zs = (3, g0 0)) ∨
    (s2 = false ∧ (1 ≤ kd ∧ kd ≤ 10) ∧ ((rdL (nmsK kd.toNat) (rq0 kd mrk) y2 false).2.2 = true → askedT zs = (5, g0 0)) ∧
      ((rdL (nmsK kd.toNat) (rq0 kd mrk) y2 false).2.2 = false → ∃ gg, (∀ o, o < 9 → gg o = (rdL (nmsK kd.toNat) (rq0 kd mrk) y2 false).1.G o) ∧
        askedT zs = if 0 < (rdL (nmsK kd.toNat) (rq0 kd mrk) y2 false).2.1.length ∨ faultC (rdL (nmsK kd.toNat) (rq0 kd mrk) y2 false).1.G kd ≠ 0 then (4, g0 0) else (0, gg))) := by
  rcases num_head ho h1 h2 with ⟨e, hl⟩ | ⟨e, hl, hd, hoy, htk⟩
  · left; exact ⟨e, by unfold askedT; rw [if_pos hl]⟩
  · right
    by_cases hk : 1 ≤ kd ∧ kd ≤ 10
    · right
      obtain ⟨hn1, hn2, -⟩ := named_let kd hk
      have hT : takeT (partsOf 0 kd) zs = (takeT ((nmsK kd.toNat).map letP) y2).map fun r => (.n kd :: .n mrk :: r.1, r.2) := by unfold partsOf; rw [hn1]; exact htk _
      refine ⟨e, hk, ?_⟩
      rcases rdL_tk (nmsK kd.toNat) hn2 (rq0 kd mrk) y2 hoy with ⟨q1, q2⟩ | ⟨q1, vs, q2, q3⟩
      · refine ⟨fun _ => ?_, (fun h => by rw [q1] at h; cases h)⟩
        unfold askedT
        rw [if_neg hl, hd, if_pos hk, hT, q2]
        rfl
      · refine ⟨(fun h => by rw [q1] at h; cases h), fun _ => ?_⟩
        have hgg : ∀ o, o < 9 → gOf (partsOf 0 kd) (.n kd :: .n mrk :: vs) (g0 kd) o = (rdL (nmsK kd.toNat) (rq0 kd mrk) y2 false).1.G o := by
          intro o ho9
          have : gOf (partsOf 0 kd) (.n kd :: .n mrk :: vs) (g0 kd) = gOf ((nmsK kd.toNat).map letP) vs (fun o => if o = 1 then .n mrk else if o = 0 then .n kd else g0 kd o) := by
            unfold partsOf; rw [hn1]; rfl
          rw [this]
          refine q3 _ (fun o ho => ?_) o ho9
          rcases o with _ | _ | _ | _ | _ | _ | _ | _ | _ | o <;> first | rfl | omega
        refine ⟨_, hgg, ?_⟩
        unfold askedT
        rw [if_neg hl, hd, if_pos hk, hT, q2]
        simp only [Option.map_some]
        rw [faultC_cong9 hgg kd]
    · left
      exact ⟨e, hk, by unfold askedT; rw [if_neg hl, hd, if_neg hk]⟩

end Go.Proofs.Ytelfnlocgknpjaa

namespace Go.Proofs.Ytelfnlocgknpjaa
open Go.RowKit
set_option linter.unusedVariables false
set_option linter.unusedSimpArgs false

/-- what MsgAsked answers -/
def RetAk (w : World) (zs : List Int) (e : Ending) (w' : World) : Prop :=
  Below w.heap.size w w' ∧ ∃ x : Rqv, e = .returned (.tuple #[.agg x.V, .int .i64 (askedT zs).1]) ∧ x.In w' ∧ ∀ o, o < 9 → (askedT zs).2 o = x.G o
theorem ret_zero9 {w w' : World} {zs : List Int} {v : Int} (hb : Below w.heap.size w w') (h : askedT zs = (v, g0 0)) :
    RetAk w zs (.returned (.tuple #[.agg #[.int .i64 0, .int .i64 0, .string (tx []), .string (tx []), .int .i64 0, .int .i64 0, .int .i64 0, .int .i64 0, .slice none 0 0], .int .i64 v])) w' :=
  ⟨hb, rq0 0 0, by rw [h]; rfl, ⟨Ls.nil _ _, rfl⟩, fun o ho => by rw [h]; exact rq00 o ho⟩
/-- how far the letters have come -/
def AkI (l : Byt) (x0 : Rqv) (y2 : List Int) (R X I : Nat) (w5 : World) (g : Nat) (wx : World) : Prop :=
  ∃ (pos : Nat) (x : Rqv) (y : List Int) (s : Bool), wx.heap[I]? = some (.stringIter (tx l) pos) ∧ pos + g = l.length ∧ RdIs R wx y s ∧ Bx 24 wx X x.V ∧ x.In wx ∧ Clear (fun b => b ≤ R ∨ b = X ∨ b = I) x.D ∧ rdL (l.take pos) x0 y2 false = (x.bare, y, s) ∧ Only (fun b => b = R ∨ b = X ∨ b = I) w5 wx

theorem RdIs.onlyS {R : Nat} {w w' : World} {ys : List Int} {sh : Bool} {S : Nat → Prop} (h : RdIs R w ys sh) (ho : Only S w w') (hS : ∀ k, S k → R < k) : RdIs R w' ys sh := by
  obtain ⟨A, n, c, h1, h2, h3, h4, h5, h6, h7⟩ := h
  exact ⟨A, n, c, h1.only ho (fun e => Nat.lt_irrefl _ (hS _ e)), h2.only ho (h6.mono fun k hk => Nat.le_of_lt (hS k hk)), h3, h4, h5, h6, h7⟩
theorem num_at2 {R : Nat} {ys y : List Int} {sh s : Bool} {v : Int} (w : World) (hr : RdIs R w ys sh) (h : numR 2 ys sh = (v, y, s)) :
    Calls Try.prog 35 #[.pointer (some ⟨R, 0, none⟩), .int .i64 2] w fun e w' => Only (fun j => j = R) w w' ∧ e = .returned (.int .i64 v) ∧ RdIs R w' y s := by
  have := num_any R 2 ys sh w (by omega) hr
  rw [h] at this
  exact this
theorem rd1_kd (x : Rqv) (ch : UInt8) (ys : List Int) (sh : Bool) : (rd1 x ch ys sh).1.kd = x.kd := by
  unfold rd1
  repeat' split
  all_goals rfl
theorem rdL_kd : ∀ (l : Byt) (x : Rqv) (ys : List Int) (sh : Bool), (rdL l x ys sh).1.kd = x.kd
  | [], x, ys, sh => rfl
  | ch :: t, x, ys, sh => by
    unfold rdL
    rw [rdL_kd t]
    exact rd1_kd x ch ys sh
theorem rd_step {l : Byt} {x0 xb xb' : Rqv} {y2 y y' : List Int} {s s' : Bool} {pos : Nat} {ch : UInt8} (hps : pos < l.length) (h : rdL (l.take pos) x0 y2 false = (xb, y, s)) (hch : l.getD pos 0 = ch) (h1 : rd1 xb ch y s = (xb', y', s')) :
    rdL (l.take (pos + 1)) x0 y2 false = (xb', y', s') := by
  have e : l.take (pos + 1) = l.take pos ++ [ch] := by
    rw [List.take_add_one, List.getElem?_eq_getElem hps, ← hch, List.getD_eq_getElem?_getD, List.getElem?_eq_getElem hps]; rfl
  rw [e, rdL_app, h]
  show rdL [ch] xb y s = _
  unfold rdL
  rw [h1]; rfl
theorem akI_next {l : Byt} {x0 x x' : Rqv} {y2 y' : List Int} {s' : Bool} {R X I g pos o : Nat} {u : Value} {w5 W w6 : World}
    (hit : W.heap[I]? = some (.stringIter (tx l) (pos + 1))) (hg : pos + 1 + g = l.length) (hbx : Bx 24 W X x.V) (hin : x.In W) (hcl : Clear (fun b => b ≤ R ∨ b = X ∨ b = I) x.D) (hon : Only (fun b => b = R ∨ b = X ∨ b = I) w5 W) (hRX : R < X) (hXI : X < I)
    (h6 : Only (fun j => j = R) W w6) (hrd6 : RdIs R w6 y' s') (hV : x.V.modify o (fun _ => u) = x'.V) (hD : x'.D = x.D ∧ x'.zs = x.zs ∧ x'.m = x.m) (hrd : rdL (l.take (pos + 1)) x0 y2 false = (x'.bare, y', s')) :
    AkI l x0 y2 R X I w5 g (w6.setCell ⟨X, o, none⟩ u) := by
  have hlt : I < W.heap.size := (Array.getElem?_eq_some_iff.1 hit).1
  have o7 : Only (fun b => b = R ∨ b = X ∨ b = I) W (w6.setCell ⟨X, o, none⟩ u) := (h6.mono (fun k hk => .inl hk)).setCell (.inl (.inr (.inl rfl))) _
  refine ⟨pos + 1, x', y', s', ?_, hg, hrd6.put hRX u, ?_, ?_, by rw [hD.1]; exact hcl, hrd, hon.trans o7 (fun j hj => .inl hj)⟩
  · have hne : I ≠ X := by omega
    rw [Below.heap_setCell _ _ _ _ hne]
    exact (h6.block I hlt (fun e => by have e : I = R := e; omega)).trans hit
  · have := (hbx.only h6 (fun e => by have e : X = R := e; omega)).set o u
    rw [hV] at this
    exact this
  · refine ⟨?_, by rw [hD.2.1, hD.2.2]; exact hin.2⟩
    rw [hD.1, hD.2.1]
    exact hin.1.only o7 (hcl.mono fun k hk => hk.imp (fun e => Nat.le_of_eq e) id)
theorem akI_data {l : Byt} {x0 x : Rqv} {y2 y' : List Int} {s' : Bool} {R X I g pos c8 : Nat} {t : Byt} {w5 W w6 w7 : World}
    (hit : W.heap[I]? = some (.stringIter (tx l) (pos + 1))) (hg : pos + 1 + g = l.length) (hbx : Bx 24 W X x.V) (hon : Only (fun b => b = R ∨ b = X ∨ b = I) w5 W) (hRX : R < X) (hXI : X < I)
    (h6 : Only (fun j => j = R) W w6) (hrd6 : RdIs R w6 y' s') (h7 : Below w6.heap.size w6 w7) (hls : Ls byS w7 (some ⟨w6.heap.size, 0, none⟩) (ofT t)) (hrd : rdL (l.take (pos + 1)) x0 y2 false = (({ x with zs := ofT t, D := some ⟨w6.heap.size, 0, none⟩, m := t.length, d := c8 } : Rqv).bare, y', s')) :
    AkI l x0 y2 R X I w5 g (w7.setCell ⟨X, 8, none⟩ (.slice (some ⟨w6.heap.size, 0, none⟩) t.length c8)) := by
  have hlt : I < W.heap.size := (Array.getElem?_eq_some_iff.1 hit).1
  have z6 := h6.size
  have z7 := h7.size
  have o7 : Only (fun b => b = R ∨ b = X ∨ b = I) W (w7.setCell ⟨X, 8, none⟩ (.slice (some ⟨w6.heap.size, 0, none⟩) t.length c8)) := ((h6.new h7).mono (fun k hk => .inl hk)).setCell (.inl (.inr (.inl rfl))) _
  refine ⟨pos + 1, { x with zs := ofT t, D := some ⟨w6.heap.size, 0, none⟩, m := t.length, d := c8 }, y', s', ?_, hg, (hrd6.new h7).put hRX _, ?_, ?_, ?_, hrd, hon.trans o7 (fun j hj => .inl hj)⟩
  · have hne : I ≠ X := by omega
    rw [Below.heap_setCell _ _ _ _ hne]
    exact ((h7.block I (by omega)).trans (h6.block I hlt (fun e => by have e : I = R := e; omega))).trans hit
  · exact ((hbx.only h6 (fun e => by have e : X = R := e; omega)).below h7).set 8 _
  · refine ⟨hls.only (S := fun k => k = X) ((Only.refl (fun k => k = X) w7).setCell (.inl rfl) _) (fun a ha e => ?_), ofT_len t⟩
    injection ha with ha; subst ha
    have e : w6.heap.size = X := e
    have := hbx.lt; omega
  · intro a ha e
    injection ha with ha; subst ha
    have hlR : R < w6.heap.size := by obtain ⟨A, n, c, h1, -⟩ := hrd6; exact h1.lt
    have := hbx.lt
    rcases e with e | e | e
    · have e : w6.heap.size ≤ R := e; omega
    · have e : w6.heap.size = X := e; omega
    · have e : w6.heap.size = I := e; omega

set_option maxRecDepth 100000 in
set_option maxHeartbeats 16000000 in
theorem refAkd_any (A : Option Addr) (n c : Nat) (zs : List Int) (w : World) (hs : Ls byS w A zs) (hl : zs.length = n) (hc : n ≤ c) (hc2 : c ≤ 9223372036854775807) (ho : Oct zs) (hA : ∀ q, A = some q → q.block < w.heap.size) :
    Calls Try.prog 14 #[.slice A n c] w (RetAk w zs) := by
  obtain ⟨kd, y1, s1, h1⟩ : ∃ v y s, numR 1 zs false = (v, y, s) := ⟨_, _, _, rfl⟩
  obtain ⟨mrk, y2, s2, h2⟩ : ∃ v y s, numR 4 y1 s1 = (v, y, s) := ⟨_, _, _, rfl⟩
  have H1 := Lib.hid h1
  have H2 := Lib.hid h2
  have HREF := Lib.hid (askd_ref ho h1 h2)
  obtain ⟨w1, hw1⟩ : ∃ w1, w1 = (w.alloc (.cells #[.int .i64 0, .int .i64 0, .string (tx []), .string (tx []), .int .i64 0, .int .i64 0, .int .i64 0, .int .i64 0, .slice none 0 0] 24)).alloc (.cells #[.slice A n c, .bool false] 60) := ⟨_, rfl⟩
  obtain ⟨RR, hRR⟩ : ∃ RR, RR = w.heap.size := ⟨_, rfl⟩
  obtain ⟨R, hR⟩ : ∃ R, R = w.heap.size + 1 := ⟨_, rfl⟩
  have HB1 : Hid (Below w.heap.size w w1) := Lib.hid (by rw [hw1]; exact ba2 _ _ _)
  have HXR : Hid (Bx 24 w1 RR #[.int .i64 0, .int .i64 0, .string (tx []), .string (tx []), .int .i64 0, .int .i64 0, .int .i64 0, .int .i64 0, .slice none 0 0]) := Lib.hid (by rw [hw1, hRR]; exact (bx_new w _ _).below (ba1 _ _))
  have HRV : Hid (RR = w.heap.size ∧ R = w.heap.size + 1) := Lib.hid ⟨hRR, hR⟩
  have HRD : Hid (RdIs R w1 zs false) := Lib.hid ⟨A, n, c, by
    have := bx_new (w.alloc (.cells #[.int .i64 0, .int .i64 0, .string (tx []), .string (tx []), .int .i64 0, .int .i64 0, .int .i64 0, .int .i64 0, .slice none 0 0] 24)) 60 #[.slice A n c, .bool false]
    rw [World.size_alloc] at this
    rw [hw1, hR]; exact this, hs.below HB1.out, hl, hc, hc2, fun q hq e => by have := hA q hq; have e : R ≤ q.block := e; omega, ho⟩
  have htx0 : tx [] = { data := #[] } := rfl
  rw [htx0] at hw1
  clear h1 h2 hs hl hc hc2 ho hA htx0
  go_enter Try.func14, Try.ntmps14
  go_upto_region 2 with fail
  rw [← hw1, ← hR, ← hRR]
  clear hw1 hR hRR
  go_upto_region 3 with (first
    | (go_at_call 35; (with_reducible refine (num_at1 w1 HRD.out H1.out).mono ?_); rintro e w2 ⟨o2, rfl, r2⟩; have O2 := Lib.hid o2; have R2 := Lib.hid r2; clear o2 r2)
    | (go_at_call 35; (with_reducible refine (num_at4 w2 R2.out H2.out).mono ?_); rintro e w3 ⟨o3, rfl, r3⟩; have O3 := Lib.hid o3; have R3 := Lib.hid r3; clear o3 r3))
  obtain ⟨X, hX⟩ : ∃ X, X = w3.heap.size := ⟨_, rfl⟩
  obtain ⟨w4, hw4⟩ : ∃ w4, w4 = w3.alloc (.cells #[.int .i64 kd, .int .i64 mrk, .string (tx []), .string (tx []), .int .i64 0, .int .i64 0, .int .i64 0, .int .i64 0, .slice none 0 0] 24) := ⟨_, rfl⟩
  have HB34 : Hid (Below w3.heap.size w3 w4) := Lib.hid (by rw [hw4]; exact ba1 _ _)
  have HX4 : Hid (Bx 24 w4 X (rq0 kd mrk).V) := Lib.hid (by rw [hw4, hX]; exact bx_new _ _ _)
  have HR4 : Hid (RdIs R w4 y2 s2) := Lib.hid (R3.out.new HB34.out)
  have HON4 : Hid (Only (fun j => j = R) w1 w4) := Lib.hid ((O2.out.trans O3.out (fun j hj => .inl hj)).new HB34.out)
  have HRX : Hid (R < X ∧ RR < R ∧ X < w4.heap.size) := Lib.hid (by
    obtain ⟨A', n', c', h', -⟩ := R3.out
    have h1 := h'.lt
    have h2 := HX4.out.lt
    have h3 := HRV.out
    omega)
  have htx0 : tx [] = { data := #[] } := rfl
  rw [htx0] at hw4
  rw [← hw4, ← hX]
  clear hw4 hX htx0
  obtain ⟨Ar, nr, cr, hbr, -⟩ := HR4.out
  have k1 := hbr.cell 1 _ rfl
  have lbr := hbr.lt
  clear hbr
  have HXRr : Hid (Bx 24 w4 RR #[.int .i64 0, .int .i64 0, .string (tx []), .string (tx []), .int .i64 0, .int .i64 0, .int .i64 0, .int .i64 0, .slice none 0 0]) := Lib.hid (HXR.out.only HON4.out (fun e => by have h := HRX.out; have e : RR = R := e; omega))
  have HBW4 : Hid (Below w.heap.size w w4) := Lib.hid (HB1.out.trans (HON4.out.below (fun q hq => by have h2 := HRV.out; have hq : q = R := hq; omega) HB1.out.size))
  rcases HREF.out with ⟨rfl, hak⟩ | ⟨rfl, hkd, hak⟩ | ⟨rfl, hkd, hak1, hak2⟩
  · have HAK := Lib.hid hak
    clear hak
    obtain ⟨lR, c0, c1, c2, c3, c4, c5, c6, c7, c8, fr⟩ := HXRr.out.cells9
    have z0 := HXRr.out.soft 0
    have z1 := HXRr.out.soft 1
    have z2 := HXRr.out.soft 2
    have z3 := HXRr.out.soft 3
    have z4 := HXRr.out.soft 4
    have z5 := HXRr.out.soft 5
    have z6 := HXRr.out.soft 6
    have z7 := HXRr.out.soft 7
    have z8 := HXRr.out.soft 8
    clear fr
    go_wp2_with fail
    obtain ⟨wf, hwf⟩ : ∃ wf, wf = put9 w4 RR (.int .i64 0) (.int .i64 0) (.string { data := #[] }) (.string { data := #[] }) (.int .i64 0) (.int .i64 0) (.int .i64 0) (.int .i64 0) (.slice none 0 0) := ⟨_, rfl⟩
    have hf := HXRr.out.put9 (.int .i64 0) (.int .i64 0) (.string { data := #[] }) (.string { data := #[] }) (.int .i64 0) (.int .i64 0) (.int .i64 0) (.int .i64 0) (.slice none 0 0)
    have hon : Only (fun k => k = RR) w4 wf := by rw [hwf]; exact only_put9 w4 RR (.int .i64 0) (.int .i64 0) (.string { data := #[] }) (.string { data := #[] }) (.int .i64 0) (.int .i64 0) (.int .i64 0) (.int .i64 0) (.slice none 0 0)
    have hbf : Below w.heap.size w wf := HBW4.out.trans (hon.below (fun k hk => by have hk : k = RR := hk; have := HRV.out; omega) HBW4.out.size)
    rw [← hwf] at hf
    obtain ⟨-, r0, r1, r2, r3, r4, r5, r6, r7, r8, -⟩ := hf.cells9
    unfold put9 at hwf
    rw [← hwf]
    refine end_ret (v := .tuple #[.agg #[.int .i64 0, .int .i64 0, .string { data := #[] }, .string { data := #[] }, .int .i64 0, .int .i64 0, .int .i64 0, .int .i64 0, .slice none 0 0], .int .i64 5]) (by simp [results, Try.results14, go_sem, r0, r1, r2, r3, r4, r5, r6, r7, r8]; try rfl) ?_
    exact ret_zero9 hbf HAK.out
  · have HAK := Lib.hid hak
    obtain ⟨lx, x0, -⟩ := HX4.out.cells9
    have x0' : w4.cell? ⟨X, 0, none⟩ = some (.int .i64 kd) := x0
    clear hak x0
    obtain ⟨lR, c0, c1, c2, c3, c4, c5, c6, c7, c8, fr⟩ := HXRr.out.cells9
    have z0 := HXRr.out.soft 0
    have z1 := HXRr.out.soft 1
    have z2 := HXRr.out.soft 2
    have z3 := HXRr.out.soft 3
    have z4 := HXRr.out.soft 4
    have z5 := HXRr.out.soft 5
    have z6 := HXRr.out.soft 6
    have z7 := HXRr.out.soft 7
    have z8 := HXRr.out.soft 8
    clear fr
    by_cases hk1 : kd < 1
    · clear hkd
      go_wp2_with fail
      obtain ⟨wf, hwf⟩ : ∃ wf, wf = put9 w4 RR (.int .i64 0) (.int .i64 0) (.string { data := #[] }) (.string { data := #[] }) (.int .i64 0) (.int .i64 0) (.int .i64 0) (.int .i64 0) (.slice none 0 0) := ⟨_, rfl⟩
      have hf := HXRr.out.put9 (.int .i64 0) (.int .i64 0) (.string { data := #[] }) (.string { data := #[] }) (.int .i64 0) (.int .i64 0) (.int .i64 0) (.int .i64 0) (.slice none 0 0)
      have hon : Only (fun k => k = RR) w4 wf := by rw [hwf]; exact only_put9 w4 RR (.int .i64 0) (.int .i64 0) (.string { data := #[] }) (.string { data := #[] }) (.int .i64 0) (.int .i64 0) (.int .i64 0) (.int .i64 0) (.slice none 0 0)
      have hbf : Below w.heap.size w wf := HBW4.out.trans (hon.below (fun k hk => by have hk : k = RR := hk; have := HRV.out; omega) HBW4.out.size)
      rw [← hwf] at hf
      obtain ⟨-, r0, r1, r2, r3, r4, r5, r6, r7, r8, -⟩ := hf.cells9
      unfold put9 at hwf
      rw [← hwf]
      refine end_ret (v := .tuple #[.agg #[.int .i64 0, .int .i64 0, .string { data := #[] }, .string { data := #[] }, .int .i64 0, .int .i64 0, .int .i64 0, .int .i64 0, .slice none 0 0], .int .i64 3]) (by simp [results, Try.results14, go_sem, r0, r1, r2, r3, r4, r5, r6, r7, r8]; try rfl) ?_
      exact ret_zero9 hbf HAK.out
    · have hk2 : 10 < kd := by omega
      clear hkd
      go_wp2_with fail
      obtain ⟨wf, hwf⟩ : ∃ wf, wf = put9 w4 RR (.int .i64 0) (.int .i64 0) (.string { data := #[] }) (.string { data := #[] }) (.int .i64 0) (.int .i64 0) (.int .i64 0) (.int .i64 0) (.slice none 0 0) := ⟨_, rfl⟩
      have hf := HXRr.out.put9 (.int .i64 0) (.int .i64 0) (.string { data := #[] }) (.string { data := #[] }) (.int .i64 0) (.int .i64 0) (.int .i64 0) (.int .i64 0) (.slice none 0 0)
      have hon : Only (fun k => k = RR) w4 wf := by rw [hwf]; exact only_put9 w4 RR (.int .i64 0) (.int .i64 0) (.string { data := #[] }) (.string { data := #[] }) (.int .i64 0) (.int .i64 0) (.int .i64 0) (.int .i64 0) (.slice none 0 0)
      have hbf : Below w.heap.size w wf := HBW4.out.trans (hon.below (fun k hk => by have hk : k = RR := hk; have := HRV.out; omega) HBW4.out.size)
      rw [← hwf] at hf
      obtain ⟨-, r0, r1, r2, r3, r4, r5, r6, r7, r8, -⟩ := hf.cells9
      unfold put9 at hwf
      rw [← hwf]
      refine end_ret (v := .tuple #[.agg #[.int .i64 0, .int .i64 0, .string { data := #[] }, .string { data := #[] }, .int .i64 0, .int .i64 0, .int .i64 0, .int .i64 0, .slice none 0 0], .int .i64 3]) (by simp [results, Try.results14, go_sem, r0, r1, r2, r3, r4, r5, r6, r7, r8]; try rfl) ?_
      exact ret_zero9 hbf HAK.out
  · have HAK1 := Lib.hid hak1
    have HAK2 := Lib.hid hak2
    obtain ⟨lx, x0, -⟩ := HX4.out.cells9
    have x0' : w4.cell? ⟨X, 0, none⟩ = some (.int .i64 kd) := x0
    have hk1 : ¬ kd < 1 := by omega
    have hk2 : ¬ 10 < kd := by omega
    obtain ⟨l, hl⟩ : ∃ l, l = nmsK kd.toNat := ⟨_, rfl⟩
    have HL := Lib.hid hl
    obtain ⟨-, hl7, -⟩ := named_let kd hkd
    rw [← hl] at HAK1 HAK2 hl7
    have HL7 := Lib.hid hl7
    have HMN : Hid (∀ ww : World, Calls Try.prog 32 #[.int .i64 kd] ww fun e w' => e = .returned (.string (tx l)) ∧ Below ww.heap.size ww w') := Lib.hid (fun ww => by
      have h := msgNames_any kd.toNat (by omega) ww
      rw [show ((kd.toNat : Nat) : Int) = kd from by omega, ← HL.out] at h
      exact h)
    have HSZ : Hid ((tx l).size = l.length) := Lib.hid (tx_size l)
    have HKD := Lib.hid hkd
    clear hl hl7 hak1 hak2 x0 hkd
    go_wp2_with (go_at_call 32; (with_reducible refine (HMN.out w4).mono ?_); rintro e w5 ⟨rfl, hb5⟩; have HB5 := Lib.hid hb5; clear hb5)
    clear k1 lbr lx x0' hk1 hk2
    obtain ⟨I, hI⟩ : ∃ I, I = w5.heap.size := ⟨_, rfl⟩
    have HI : Hid (I = w5.heap.size ∧ X < I ∧ RR < R ∧ R < X) := Lib.hid ⟨hI, by have := HRX.out; have := HB5.out.size; omega, HRX.out.2.1, HRX.out.1⟩
    rw [← hI]
    clear hI
    go_loopg [] l.length (fun g wx => AkI l (rq0 kd mrk) y2 R X I w5 g wx)
    case atStart =>
      have hb5 : Below w4.heap.size w4 (w5.iter (tx l) 0) := bthen HB5.out ((Below.refl _ _).alloc (Nat.le_refl _) _)
      exact ⟨0, rq0 kd mrk, y2, false, by rw [HI.out.1]; exact World.iter_heap w5 (tx l) 0, by omega, HR4.out.new hb5, HX4.out.below hb5, ⟨Ls.nil _ _, rfl⟩, Clear.none _, rfl, only_new ((Below.refl _ _).alloc (Nat.le_refl _) _)⟩
    case round =>
      obtain ⟨pos, x, y, s, hit, hpg, hrd, hbx, hin, hcl, hrdl, hon⟩ := hrel
      have HRDL := Lib.hid hrdl
      have HON := Lib.hid hon
      have HCLW := Lib.hid hcl
      by_cases hps : pos < l.length
      · obtain ⟨g', rfl⟩ : ∃ g', gk = g' + 1 := ⟨gk - 1, by omega⟩
        have hps2 : pos < (tx l).size := by rw [HSZ.out]; exact hps
        have hnx : ∀ ty, (Instr.next (.pointer (some ⟨I, 0, none⟩)) true ty).run Try.prog wr = _ := fun ty => Lib.run_next_any_at wr I (tx l) pos ty hit hps2
        have HOK := Lib.hid (HL7.out (l.getD pos 0) (by rw [List.getD_eq_getElem?_getD, List.getElem?_eq_getElem hps]; exact List.getElem_mem hps))
        have hasc : (l.getD pos 0).toNat < 128 := by
          rcases HOK.out with h | h | h | h | h | h | h <;> rw [h] <;> decide
        rw [ascii_dec l pos hps hasc] at hnx
        simp only at hnx
        have hit2 := Lib.iterAt_heap wr I (tx l) pos (pos + 1) hit
        have honI : Only (fun j => j = I) wr (wr.iterAt I (tx l) (pos + 1)) := ⟨rfl, rfl, rfl, by rw [Lib.iterAt_size]; exact Nat.le_refl _, fun k _ hk => Lib.iterAt_other wr I k (tx l) (pos + 1) hk⟩
        have hXI := HI.out.2.1
        have hRX := HI.out.2.2.2
        have hrd2 := hrd.onlyS honI (fun k hk => by have hk : k = I := hk; omega)
        have hbx2 := hbx.only honI (fun e => by have e : X = I := e; omega)
        have hin2 : x.In (wr.iterAt I (tx l) (pos + 1)) := ⟨hin.1.only honI (hcl.mono fun k hk => .inr (.inr hk)), hin.2⟩
        have hon2 := hon.trans honI (fun j hj => .inl (.inr (.inr hj)))
        obtain ⟨W, hWd⟩ : ∃ W, wr.iterAt I (tx l) (pos + 1) = W := ⟨_, rfl⟩
        rw [hWd] at hnx hit2 hrd2 hbx2 hin2 hon2
        obtain ⟨R0, hR0⟩ : ∃ R0 : Nat, R0 = (l.getD pos 0).toNat := ⟨_, rfl⟩
        rw [← hR0] at hnx
        have HIT := Lib.hid hit2
        have HRDW := Lib.hid hrd2
        have HXW := Lib.hid hbx2
        have HINW := Lib.hid hin2
        have HONW := Lib.hid hon2
        have HG : Hid (pos + 1 + g' = l.length) := Lib.hid (by omega)
        have hok := HOK.out
        clear hit hrd hbx hin hcl hrdl hon hit2 honI hrd2 hbx2 hin2 hon2 hWd hasc hps2 hXI hRX
        rcases hok with h1 | h1 | h1 | h1 | h1 | h1 | h1
        · have HCH : Hid (l.getD pos 0 = 112) := Lib.hid h1
          obtain rfl : R0 = 112 := by rw [hR0, h1]; rfl
          clear h1 hR0
          obtain ⟨t, y', s', ht⟩ : ∃ t y' s', txtR y s = (t, y', s') := ⟨_, _, _, rfl⟩
          have HT := Lib.hid ht
          have HST : Hid (rdL (l.take (pos + 1)) (rq0 kd mrk) y2 false = (({ x with p := t } : Rqv).bare, y', s')) := Lib.hid (rd_step hps HRDL.out HCH.out (by show (({ x.bare with p := (txtR y s).1 } : Rqv), (txtR y s).2) = _; rw [ht]; rfl))
          clear ht
          go_wp2_with (go_at_call 36; (with_reducible refine (text_at W HRDW.out HT.out).mono ?_); rintro e w6 ⟨o6, rfl, r6⟩; have O6 := Lib.hid o6; have R6 := Lib.hid r6; have hx6 := HXW.out.only o6 (fun e => by have e : X = R := e; have := HI.out; omega); have q1 := hx6.cell 2 _ rfl; have q2 := hx6.soft 2; have q3 := hx6.lt; clear o6 r6 hx6)
          go_roundg g'
          case measure => omega
          case rel => exact akI_next (x' := { x with p := t }) HIT.out HG.out HXW.out HINW.out HCLW.out HONW.out HI.out.2.2.2 HI.out.2.1 O6.out R6.out rfl ⟨rfl, rfl, rfl⟩ HST.out
        · have HCH : Hid (l.getD pos 0 = 116) := Lib.hid h1
          obtain rfl : R0 = 116 := by rw [hR0, h1]; rfl
          clear h1 hR0
          obtain ⟨t, y', s', ht⟩ : ∃ t y' s', txtR y s = (t, y', s') := ⟨_, _, _, rfl⟩
          have HT := Lib.hid ht
          have HST : Hid (rdL (l.take (pos + 1)) (rq0 kd mrk) y2 false = (({ x with q := t } : Rqv).bare, y', s')) := Lib.hid (rd_step hps HRDL.out HCH.out (by show (({ x.bare with q := (txtR y s).1 } : Rqv), (txtR y s).2) = _; rw [ht]; rfl))
          clear ht
          go_wp2_with (go_at_call 36; (with_reducible refine (text_at W HRDW.out HT.out).mono ?_); rintro e w6 ⟨o6, rfl, r6⟩; have O6 := Lib.hid o6; have R6 := Lib.hid r6; have hx6 := HXW.out.only o6 (fun e => by have e : X = R := e; have := HI.out; omega); have q1 := hx6.cell 3 _ rfl; have q2 := hx6.soft 3; have q3 := hx6.lt; clear o6 r6 hx6)
          go_roundg g'
          case measure => omega
          case rel => exact akI_next (x' := { x with q := t }) HIT.out HG.out HXW.out HINW.out HCLW.out HONW.out HI.out.2.2.2 HI.out.2.1 O6.out R6.out rfl ⟨rfl, rfl, rfl⟩ HST.out
        · have HCH : Hid (l.getD pos 0 = 104) := Lib.hid h1
          obtain rfl : R0 = 104 := by rw [hR0, h1]; rfl
          clear h1 hR0
          obtain ⟨t, y', s', ht⟩ : ∃ t y' s', numR 1 y s = (t, y', s') := ⟨_, _, _, rfl⟩
          have HT := Lib.hid ht
          have HST : Hid (rdL (l.take (pos + 1)) (rq0 kd mrk) y2 false = (({ x with how := t } : Rqv).bare, y', s')) := Lib.hid (rd_step hps HRDL.out HCH.out (by show (({ x.bare with how := (numR 1 y s).1 } : Rqv), (numR 1 y s).2) = _; rw [ht]; rfl))
          clear ht
          go_wp2_with (go_at_call 35; (with_reducible refine (num_at1 W HRDW.out HT.out).mono ?_); rintro e w6 ⟨o6, rfl, r6⟩; have O6 := Lib.hid o6; have R6 := Lib.hid r6; have hx6 := HXW.out.only o6 (fun e => by have e : X = R := e; have := HI.out; omega); have q1 := hx6.cell 4 _ rfl; have q2 := hx6.soft 4; have q3 := hx6.lt; clear o6 r6 hx6)
          go_roundg g'
          case measure => omega
          case rel => exact akI_next (x' := { x with how := t }) HIT.out HG.out HXW.out HINW.out HCLW.out HONW.out HI.out.2.2.2 HI.out.2.1 O6.out R6.out rfl ⟨rfl, rfl, rfl⟩ HST.out
        · have HCH : Hid (l.getD pos 0 = 110) := Lib.hid h1
          obtain rfl : R0 = 110 := by rw [hR0, h1]; rfl
          clear h1 hR0
          obtain ⟨t, y', s', ht⟩ : ∃ t y' s', numR 4 y s = (t, y', s') := ⟨_, _, _, rfl⟩
          have HT := Lib.hid ht
          have HST : Hid (rdL (l.take (pos + 1)) (rq0 kd mrk) y2 false = (({ x with han := t } : Rqv).bare, y', s')) := Lib.hid (rd_step hps HRDL.out HCH.out (by show (({ x.bare with han := (numR 4 y s).1 } : Rqv), (numR 4 y s).2) = _; rw [ht]; rfl))
          clear ht
          go_wp2_with (go_at_call 35; (with_reducible refine (num_at4 W HRDW.out HT.out).mono ?_); rintro e w6 ⟨o6, rfl, r6⟩; have O6 := Lib.hid o6; have R6 := Lib.hid r6; have hx6 := HXW.out.only o6 (fun e => by have e : X = R := e; have := HI.out; omega); have q1 := hx6.cell 5 _ rfl; have q2 := hx6.soft 5; have q3 := hx6.lt; clear o6 r6 hx6)
          go_roundg g'
          case measure => omega
          case rel => exact akI_next (x' := { x with han := t }) HIT.out HG.out HXW.out HINW.out HCLW.out HONW.out HI.out.2.2.2 HI.out.2.1 O6.out R6.out rfl ⟨rfl, rfl, rfl⟩ HST.out
        · have HCH : Hid (l.getD pos 0 = 97) := Lib.hid h1
          obtain rfl : R0 = 97 := by rw [hR0, h1]; rfl
          clear h1 hR0
          obtain ⟨t, y', s', ht⟩ : ∃ t y' s', numR 4 y s = (t, y', s') := ⟨_, _, _, rfl⟩
          have HT := Lib.hid ht
          have HST : Hid (rdL (l.take (pos + 1)) (rq0 kd mrk) y2 false = (({ x with a := t } : Rqv).bare, y', s')) := Lib.hid (rd_step hps HRDL.out HCH.out (by show (({ x.bare with a := (numR 4 y s).1 } : Rqv), (numR 4 y s).2) = _; rw [ht]; rfl))
          clear ht
          go_wp2_with (go_at_call 35; (with_reducible refine (num_at4 W HRDW.out HT.out).mono ?_); rintro e w6 ⟨o6, rfl, r6⟩; have O6 := Lib.hid o6; have R6 := Lib.hid r6; have hx6 := HXW.out.only o6 (fun e => by have e : X = R := e; have := HI.out; omega); have q1 := hx6.cell 6 _ rfl; have q2 := hx6.soft 6; have q3 := hx6.lt; clear o6 r6 hx6)
          go_roundg g'
          case measure => omega
          case rel => exact akI_next (x' := { x with a := t }) HIT.out HG.out HXW.out HINW.out HCLW.out HONW.out HI.out.2.2.2 HI.out.2.1 O6.out R6.out rfl ⟨rfl, rfl, rfl⟩ HST.out
        · have HCH : Hid (l.getD pos 0 = 99) := Lib.hid h1
          obtain rfl : R0 = 99 := by rw [hR0, h1]; rfl
          clear h1 hR0
          obtain ⟨t, y', s', ht⟩ : ∃ t y' s', numR 2 y s = (t, y', s') := ⟨_, _, _, rfl⟩
          have HT := Lib.hid ht
          have HST : Hid (rdL (l.take (pos + 1)) (rq0 kd mrk) y2 false = (({ x with c := t } : Rqv).bare, y', s')) := Lib.hid (rd_step hps HRDL.out HCH.out (by show (({ x.bare with c := (numR 2 y s).1 } : Rqv), (numR 2 y s).2) = _; rw [ht]; rfl))
          clear ht
          go_wp2_with (go_at_call 35; (with_reducible refine (num_at2 W HRDW.out HT.out).mono ?_); rintro e w6 ⟨o6, rfl, r6⟩; have O6 := Lib.hid o6; have R6 := Lib.hid r6; have hx6 := HXW.out.only o6 (fun e => by have e : X = R := e; have := HI.out; omega); have q1 := hx6.cell 7 _ rfl; have q2 := hx6.soft 7; have q3 := hx6.lt; clear o6 r6 hx6)
          go_roundg g'
          case measure => omega
          case rel => exact akI_next (x' := { x with c := t }) HIT.out HG.out HXW.out HINW.out HCLW.out HONW.out HI.out.2.2.2 HI.out.2.1 O6.out R6.out rfl ⟨rfl, rfl, rfl⟩ HST.out
        · have HCH : Hid (l.getD pos 0 = 100) := Lib.hid h1
          obtain rfl : R0 = 100 := by rw [hR0, h1]; rfl
          clear h1 hR0
          obtain ⟨t, y', s', ht⟩ : ∃ t y' s', txtR y s = (t, y', s') := ⟨_, _, _, rfl⟩
          have HT := Lib.hid ht
          have HST : Hid (∀ (D : Option Addr) (m d : Nat), rdL (l.take (pos + 1)) (rq0 kd mrk) y2 false = (({ x with zs := ofT t, D := D, m := m, d := d } : Rqv).bare, y', s')) := Lib.hid (fun D m d => rd_step hps HRDL.out HCH.out (by show (({ x.bare with zs := ofT (txtR y s).1 } : Rqv), (txtR y s).2) = _; rw [ht]; rfl))
          clear ht
          go_wp2_with (go_at_call 36; (with_reducible refine (text_at W HRDW.out HT.out).mono ?_); rintro e w6 ⟨o6, rfl, r6⟩; have O6 := Lib.hid o6; have R6 := Lib.hid r6; have hx6 := HXW.out.only o6 (fun e => by have e : X = R := e; have := HI.out; omega); have hcv := (conv_bytes w6 t).1; have HBY := Lib.hid (conv_bytes w6 t).2; obtain ⟨w7, hw7⟩ : ∃ w7, w7 = Lib.bytesWorld w6 5 (tx t) := ⟨_, rfl⟩; rw [← hw7] at hcv HBY; obtain ⟨c8, hc8⟩ : ∃ c8, c8 = grownCap w6 (tx t).size 0 5 := ⟨_, rfl⟩; rw [← hc8] at hcv; have hx7 := hx6.below HBY.out.1; have q1 := hx7.cell 8 _ rfl; have q2 := hx7.soft 8; have q3 := hx7.lt; clear o6 r6 hx6 hx7 hw7 hc8)
          go_roundg g'
          case measure => omega
          case rel => exact akI_data HIT.out HG.out HXW.out HONW.out HI.out.2.2.2 HI.out.2.1 O6.out R6.out HBY.out.1 HBY.out.2.1 (HST.out _ _ _)
      · have hnx : ∀ ty, (Instr.next (.pointer (some ⟨I, 0, none⟩)) true ty).run Try.prog wr = _ := fun ty => Lib.run_next_end_at wr I (tx l) pos ty hit (by rw [HSZ.out]; exact hps)
        have hrdl2 : rdL l (rq0 kd mrk) y2 false = (x.bare, y, s) := by rw [← HRDL.out, List.take_of_length_le (by omega)]
        have HKX : Hid (x.kd = kd) := Lib.hid (by
          have h := rdL_kd l (rq0 kd mrk) y2 false
          rw [hrdl2] at h
          exact h)
        have HRL2 := Lib.hid hrdl2
        have HIN := Lib.hid hin
        have HXX := Lib.hid hbx
        have hon5 : Only (fun b => b = R ∨ b = X ∨ b = I) w4 wr := (only_new HB5.out).trans hon (fun j hj => .inl hj)
        have HXRr : Hid (Bx 24 wr RR #[.int .i64 0, .int .i64 0, .string (tx []), .string (tx []), .int .i64 0, .int .i64 0, .int .i64 0, .int .i64 0, .slice none 0 0]) := Lib.hid (HXRr.out.only hon5 (fun e => by have h := HI.out; rcases e with e | e | e <;> (have e : RR = _ := e) <;> omega))
        have HBW : Hid (Below w.heap.size w wr) := Lib.hid (HBW4.out.trans (hon5.below (fun q hq => by have h := HI.out; have h2 := HRV.out; rcases hq with hq | hq | hq <;> (have hq : q = _ := hq) <;> omega) HBW4.out.size))
        obtain ⟨Ar, nr, cr, hbr, -, hyl, -⟩ := hrd
        have k0 := hbr.cell 0 _ rfl
        have k1 := hbr.cell 1 _ rfl
        have lbr := hbr.lt
        have HYL := Lib.hid hyl
        clear hit hbx hin hcl hrdl hon hrdl2 hon5 hbr hyl
        rcases s with _ | _
        · obtain ⟨gg, hgg, hak⟩ := HAK2.out (by rw [HRL2.out])
          rw [HRL2.out] at hgg hak
          simp only [bare_G] at hgg hak
          have HGG := Lib.hid hgg
          have HAK := Lib.hid hak
          clear hgg hak
          by_cases hn0 : 0 < nr
          · have hni : (0 : Int) < (nr : Int) := by omega
            have HK4 : Hid (askedT zs = (4, g0 0)) := Lib.hid (by rw [HAK.out]; exact if_pos (.inl (by rw [HYL.out]; exact hn0)))
            obtain ⟨lR, c0, c1, c2, c3, c4, c5, c6, c7, c8, fr⟩ := HXRr.out.cells9
            have z0 := HXRr.out.soft 0
            have z1 := HXRr.out.soft 1
            have z2 := HXRr.out.soft 2
            have z3 := HXRr.out.soft 3
            have z4 := HXRr.out.soft 4
            have z5 := HXRr.out.soft 5
            have z6 := HXRr.out.soft 6
            have z7 := HXRr.out.soft 7
            have z8 := HXRr.out.soft 8
            clear fr
            go_wp2_with fail
            obtain ⟨wf, hwf⟩ : ∃ wf, wf = put9 wr RR (.int .i64 0) (.int .i64 0) (.string { data := #[] }) (.string { data := #[] }) (.int .i64 0) (.int .i64 0) (.int .i64 0) (.int .i64 0) (.slice none 0 0) := ⟨_, rfl⟩
            have hf := HXRr.out.put9 (.int .i64 0) (.int .i64 0) (.string { data := #[] }) (.string { data := #[] }) (.int .i64 0) (.int .i64 0) (.int .i64 0) (.int .i64 0) (.slice none 0 0)
            have hon : Only (fun k => k = RR) wr wf := by rw [hwf]; exact only_put9 wr RR (.int .i64 0) (.int .i64 0) (.string { data := #[] }) (.string { data := #[] }) (.int .i64 0) (.int .i64 0) (.int .i64 0) (.int .i64 0) (.slice none 0 0)
            have hbf : Below w.heap.size w wf := HBW.out.trans (hon.below (fun k hk => by have hk : k = RR := hk; have := HRV.out; omega) HBW.out.size)
            rw [← hwf] at hf
            obtain ⟨-, r0, r1, r2, r3, r4, r5, r6, r7, r8, -⟩ := hf.cells9
            unfold put9 at hwf
            rw [← hwf]
            refine end_ret (v := .tuple #[.agg #[.int .i64 0, .int .i64 0, .string { data := #[] }, .string { data := #[] }, .int .i64 0, .int .i64 0, .int .i64 0, .int .i64 0, .slice none 0 0], .int .i64 4]) (by simp [results, Try.results14, go_sem, r0, r1, r2, r3, r4, r5, r6, r7, r8]; try rfl) ?_
            exact ret_zero9 hbf HK4.out
          · obtain rfl : nr = 0 := by omega
            obtain ⟨v, hv⟩ : ∃ v, faultC x.G x.kd = v := ⟨_, rfl⟩
            have HFT := Lib.hid (refFault_any x wr HIN.out.2 v hv)
            have HV : Hid (faultC x.G kd = v) := Lib.hid (by rw [← HKX.out]; exact hv)
            unfold Rqv.V at HFT
            clear hv
            obtain ⟨lx, b0, b1, b2, b3, b4, b5, b6, b7, b8, -⟩ := HXX.out.cells9
            by_cases hv0 : v = 0
            · subst hv0
              have HK0 : Hid (askedT zs = (0, gg)) := Lib.hid (by
                rw [HAK.out]
                exact if_neg (by rintro (h | h); rw [HYL.out] at h; omega; exact h HV.out))
              go_wp2_with (go_at_call 30; (with_reducible refine HFT.out.mono ?_); rintro e w7 ⟨rfl, hb7⟩; have HB7 := Lib.hid hb7; have HXR7 := Lib.hid (HXRr.out.below hb7); have HBW7 := Lib.hid (bthen HBW.out hb7); have HXX7 := Lib.hid (HXX.out.below hb7); have HIN7 := Lib.hid (HIN.out.below hb7); obtain ⟨lx, b0, b1, b2, b3, b4, b5, b6, b7, b8, -⟩ := HXX7.out.cells9; obtain ⟨lR, c0, c1, c2, c3, c4, c5, c6, c7, c8, fr⟩ := HXR7.out.cells9; have z0 := HXR7.out.soft 0; have z1 := HXR7.out.soft 1; have z2 := HXR7.out.soft 2; have z3 := HXR7.out.soft 3; have z4 := HXR7.out.soft 4; have z5 := HXR7.out.soft 5; have z6 := HXR7.out.soft 6; have z7 := HXR7.out.soft 7; have z8 := HXR7.out.soft 8; clear fr; clear hb7)
              obtain ⟨wf, hwf⟩ : ∃ wf, wf = put9 w7 RR (.int .i64 x.kd) (.int .i64 x.mrk) (.string (tx x.p)) (.string (tx x.q)) (.int .i64 x.how) (.int .i64 x.han) (.int .i64 x.a) (.int .i64 x.c) (.slice x.D x.m x.d) := ⟨_, rfl⟩
              have hf := HXR7.out.put9 (.int .i64 x.kd) (.int .i64 x.mrk) (.string (tx x.p)) (.string (tx x.q)) (.int .i64 x.how) (.int .i64 x.han) (.int .i64 x.a) (.int .i64 x.c) (.slice x.D x.m x.d)
              have hon : Only (fun k => k = RR) w7 wf := by rw [hwf]; exact only_put9 w7 RR (.int .i64 x.kd) (.int .i64 x.mrk) (.string (tx x.p)) (.string (tx x.q)) (.int .i64 x.how) (.int .i64 x.han) (.int .i64 x.a) (.int .i64 x.c) (.slice x.D x.m x.d)
              have hbf : Below w.heap.size w wf := HBW7.out.trans (hon.below (fun k hk => by have hk : k = RR := hk; have := HRV.out; omega) HBW7.out.size)
              rw [← hwf] at hf
              obtain ⟨-, r0, r1, r2, r3, r4, r5, r6, r7, r8, -⟩ := hf.cells9
              unfold put9 at hwf
              rw [← hwf]
              refine end_ret (v := .tuple #[.agg #[.int .i64 x.kd, .int .i64 x.mrk, .string (tx x.p), .string (tx x.q), .int .i64 x.how, .int .i64 x.han, .int .i64 x.a, .int .i64 x.c, .slice x.D x.m x.d], .int .i64 0]) (by simp [results, Try.results14, go_sem, r0, r1, r2, r3, r4, r5, r6, r7, r8]; try rfl) ?_
              exact ⟨hbf, x, by rw [HK0.out]; rfl, ⟨(HIN7.out.1).only hon (fun a ha e => HCLW.out a ha (.inl (by have e : a.block = RR := e; have := HI.out; omega))), HIN7.out.2⟩, fun o ho => by rw [HK0.out]; exact HGG.out o ho⟩
            · have HK4 : Hid (askedT zs = (4, g0 0)) := Lib.hid (by rw [HAK.out]; exact if_pos (.inr (by rw [HV.out]; exact hv0)))
              have hvb : (v == 0) = false := by rw [beq_eq_false_iff_ne]; exact hv0
              go_wp2_with (go_at_call 30; (with_reducible refine HFT.out.mono ?_); rintro e w7 ⟨rfl, hb7⟩; have HB7 := Lib.hid hb7; have HXR7 := Lib.hid (HXRr.out.below hb7); have HBW7 := Lib.hid (bthen HBW.out hb7); obtain ⟨lR, c0, c1, c2, c3, c4, c5, c6, c7, c8, fr⟩ := HXR7.out.cells9; have z0 := HXR7.out.soft 0; have z1 := HXR7.out.soft 1; have z2 := HXR7.out.soft 2; have z3 := HXR7.out.soft 3; have z4 := HXR7.out.soft 4; have z5 := HXR7.out.soft 5; have z6 := HXR7.out.soft 6; have z7 := HXR7.out.soft 7; have z8 := HXR7.out.soft 8; clear fr; clear hb7)
              obtain ⟨wf, hwf⟩ : ∃ wf, wf = put9 w7 RR (.int .i64 0) (.int .i64 0) (.string { data := #[] }) (.string { data := #[] }) (.int .i64 0) (.int .i64 0) (.int .i64 0) (.int .i64 0) (.slice none 0 0) := ⟨_, rfl⟩
              have hf := HXR7.out.put9 (.int .i64 0) (.int .i64 0) (.string { data := #[] }) (.string { data := #[] }) (.int .i64 0) (.int .i64 0) (.int .i64 0) (.int .i64 0) (.slice none 0 0)
              have hon : Only (fun k => k = RR) w7 wf := by rw [hwf]; exact only_put9 w7 RR (.int .i64 0) (.int .i64 0) (.string { data := #[] }) (.string { data := #[] }) (.int .i64 0) (.int .i64 0) (.int .i64 0) (.int .i64 0) (.slice none 0 0)
              have hbf : Below w.heap.size w wf := HBW7.out.trans (hon.below (fun k hk => by have hk : k = RR := hk; have := HRV.out; omega) HBW7.out.size)
              rw [← hwf] at hf
              obtain ⟨-, r0, r1, r2, r3, r4, r5, r6, r7, r8, -⟩ := hf.cells9
              unfold put9 at hwf
              rw [← hwf]
              refine end_ret (v := .tuple #[.agg #[.int .i64 0, .int .i64 0, .string { data := #[] }, .string { data := #[] }, .int .i64 0, .int .i64 0, .int .i64 0, .int .i64 0, .slice none 0 0], .int .i64 4]) (by simp [results, Try.results14, go_sem, r0, r1, r2, r3, r4, r5, r6, r7, r8]; try rfl) ?_
              exact ret_zero9 hbf HK4.out
        · have HK5 : Hid (askedT zs = (5, g0 0)) := Lib.hid (HAK1.out (by rw [HRL2.out]))
          obtain ⟨lR, c0, c1, c2, c3, c4, c5, c6, c7, c8, fr⟩ := HXRr.out.cells9
          have z0 := HXRr.out.soft 0
          have z1 := HXRr.out.soft 1
          have z2 := HXRr.out.soft 2
          have z3 := HXRr.out.soft 3
          have z4 := HXRr.out.soft 4
          have z5 := HXRr.out.soft 5
          have z6 := HXRr.out.soft 6
          have z7 := HXRr.out.soft 7
          have z8 := HXRr.out.soft 8
          clear fr
          go_wp2_with fail
          obtain ⟨wf, hwf⟩ : ∃ wf, wf = put9 wr RR (.int .i64 0) (.int .i64 0) (.string { data := #[] }) (.string { data := #[] }) (.int .i64 0) (.int .i64 0) (.int .i64 0) (.int .i64 0) (.slice none 0 0) := ⟨_, rfl⟩
          have hf := HXRr.out.put9 (.int .i64 0) (.int .i64 0) (.string { data := #[] }) (.string { data := #[] }) (.int .i64 0) (.int .i64 0) (.int .i64 0) (.int .i64 0) (.slice none 0 0)
          have hon : Only (fun k => k = RR) wr wf := by rw [hwf]; exact only_put9 wr RR (.int .i64 0) (.int .i64 0) (.string { data := #[] }) (.string { data := #[] }) (.int .i64 0) (.int .i64 0) (.int .i64 0) (.int .i64 0) (.slice none 0 0)
          have hbf : Below w.heap.size w wf := HBW.out.trans (hon.below (fun k hk => by have hk : k = RR := hk; have := HRV.out; omega) HBW.out.size)
          rw [← hwf] at hf
          obtain ⟨-, r0, r1, r2, r3, r4, r5, r6, r7, r8, -⟩ := hf.cells9
          unfold put9 at hwf
          rw [← hwf]
          refine end_ret (v := .tuple #[.agg #[.int .i64 0, .int .i64 0, .string { data := #[] }, .string { data := #[] }, .int .i64 0, .int .i64 0, .int .i64 0, .int .i64 0, .slice none 0 0], .int .i64 5]) (by simp [results, Try.results14, go_sem, r0, r1, r2, r3, r4, r5, r6, r7, r8]; try rfl) ?_
          exact ret_zero9 hbf HK5.out

end Go.Proofs.Ytelfnlocgknpjaa
