/-
  Replies and their bytes. Mathematics alone.
-/
import Derived.Test.YtelfnlocgknpjaaMAnswered2
namespace Go.Proofs.Ytelfnlocgknpjaa
open Go.RowKit
set_option linter.unusedVariables false
set_option linter.unusedSimpArgs false

theorem layL_app : ∀ (ps qs : List Pt) (vs us : List PC), ps.length = vs.length → layL (ps ++ qs) (vs ++ us) = layL ps vs ++ layL qs us := by
  intro ps qs vs us h
  unfold layL
  rw [List.zipWith_append h, List.flatten_append]
theorem head_is (mrk code han kd sz : Int) (zs : List Int) (n : Int) : headL mrk code han kd sz zs ++ be 1 n = layL (rp7 0 0 0) [.n mrk, .n code, .n han, .n kd, .n sz, .d zs, .n n] := by
  unfold headL rp7 rpParts layL
  simp [layC]
theorem layL_nm : ∀ (ps : List Pt) (ns : List Byt), (∀ p ∈ ps, ∃ a, p = .txt a) → ps.length = ns.length → layL ps (ns.map PC.t) = nmL ns
  | [], [], _, _ => rfl
  | p :: ps, s :: ns, hp, hl => by
    obtain ⟨a, rfl⟩ := hp p (List.mem_cons_self ..)
    show layL (.txt a :: ps) (.t s :: ns.map PC.t) = _
    rw [layL_cons, layL_nm ps ns (fun p h => hp p (List.mem_cons_of_mem _ h)) (by simpa using hl)]
    unfold nmL
    simp [layC]
  | [], s :: ns, _, hl => by simp at hl
  | p :: ps, [], _, hl => by simp at hl
theorem fitsL_nm : ∀ (ps : List Pt) (ns : List Byt), (∀ p ∈ ps, ∃ a, p = .txt a) → ps.length = ns.length → (∀ s ∈ ns, s.length < 65536) → FitsL ps (ns.map PC.t)
  | [], [], _, _, _ => trivial
  | p :: ps, s :: ns, hp, hl, hs => by
    obtain ⟨a, rfl⟩ := hp p (List.mem_cons_self ..)
    exact ⟨hs s (List.mem_cons_self ..), fitsL_nm ps ns (fun p h => hp p (List.mem_cons_of_mem _ h)) (by simpa using hl) fun x h => hs x (List.mem_cons_of_mem _ h)⟩
  | [], s :: ns, _, hl, _ => by simp at hl
  | p :: ps, [], _, hl, _ => by simp at hl
theorem nms_map (ns : List Byt) : nmsOf (ns.map PC.t) = ns := by unfold nmsOf; rw [List.map_map]; exact List.map_id ns
structure FineR (r : Rp) : Prop where
  mrk : 0 ≤ r.mrk ∧ r.mrk < 4294967296
  code : 0 ≤ r.code ∧ r.code < 256
  han : 0 ≤ r.han ∧ r.han < 4294967296
  kd : 0 ≤ r.kd ∧ r.kd < 256
  sz : 0 ≤ r.sz ∧ r.sz < 4294967296
  zs : r.zs.length ≤ 100
  ns : r.ns.length ≤ 40
  all : r.ns.all nameB = true
def Rp.bytes (r : Rp) : List Int := ansL r.mrk r.code r.han r.kd r.sz r.zs r.ns
theorem fineR_of {r : Rp} (h : r.fault = 0) : FineR r := by
  obtain ⟨h1, h2, h3⟩ := fault_zeroR h
  obtain ⟨r0, r1, r2, r3, r4, r5⟩ := head_zero h1
  exact ⟨r0, r1, r2, r3, r4, r5, h2, h3⟩
theorem ck_ok {k : Nat} {v : Int} (h : 0 ≤ v ∧ v < 256 ^ k) : ckN k v = 0 := if_neg (by omega)
theorem fault_of {r : Rp} (h : FineR r) : r.fault = 0 := by
  have e : headR r.mrk r.code r.han r.kd r.sz r.zs.length = 0 := by
    unfold headR
    rw [ck_ok (k := 4) h.mrk, ck_ok (k := 1) h.code, ck_ok (k := 4) h.han, ck_ok (k := 1) h.kd, ck_ok (k := 4) h.sz, if_neg (by have := h.zs; omega)]
    rfl
  unfold Rp.fault faultR
  rw [e, if_neg (by simp), if_neg (by have := h.ns; omega), if_pos h.all]
theorem vs_fits {r : Rp} (h : FineR r) : FitsL (rp7 0 0 0) [.n r.mrk, .n r.code, .n r.han, .n r.kd, .n r.sz, .d r.zs, .n (r.ns.length : Int)] := by
  have := h.zs
  have := h.ns
  exact ⟨h.mrk, h.code, h.han, h.kd, h.sz, (by show r.zs.length < 65536; omega), ⟨by omega, by omega⟩, trivial⟩
theorem nm_short {r : Rp} (h : FineR r) : ∀ s ∈ r.ns, s.length < 65536 := fun s hs => by
  have := name_len (List.all_eq_true.1 h.all s hs)
  omega
theorem repT_ans {r : Rp} (h : FineR r) (m : List Int) : repT (r.bytes ++ m) = some ([.n r.mrk, .n r.code, .n r.han, .n r.kd, .n r.sz, .d r.zs, .n (r.ns.length : Int)], r.ns.map PC.t, m) := by
  have e : r.bytes ++ m = layL (rp7 0 0 0) [.n r.mrk, .n r.code, .n r.han, .n r.kd, .n r.sz, .d r.zs, .n (r.ns.length : Int)] ++ (layL (nmP 0 0 r.ns.length) (r.ns.map PC.t) ++ m) := by
    unfold Rp.bytes ansL
    rw [head_is, layL_nm _ _ (nmP_txt _ _ _) (nmP_len _ _ _), List.append_assoc]
  unfold repT
  rw [e, takeT_lay _ _ _ (vs_fits h)]
  simp only []
  have hc : cnt7 [.n r.mrk, .n r.code, .n r.han, .n r.kd, .n r.sz, .d r.zs, .n (r.ns.length : Int)] = r.ns.length := by unfold cnt7; simp
  rw [hc, takeT_lay _ _ _ (fitsL_nm _ _ (nmP_txt _ _ _) (nmP_len _ _ _) (nm_short h))]
/-- A REPLY COMES BACK FROM ITS BYTES -/
theorem answered_ans {r : Rp} (h : FineR r) : answeredT r.bytes = (0, r) := by
  have e := repT_ans h []
  rw [List.append_nil] at e
  rw [answered_some e]
  have er : rpOf [.n r.mrk, .n r.code, .n r.han, .n r.kd, .n r.sz, .d r.zs, .n (r.ns.length : Int)] (r.ns.map PC.t) = r := by
    show (⟨r.mrk, r.code, r.han, r.kd, r.sz, r.zs, nmsOf (r.ns.map PC.t)⟩ : Rp) = r
    rw [nms_map]
  rw [er, if_neg (by rintro (g | g); simp at g; exact g (fault_of h))]
/-- cut off, they are too short -/
theorem answered_cut {r : Rp} (h : FineR r) (j : Nat) (hj : j < r.bytes.length) : (answeredT (r.bytes.take j)).1 = 5 := by
  have e : r.bytes = layL (rp7 0 0 0) [.n r.mrk, .n r.code, .n r.han, .n r.kd, .n r.sz, .d r.zs, .n (r.ns.length : Int)] ++ layL (nmP 0 0 r.ns.length) (r.ns.map PC.t) := by
    unfold Rp.bytes ansL
    rw [head_is, layL_nm _ _ (nmP_txt _ _ _) (nmP_len _ _ _)]
  have hn : repT (r.bytes.take j) = none := by
    rw [e] at hj ⊢
    rw [List.length_append] at hj
    by_cases hc : j < (layL (rp7 0 0 0) [.n r.mrk, .n r.code, .n r.han, .n r.kd, .n r.sz, .d r.zs, .n (r.ns.length : Int)]).length
    · rw [List.take_append_of_le_length (by omega)]
      unfold repT
      rw [takeT_cut _ _ j (vs_fits h) hc]
    · rw [List.take_append, List.take_of_length_le (by omega)]
      unfold repT
      rw [takeT_lay _ _ _ (vs_fits h)]
      simp only []
      have hc7 : cnt7 [.n r.mrk, .n r.code, .n r.han, .n r.kd, .n r.sz, .d r.zs, .n (r.ns.length : Int)] = r.ns.length := by unfold cnt7; simp
      rw [hc7, takeT_cut _ _ _ (fitsL_nm _ _ (nmP_txt _ _ _) (nmP_len _ _ _) (nm_short h)) (by omega)]
  unfold answeredT
  rw [hn]
theorem bytes_len {r : Rp} (h : FineR r) : 17 ≤ r.bytes.length ∧ r.bytes.length ≤ 837 := by
  have h1 := nmL_len h.all
  have h2 := h.zs
  have h3 := h.ns
  unfold Rp.bytes ansL
  rw [List.length_append, List.length_append, headL_len, be_len]
  omega
theorem bytes_oct {r : Rp} (h : Oct r.zs) : Oct r.bytes := by
  have henc : ∀ l, Oct l → Oct (enc l) := fun l hl z hz => by
    unfold enc at hz
    rcases List.mem_append.1 hz with g | g
    · exact be_oct _ _ z g
    · exact hl z g
  have htx : ∀ s : Byt, Oct (ofT s) := fun s z hz => by
    unfold ofT at hz
    obtain ⟨x, -, rfl⟩ := List.mem_map.1 hz
    have := x.toNat_lt
    omega
  intro z hz
  unfold Rp.bytes ansL headL nmL at hz
  simp only [List.mem_append, List.mem_flatten, List.mem_map] at hz
  rcases hz with ((g | g | g | g | g | g) | g) | ⟨l, ⟨s, -, rfl⟩, g⟩
  · exact be_oct _ _ z g
  · exact be_oct _ _ z g
  · exact be_oct _ _ z g
  · exact be_oct _ _ z g
  · exact be_oct _ _ z g
  · exact henc _ h z g
  · exact be_oct _ _ z g
  · exact henc _ (htx s) z g

end Go.Proofs.Ytelfnlocgknpjaa
