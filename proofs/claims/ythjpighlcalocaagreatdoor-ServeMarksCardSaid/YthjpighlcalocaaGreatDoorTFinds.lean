/-
  The program's tree: where a link leads.
  The program's tree: find.
  The program's tree: dir, open, own, free.
  The program's tree: free.
-/
import Derived.Test.YthjpighlcalocaaGreatDoorTWalk
import Derived.Test.YthjpighlcalocaaGreatDoorFollow
namespace Go.Proofs.YthjpighlcalocaaGreatDoor
open Go.RowKit Go.Maps
set_option linter.unusedVariables false
set_option linter.unusedSimpArgs false

theorem RetN.isH {W w' : World} {r : Except Int (List Byt)} {e : Ending} (h : RetN W r e w') : Hid (Below W.heap.size W w') ∧
    ((∃ c, Hid (r = .error c) ∧ e = .returned (.tuple #[.slice none 0 0, .int .i64 c])) ∨ (∃ l A c n, Hid (r = .ok l) ∧ Hid (n = l.length) ∧ e = .returned (.tuple #[.slice A n c, .int .i64 0]) ∧ Hid (OwnL stS 9 w' W.heap.size A n c l))) := by
  obtain ⟨h1, ⟨c, h2, h3⟩ | ⟨l, A, c, n, h2, h3, h4, h5⟩⟩ := h.is
  · exact ⟨Lib.hid h1, .inl ⟨c, Lib.hid h2, h3⟩⟩
  · exact ⟨Lib.hid h1, .inr ⟨l, A, c, n, Lib.hid h2, Lib.hid h3, h4, Lib.hid h5⟩⟩

theorem lead_any (A : Option Addr) (n c : Nat) (dn : List Byt) (B : Option Addr) (m d : Nat) (rest : List Byt) (w : World) (pl : Nat) (tq : Byt) (hbx : Bx 114 w pl #[.string (tx tq)])
    (hb : Ls stS w A dn) (hn : dn.length = n) (hb2 : Ls stS w B rest) (hm : rest.length = m) (hm1 : m ≤ 1000) (hk : Clean_ dn) :
    Calls Tryz.prog 85 #[.pointer (some ⟨pl, 0, none⟩), .slice A n c, .slice B m d] w (RetN w (leadT dn tq rest)) := by
  have HF := Lib.hid (follow_any A n c dn tq w hb hn)
  have HM := Lib.hid hm
  have HB2 := Lib.hid hb2
  obtain ⟨l0, l1⟩ := hbx.one
  have HT : Hid (∀ o, pfollow dn tq = .ok o → o.length ≤ 12) := Lib.hid (fun o ho => (pfollow_clean hk ho).1)
  have HE : Hid (∀ c, pfollow dn tq = .error c → c = 1 ∨ c = 4 ∨ c = 9) := Lib.hid (fun c hc => pfollow_code hc)
  obtain ⟨g, hg⟩ : ∃ g, g = leadT dn tq rest := ⟨_, rfl⟩
  rw [← hg]
  unfold leadT at hg
  obtain ⟨r, hr⟩ : ∃ r, pfollow dn tq = r := ⟨_, rfl⟩
  rw [hr] at HF HT HE hg
  have HG := Lib.hid hg
  clear hr hg hbx hb hb2 hm hn hk
  go_enter Tryz.func85, Tryz.ntmps85
  go_upto_region 2 with (go_at_call 99; refine HF.out.mono ?_; intro e w1 h1; obtain ⟨HB1, ⟨c1, HRR, rfl⟩ | ⟨l1', A1, c1, n1, HRR, HN1, rfl, HO1⟩⟩ := h1.isH)
  · have h1' := HE.out c1 HRR.out
    rw [HRR.out] at HG
    have hn0 : (c1 != 0) = true := by simp; omega
    clear h1 h1'
    go_wp2_with fail
    go_ret2
    exact RetN.err HG.out HB1.out
  · have h12 := HT.out l1' HRR.out
    rw [HRR.out] at HG
    have hm' : n1 ≤ 12 := by rw [HN1.out]; exact h12
    have hws : IntKind.i64.wrap ((n1 : Int) + (m : Int)) = ((n1 + m : Nat) : Int) := by rw [IntKind.wrap_i64]; omega
    have HMl := HM
    clear h12 h1
    by_cases h9 : 12 < n1 + m
    · have hgt : (12 : Int) < ((n1 + m : Nat) : Int) := by omega
      have HGE : Hid (g = .error 9) := Lib.hid (by rw [HG.out]; exact if_pos (by rw [← HN1.out, HMl.out]; exact h9))
      go_wp2_with fail
      go_ret2
      exact RetN.err HGE.out HB1.out
    · have hgt : ¬ (12 : Int) < ((n1 + m : Nat) : Int) := by omega
      have HGE : Hid (g = .ok (l1' ++ rest)) := Lib.hid (by rw [HG.out]; exact if_neg (by rw [← HN1.out, HMl.out]; exact h9))
      go_wp2_with (at_builtin; refine wpList_appL (F := stS) rfl _ (.tmp 30) (.tmp 31) 29 rfl _ 16 Tryz.underlying29 stInfo rfl w.heap.size A1 n1 c1 l1' rfl HO1.out B m d rest rfl (HB2.out.below HB1.out) HM.out (n1 + m) rfl (by omega) (by omega) (by exact HB1.out.size) ?_; intro A5 c5 w5 ho5 hb5 _; have O5 := Lib.hid ho5; have HB5 := Lib.hid (HB1.out.trans hb5); clear ho5 hb5)
      go_ret2
      exact RetN.ok HGE.out HB5.out (by rw [List.length_append, ← HN1.out, HMl.out]) O5.out

end Go.Proofs.YthjpighlcalocaaGreatDoor

namespace Go.Proofs.YthjpighlcalocaaGreatDoor
open Go.RowKit Go.Maps
set_option linter.unusedVariables false
set_option linter.unusedSimpArgs false

def RetP (w : World) (T : Wd) (p : Nat → Nat) (r : Except Int Nat) (e : Ending) (w' : World) : Prop :=
  Below w.heap.size w w' ∧
  match r with
  | .error x => e = .returned (.tuple #[.agg noPlace, .int .i64 x])
  | .ok c => e = .returned (.tuple #[.agg (placeC T p c), .int .i64 0])

theorem findT_eq (T : Wd) (follow : Bool) (k : Nat) (names : List Byt) : findT T follow k names =
    match walkT T [] 0 names with
    | .err e => .error e
    | .stop c => .ok c
    | .link done c rest =>
      if rest = [] ∧ follow = false then .ok c else
      match k with
      | 0 => .error 13
      | k + 1 =>
        match leadT done (nd T c).to rest with
        | .error e => .error e
        | .ok names' => findT T follow k names' := by
  cases k <;> rw [findT] <;> rfl

/-- both ways in one -/
theorem RetN.uni {W w' : World} {r : Except Int (List Byt)} {e : Ending} (h : RetN W r e w') : Hid (Below W.heap.size W w') ∧
    ∃ (A : Option Addr) (n c : Nat) (x : Int), e = .returned (.tuple #[.slice A n c, .int .i64 x]) ∧ Hid (r = .error x ∨ (x = 0 ∧ ∃ l, r = .ok l ∧ n = l.length ∧ OwnL stS 9 w' W.heap.size A n c l)) := by
  obtain ⟨h1, ⟨c, h2, h3⟩ | ⟨l, A, c, n, h2, h3, h4, h5⟩⟩ := h.is
  · exact ⟨Lib.hid h1, none, 0, 0, c, h3, Lib.hid (.inl h2)⟩
  · exact ⟨Lib.hid h1, A, n, c, 0, h4, Lib.hid (.inr ⟨rfl, l, h2, h3, h5⟩)⟩
def goOn (T : Wd) (fo : Bool) (k : Nat) : Except Int (List Byt) → Except Int Nat
  | .error e => .error e
  | .ok names => findT T fo k names
/-- how far it has come -/
def FdX (w : World) (T : Wd) (p : Nat → Nat) (fo : Bool) (r : Except Int Nat) (q6 : Nat) (nv i : Value) (wr : World) : Prop :=
  ∃ (k n c : Nat) (A : Option Addr) (l : List Byt), k ≤ 8 ∧ i = .int .i64 k ∧ nv = .slice A n c ∧ Ls stS wr A l ∧ l.length = n ∧ n ≤ 12 ∧ n ≤ c ∧ (∀ x ∈ l, nameB x = true) ∧ r = findT T fo (8 - k) l ∧ Bx 121 wr q6 noPlace ∧ Below w.heap.size w wr

theorem RetW.is {w w' : World} {T : Wd} {p : Nat → Nat} {l : List Byt} {r : Wk} {e : Ending} (h : RetW w T p l r e w') (hk : WkOk T l [] r) (hw : WF T) : Hid (Below w.heap.size w w') ∧
    ((∃ x : Int, (x == 0) = false ∧ e = .returned (.tuple #[.agg #[.pointer none, .string ⟨#[]⟩, .nilIface], .int .i64 0, .int .i64 x]) ∧ Hid (r = .err x)) ∨
     (∃ (c : Nat) (a : Option Addr) (s : ByteArray) (t : Nat), (∀ w : World, (Instr.typeAssert (.iface t (.pointer (some ⟨p c, 0, none⟩))) 109 112 true).run Tryz.prog w = .ok (.tuple #[.pointer none, .bool false]) w) ∧ e = .returned (.tuple #[.agg #[.pointer a, .string s, .iface t (.pointer (some ⟨p c, 0, none⟩))], .int .i64 (l.length : Nat), .int .i64 0]) ∧ Hid (r = .stop c ∧ placeC T p c = #[.pointer a, .string s, .iface t (.pointer (some ⟨p c, 0, none⟩))])) ∨
     (∃ (c k : Nat) (rest : List Byt) (a : Option Addr) (s : ByteArray), k < l.length ∧ e = .returned (.tuple #[.agg #[.pointer a, .string s, .iface 112 (.pointer (some ⟨p c, 0, none⟩))], .int .i64 ((k + 1 : Nat) : Int), .int .i64 0]) ∧
        Hid (Live T c ∧ (nd T c).kind = 3 ∧ rest = l.drop (k + 1) ∧ r = .link (l.take k) c rest ∧ placeC T p c = #[.pointer a, .string s, .iface 112 (.pointer (some ⟨p c, 0, none⟩))]))) := by
  obtain ⟨hb, h⟩ := h
  refine ⟨Lib.hid hb, ?_⟩
  rcases r with x | c | ⟨dn, c, rest⟩
  · exact .inl ⟨x, by rcases hk with rfl | rfl <;> rfl, h, Lib.hid rfl⟩
  · obtain ⟨h1, h2, -⟩ := hk
    have hk2 : ¬ (nd T c).kind = 1 → (nd T c).kind = 2 := fun g => by rcases hw.kin c h1 with j | j | j <;> omega
    have hV : ∃ t, nodeV T p c = .iface t (.pointer (some ⟨p c, 0, none⟩)) ∧ t ≠ 112 := by
      by_cases j : (nd T c).kind = 1
      · exact ⟨_, nodeV_1 j, by decide⟩
      · exact ⟨_, nodeV_2 (hk2 j), by decide⟩
    obtain ⟨t, hV, ht⟩ := hV
    refine .inr (.inl ⟨c, (if c = 0 then none else some ⟨p (nd T c).inn, 0, none⟩), tx (nd T c).name, t, fun w => ta_miss t _ _ w (.inr (.inr rfl)) ht, ?_, Lib.hid ⟨rfl, ?_⟩⟩)
    rotate_left
    · unfold placeC; rw [hV]
    · rw [h]; unfold placeC; rw [hV]
  · obtain ⟨h1, h2, h3, k, h4, h5, h6⟩ := hk
    refine .inr (.inr ⟨c, k, rest, (if c = 0 then none else some ⟨p (nd T c).inn, 0, none⟩), tx (nd T c).name, h4, ?_, Lib.hid ⟨h1, h3, h6, by rw [h5]; rfl, ?_⟩⟩)
    rotate_left
    · unfold placeC; rw [nodeV_3 h3]
    · rw [h]; unfold placeC; rw [nodeV_3 h3, h5]
      simp only [List.nil_append, List.length_take]
      rw [Nat.min_eq_left (by omega)]; rfl

set_option maxRecDepth 100000 in
set_option maxHeartbeats 4000000 in
theorem find_any (A : Option Addr) (n cp : Nat) (l : List Byt) (fo : Bool) (w : World) (tb : Nat) (T : Wd) (f : Rl) (p : Nat → Nat) (K : Nat) (h : TreeIs w tb T f p K) (hb : Ls stS w A l) (hn : l.length = n) (hm : n ≤ 12) (hcp : n ≤ cp) (hnm : ∀ x ∈ l, nameB x = true) :
    Calls Tryz.prog 68 #[.pointer (some ⟨tb, 0, none⟩), .slice A n cp, .bool fo] w (RetP w T p (findT T fo 8 l)) := by
  have H := Lib.hid h
  have HB := Lib.hid hb
  have HN := Lib.hid hn
  have HM := Lib.hid hnm
  obtain ⟨r, hr⟩ : ∃ r, findT T fo 8 l = r := ⟨_, rfl⟩
  rw [hr]
  have HR := Lib.hid hr
  clear h hb hn hnm hr
  go_enter Tryz.func68, Tryz.ntmps68
  go_wp2_with fail
  obtain ⟨q6, hq6⟩ : ∃ q, q = w.heap.size := ⟨_, rfl⟩
  obtain ⟨w1, hw1⟩ : ∃ w1, w1 = (w.alloc (Obj.cells noPlace 121)) := ⟨_, rfl⟩
  have HB1 : Hid (Below w.heap.size w w1) := Lib.hid (by rw [hw1]; exact ba1 _ _)
  have HX6 : Hid (Bx 121 w1 q6 noPlace) := Lib.hid (by rw [hw1, hq6]; exact bx_new _ _ _)
  unfold noPlace at hw1
  rw [← hw1, ← hq6]
  have hqw : w.heap.size ≤ q6 := by omega
  clear hw1 hq6
  go_loopw [1, 8] (fun nv i wr => FdX w T p fo r q6 nv i wr) (fun _ i _ => 8 - (intOf i).toNat)
  case atStart =>
    exact ⟨0, n, cp, A, l, by omega, rfl, rfl, HB.out.below HB1.out, HN.out, hm, hcp, HM.out, HR.out.symm, HX6.out, HB1.out⟩
  case round =>
    obtain ⟨k, n', c', A', l', hk, rfl, rfl, hbl, hnl, hn12, hcl, hnm, hr, hx6, hbw⟩ := hrel
    have HBL := Lib.hid hbl
    have HNL := Lib.hid hnl
    have HNM := Lib.hid hnm
    have HRr := Lib.hid hr
    have HX6r := Lib.hid hx6
    have HBW := Lib.hid hbw
    have Hr := Lib.hid (H.out.new hbw)
    have HWK := Lib.hid (walkT_is H.out.wf l' [] 0 H.out.wf.root.1 (by rw [H.out.wf.root.2.1]; decide))
    have HW := Lib.hid (twalk_any A' n' c' l' wr tb T f p K Hr.out hbl hnl (by omega) hnm)
    have HFE := Lib.hid (hr.trans (findT_eq T fo (8 - k) l'))
    obtain ⟨wk, hwk⟩ : ∃ x, x = walkT T [] 0 l' := ⟨_, rfl⟩
    rw [← hwk] at HWK HW HFE
    have tn := fun w => ta_nil 112 w (.inr (.inr rfl))
    have th := fun x w => ta_hit 112 x w (.inr (.inr rfl))
    clear hbl hnl hnm hr hx6 hbw hwk
    go_upto_region 5 with (go_at_call 84; refine HW.out.mono ?_; intro e w2 h2; obtain ⟨HB2, ⟨x, hx, rfl, HE⟩ | ⟨c2, a2, s2, t2, hne, rfl, HE⟩ | ⟨c2, k2, rest2, a2, s2, hk2, rfl, HE⟩⟩ := h2.is HWK.out H.out.wf; clear h2)
    · obtain ⟨q9, hq9⟩ : ∃ q, q = w2.heap.size := ⟨_, rfl⟩
      obtain ⟨w3, hw3⟩ : ∃ w3, w3 = w2.alloc (Obj.cells #[.pointer none, .string ⟨#[]⟩, .nilIface] 121) := ⟨_, rfl⟩
      have HB3 : Hid (Below wr.heap.size wr w3) := Lib.hid (by rw [hw3]; exact bthen HB2.out (ba1 _ _))
      have HX9 : Hid (Bx 121 w3 q9 #[.pointer none, .string ⟨#[]⟩, .nilIface]) := Lib.hid (by rw [hw3, hq9]; exact bx_new _ _ _)
      have hx6 := HX6r.out.below HB3.out
      have HX6' := Lib.hid hx6
      have h69 : ¬ q6 = q9 ∧ ¬ q9 = q6 := by have := HX6r.out.lt; have := HB2.out.size; omega
      obtain ⟨h69, h96⟩ := h69
      have HBW3 := Lib.hid (bthen HBW.out HB3.out)
      rw [← hw3, ← hq9]
      obtain ⟨d0, e0, e1, e2, g0, g1, g2⟩ := hx6.all3
      obtain ⟨b0, c0, c1, c2', f0, f1, f2⟩ := HX9.out.all3
      clear hw3 hq9 hx6
      go_wp2_with fail
      refine end_ret (v := .tuple #[.agg #[.pointer none, .string ⟨#[]⟩, .nilIface], .int .i64 x]) (by simp [results, Tryz.results68, go_sem, h69, h96, d0, e0, e1, e2, g0, g1, g2, b0, c0, c1, c2', f0, f1, f2]) ⟨?_, ?_⟩
      · exact below_store3 HBW3.out hqw _ _ _
      · rw [HFE.out, HE.out]; rfl
    · obtain ⟨q9, hq9⟩ : ∃ q, q = w2.heap.size := ⟨_, rfl⟩
      obtain ⟨w3, hw3⟩ : ∃ w3, w3 = w2.alloc (Obj.cells #[.pointer a2, .string s2, .iface t2 (.pointer (some ⟨p c2, 0, none⟩))] 121) := ⟨_, rfl⟩
      have HB3 : Hid (Below wr.heap.size wr w3) := Lib.hid (by rw [hw3]; exact bthen HB2.out (ba1 _ _))
      have HX9 : Hid (Bx 121 w3 q9 #[.pointer a2, .string s2, .iface t2 (.pointer (some ⟨p c2, 0, none⟩))]) := Lib.hid (by rw [hw3, hq9]; exact bx_new _ _ _)
      have hx6 := HX6r.out.below HB3.out
      have HX6' := Lib.hid hx6
      have h69 : ¬ q6 = q9 ∧ ¬ q9 = q6 := by have := HX6r.out.lt; have := HB2.out.size; omega
      obtain ⟨h69, h96⟩ := h69
      have HBW3 := Lib.hid (bthen HBW.out HB3.out)
      rw [← hw3, ← hq9]
      obtain ⟨d0, e0, e1, e2, g0, g1, g2⟩ := hx6.all3
      obtain ⟨b0, c0, c1, c2', f0, f1, f2⟩ := HX9.out.all3
      clear hw3 hq9 hx6
      have ta := hne
      go_wp2_with fail
      refine end_ret (v := .tuple #[.agg #[.pointer a2, .string s2, .iface t2 (.pointer (some ⟨p c2, 0, none⟩))], .int .i64 0]) (by simp [results, Tryz.results68, go_sem, h69, h96, d0, e0, e1, e2, g0, g1, g2, b0, c0, c1, c2', f0, f1, f2]) ⟨?_, ?_⟩
      · exact below_store3 HBW3.out hqw _ _ _
      · rw [HFE.out, HE.out.1]
        show _ = _
        rw [HE.out.2]
    · obtain ⟨q9, hq9⟩ : ∃ q, q = w2.heap.size := ⟨_, rfl⟩
      obtain ⟨w3, hw3⟩ : ∃ w3, w3 = w2.alloc (Obj.cells #[.pointer a2, .string s2, .iface 112 (.pointer (some ⟨p c2, 0, none⟩))] 121) := ⟨_, rfl⟩
      have HB3 : Hid (Below wr.heap.size wr w3) := Lib.hid (by rw [hw3]; exact bthen HB2.out (ba1 _ _))
      have HX9 : Hid (Bx 121 w3 q9 #[.pointer a2, .string s2, .iface 112 (.pointer (some ⟨p c2, 0, none⟩))]) := Lib.hid (by rw [hw3, hq9]; exact bx_new _ _ _)
      have hx6 := HX6r.out.below HB3.out
      have HX6' := Lib.hid hx6
      have h69 : ¬ q6 = q9 ∧ ¬ q9 = q6 := by have := HX6r.out.lt; have := HB2.out.size; omega
      obtain ⟨h69, h96⟩ := h69
      have HBW3 := Lib.hid (bthen HBW.out HB3.out)
      rw [← hw3, ← hq9]
      obtain ⟨d0, e0, e1, e2, g0, g1, g2⟩ := hx6.all3
      obtain ⟨b0, c0, c1, c2', f0, f1, f2⟩ := HX9.out.all3
      clear hw3 hq9 hx6
      obtain ⟨rlen, hrl⟩ : ∃ m, m = rest2.length := ⟨_, rfl⟩
      have HRL := Lib.hid hrl
      have hrn : rlen = n' - (k2 + 1) := by rw [hrl, HE.out.2.2.1, List.length_drop, HNL.out]
      have hk2n : k2 < n' := by rw [← HNL.out]; exact hk2
      have HF1 : Hid (r = if rest2 = [] ∧ fo = false then .ok c2 else
          match 8 - k with
          | 0 => .error 13
          | k + 1 =>
            match leadT (l'.take k2) (nd T c2).to rest2 with
            | .error e => .error e
            | .ok names' => findT T fo k names') := Lib.hid (by rw [HFE.out, HE.out.2.2.2.1])
      have hre : rest2 = [] ↔ k2 + 1 = n' := by
        rw [← List.length_eq_zero_iff, ← hrl]; omega
      have HREST := Lib.hid hre
      clear hrl hre HFE hk2
      by_cases hend : k2 + 1 = n' ∧ fo = false
      · obtain ⟨he1, rfl⟩ := hend
        have he2 : ((k2 : Int) + 1 == (n' : Int)) = true := by simp; omega
        have HF2 : Hid (r = .ok c2) := Lib.hid (by rw [HF1.out]; exact if_pos ⟨HREST.out.2 he1, rfl⟩)
        have HE1 := Lib.hid he1
        clear he1 hrn
        go_wp2_with fail
        refine end_ret (v := .tuple #[.agg #[.pointer a2, .string s2, .iface 112 (.pointer (some ⟨p c2, 0, none⟩))], .int .i64 0]) (by simp [results, Tryz.results68, go_sem, h69, h96, d0, e0, e1, e2, g0, g1, g2, b0, c0, c1, c2', f0, f1, f2]) ⟨?_, ?_⟩
        · exact below_store3 HBW3.out hqw _ _ _
        · rw [HF2.out]
          show _ = _
          rw [HE.out.2.2.2.2]
      · have HF2 : Hid (r = match 8 - k with
          | 0 => .error 13
          | k + 1 =>
            match leadT (l'.take k2) (nd T c2).to rest2 with
            | .error e => .error e
            | .ok names' => findT T fo k names') := Lib.hid (by rw [HF1.out]; exact if_neg (fun g => hend ⟨HREST.out.1 g.1, g.2⟩))
        have hway : (((k2 : Int) + 1 == (n' : Int)) = false) ∨ (((k2 : Int) + 1 == (n' : Int)) = true ∧ fo = true) := by
          by_cases g : k2 + 1 = n'
          · right; exact ⟨by simp; omega, by cases fo; exact absurd ⟨g, rfl⟩ hend; rfl⟩
          · left; simp; omega
        clear hend
        by_cases hk8 : k = 8
        · subst hk8
          have HF3 : Hid (r = .error 13) := Lib.hid HF2.out
          rcases hway with g1' | ⟨g1', rfl⟩
          all_goals
            go_wp2_with fail
            refine end_ret (v := .tuple #[.agg #[.pointer none, .string ⟨#[]⟩, .nilIface], .int .i64 13]) (by simp [results, Tryz.results68, go_sem, h69, h96, d0, e0, e1, e2, g0, g1, g2, b0, c0, c1, c2', f0, f1, f2]) ⟨?_, ?_⟩
            · exact below_store3 HBW3.out hqw _ _ _
            · rw [HF3.out]; rfl
        · obtain ⟨j, hj⟩ : ∃ j, 8 - k = j + 1 := ⟨7 - k, by omega⟩
          obtain ⟨g, hg⟩ : ∃ g, g = leadT (l'.take k2) (nd T c2).to rest2 := ⟨_, rfl⟩
          have HF3 : Hid (r = goOn T fo (7 - k) g) := Lib.hid (by rw [HF2.out, hj, hg, show 7 - k = j by omega]; rfl)
          obtain ⟨bA, oA, rfl, -, -⟩ := HBL.out.text k2 (by rw [HNL.out]; exact hk2n)
          have hlink := Hr.out.link HE.out.1 HE.out.2.1
          have hcl' : Clean_ (l'.take k2) := ⟨by rw [List.length_take, HNL.out]; omega, fun x hx => HNM.out x (List.mem_of_mem_take hx)⟩
          have HGC : Hid (∀ c, g = .error c → c = 1 ∨ c = 4 ∨ c = 9) := Lib.hid (fun c hc => leadT_code (hg ▸ hc))
          have HGO : Hid (∀ o, g = .ok o → Clean_ o) := Lib.hid (fun o ho => leadT_ok hcl' (hg ▸ ho) (fun x hx => HNM.out x (by rw [HE.out.2.2.1] at hx; exact List.mem_of_mem_drop hx)))
          have HL : Hid (∀ wx oB, Below wr.heap.size wr wx → (oB = oA + (k2 + 1) ∨ rest2 = []) → Calls Tryz.prog 85 #[.pointer (some ⟨p c2, 0, none⟩), .slice (some ⟨bA, oA, none⟩) k2 c', .slice (some ⟨bA, oB, none⟩) (n' - (k2 + 1)) (c' - (k2 + 1))] wx (RetN wx g)) := Lib.hid (fun wx oB hb hoB => by
            rw [hg]
            exact lead_any _ _ _ _ _ _ _ _ wx _ _ (hlink.below hb) ((HBL.out.below hb).take k2) (by rw [List.length_take, HNL.out]; omega) (by rcases hoB with rfl | hoB; (rw [HE.out.2.2.1]; exact (HBL.out.below hb).drop1 rfl (k2 + 1)); (rw [hoB]; exact Ls.nil _ _)) (by rw [HE.out.2.2.1, List.length_drop, HNL.out]) (by omega) hcl')
          have hw52 : IntKind.i64.wrap (k2 : Int) = (k2 : Int) := by rw [IntKind.wrap_i64]; omega
          have hw53 : (0 : Int) ≤ (k2 : Int) ∧ (k2 : Int) ≤ (c' : Int) := by omega
          have hw54 : (0 : Int) ≤ (k2 : Int) + 1 ∧ (k2 : Int) + 1 ≤ (n' : Int) := by omega
          have hw15 : IntKind.i64.wrap ((k : Int) + 1) = ((k + 1 : Nat) : Int) := by rw [IntKind.wrap_i64]; omega
          have hk8' : ((k : Int) == 8) = false := by simp; omega
          have hlead := hlink.one
          have HC : Hid (c' = k2 + 1 → rest2 = []) := Lib.hid (fun g => HREST.out.2 (by omega))
          clear hg hj hlink hcl' HF2 HF1 hrn
          have HDR := Lib.hid HB3.out.drew
          by_cases hcc : c' = k2 + 1
          · have HL1 := Lib.hid (HL.out w3.drew oA HDR.out (.inr (HC.out hcc)))
            obtain rfl : n' = k2 + 1 := by omega
            subst hcc
            rw [Nat.sub_self] at HL1
            have hcc1 : (k2 : Int) ≤ (k2 : Int) + 1 := by omega
            rcases hway with g1' | ⟨g1', rfl⟩
            · simp at g1'
            · go_upto_region 9 with fail
              go_region_law (go_simp; go_at_call 85; (with_reducible refine HL1.out.mono ?_); intro e w4 h4; obtain ⟨HB4, A4, n4, c4, x4, rfl, H4⟩ := h4.uni; clear h4)
              have HB4' : Hid (Below wr.heap.size wr w4) := Lib.hid (bthen HDR.out HB4.out)
              have hx6 := HX6r.out.below HB4'.out
              have HX6'' := Lib.hid hx6
              obtain ⟨d0, e0, e1, e2, g0, g1, g2⟩ := hx6.all3
              clear hx6
              rcases H4.out with h4 | ⟨h40, l4, h41, h42, h43⟩
              · have hx4 := HGC.out x4 h4
                have HG4 := Lib.hid h4
                have hn4 : (x4 != 0) = true := by simp; omega
                clear h4 hx4
                go_wp2_with fail
                refine end_ret (v := .tuple #[.agg #[.pointer none, .string ⟨#[]⟩, .nilIface], .int .i64 x4]) (by simp [results, Tryz.results68, go_sem, h69, h96, d0, e0, e1, e2, g0, g1, g2, b0, c0, c1, c2', f0, f1, f2]) ⟨?_, ?_⟩
                · exact below_store3 (bthen HBW.out HB4'.out) hqw _ _ _
                · rw [HF3.out, HG4.out]; rfl
              · subst h40
                have hc4 := (HGO.out l4 h41).1
                have HG4 := Lib.hid h41
                have HN4 := Lib.hid h42
                have HO4 := Lib.hid h43
                have hcap := h43.cap
                have HNM4 := Lib.hid (HGO.out l4 h41).2
                clear h41 h42 h43
                have hn4 : n4 ≤ 12 := by rw [HN4.out]; exact hc4
                clear hc4
                go_wp2_with fail
                refine ⟨⟨k + 1, n4, c4, A4, l4, by omega, by go_num, rfl, HO4.out.ls, HN4.out.symm, hn4, hcap, HNM4.out, ?_, HX6''.out, bthen HBW.out HB4'.out⟩, by simp [intOf]; omega⟩
                rw [HF3.out, HG4.out, show 8 - (k + 1) = 7 - k by omega]; rfl
          · have HL1 := Lib.hid (HL.out w3.drew (oA + (k2 + 1)) HDR.out (.inl rfl))
            rcases hway with g1' | ⟨g1', rfl⟩
            · go_upto_region 9 with fail
              go_region_law (go_simp; go_at_call 85; (with_reducible refine HL1.out.mono ?_); intro e w4 h4; obtain ⟨HB4, A4, n4, c4, x4, rfl, H4⟩ := h4.uni; clear h4)
              have HB4' : Hid (Below wr.heap.size wr w4) := Lib.hid (bthen HDR.out HB4.out)
              have hx6 := HX6r.out.below HB4'.out
              have HX6'' := Lib.hid hx6
              obtain ⟨d0, e0, e1, e2, g0, g1, g2⟩ := hx6.all3
              clear hx6
              rcases H4.out with h4 | ⟨h40, l4, h41, h42, h43⟩
              · have hx4 := HGC.out x4 h4
                have HG4 := Lib.hid h4
                have hn4 : (x4 != 0) = true := by simp; omega
                clear h4 hx4
                go_wp2_with fail
                refine end_ret (v := .tuple #[.agg #[.pointer none, .string ⟨#[]⟩, .nilIface], .int .i64 x4]) (by simp [results, Tryz.results68, go_sem, h69, h96, d0, e0, e1, e2, g0, g1, g2, b0, c0, c1, c2', f0, f1, f2]) ⟨?_, ?_⟩
                · exact below_store3 (bthen HBW.out HB4'.out) hqw _ _ _
                · rw [HF3.out, HG4.out]; rfl
              · subst h40
                have hc4 := (HGO.out l4 h41).1
                have HG4 := Lib.hid h41
                have HN4 := Lib.hid h42
                have HO4 := Lib.hid h43
                have hcap := h43.cap
                have HNM4 := Lib.hid (HGO.out l4 h41).2
                clear h41 h42 h43
                have hn4 : n4 ≤ 12 := by rw [HN4.out]; exact hc4
                clear hc4
                go_wp2_with fail
                refine ⟨⟨k + 1, n4, c4, A4, l4, by omega, by go_num, rfl, HO4.out.ls, HN4.out.symm, hn4, hcap, HNM4.out, ?_, HX6''.out, bthen HBW.out HB4'.out⟩, by simp [intOf]; omega⟩
                rw [HF3.out, HG4.out, show 8 - (k + 1) = 7 - k by omega]; rfl
            · go_upto_region 9 with fail
              go_region_law (go_simp; go_at_call 85; (with_reducible refine HL1.out.mono ?_); intro e w4 h4; obtain ⟨HB4, A4, n4, c4, x4, rfl, H4⟩ := h4.uni; clear h4)
              have HB4' : Hid (Below wr.heap.size wr w4) := Lib.hid (bthen HDR.out HB4.out)
              have hx6 := HX6r.out.below HB4'.out
              have HX6'' := Lib.hid hx6
              obtain ⟨d0, e0, e1, e2, g0, g1, g2⟩ := hx6.all3
              clear hx6
              rcases H4.out with h4 | ⟨h40, l4, h41, h42, h43⟩
              · have hx4 := HGC.out x4 h4
                have HG4 := Lib.hid h4
                have hn4 : (x4 != 0) = true := by simp; omega
                clear h4 hx4
                go_wp2_with fail
                refine end_ret (v := .tuple #[.agg #[.pointer none, .string ⟨#[]⟩, .nilIface], .int .i64 x4]) (by simp [results, Tryz.results68, go_sem, h69, h96, d0, e0, e1, e2, g0, g1, g2, b0, c0, c1, c2', f0, f1, f2]) ⟨?_, ?_⟩
                · exact below_store3 (bthen HBW.out HB4'.out) hqw _ _ _
                · rw [HF3.out, HG4.out]; rfl
              · subst h40
                have hc4 := (HGO.out l4 h41).1
                have HG4 := Lib.hid h41
                have HN4 := Lib.hid h42
                have HO4 := Lib.hid h43
                have hcap := h43.cap
                have HNM4 := Lib.hid (HGO.out l4 h41).2
                clear h41 h42 h43
                have hn4 : n4 ≤ 12 := by rw [HN4.out]; exact hc4
                clear hc4
                go_wp2_with fail
                refine ⟨⟨k + 1, n4, c4, A4, l4, by omega, by go_num, rfl, HO4.out.ls, HN4.out.symm, hn4, hcap, HNM4.out, ?_, HX6''.out, bthen HBW.out HB4'.out⟩, by simp [intOf]; omega⟩
                rw [HF3.out, HG4.out, show 8 - (k + 1) = 7 - k by omega]; rfl

end Go.Proofs.YthjpighlcalocaaGreatDoor

namespace Go.Proofs.YthjpighlcalocaaGreatDoor
open Go.RowKit Go.Maps
set_option linter.unusedVariables false
set_option linter.unusedSimpArgs false

theorem findT_ok {T : Wd} (h : WF T) (fo : Bool) : ∀ (k : Nat) (names : List Byt) (c : Nat), Clean_ names → findT T fo k names = .ok c → Live T c ∧ (fo = true → (nd T c).kind ≠ 3) ∧ (fo = false → names ≠ [] → 0 < c) := by
  intro k
  induction k with
  | zero =>
    intro names c hn hf
    rw [findT_eq] at hf
    have hw := walkT_is h names [] 0 h.root.1 (by rw [h.root.2.1]; decide)
    rcases hwk : walkT T [] 0 names with x | c' | ⟨dn, c', rest⟩
    · rw [hwk] at hf; cases hf
    · rw [hwk] at hf hw
      injection hf with hf; subst hf
      exact ⟨hw.1, fun _ => hw.2.1, fun _ => hw.2.2⟩
    · rw [hwk] at hf hw
      simp only [] at hf
      split at hf
      · rename_i hr
        injection hf with hf; subst hf
        exact ⟨hw.1, fun g => (by rw [hr.2] at g; cases g), fun _ _ => hw.2.1⟩
      · cases hf
  | succ k ih =>
    intro names c hn hf
    rw [findT_eq] at hf
    have hw := walkT_is h names [] 0 h.root.1 (by rw [h.root.2.1]; decide)
    rcases hwk : walkT T [] 0 names with x | c' | ⟨dn, c', rest⟩
    · rw [hwk] at hf; cases hf
    · rw [hwk] at hf hw
      injection hf with hf; subst hf
      exact ⟨hw.1, fun _ => hw.2.1, fun _ => hw.2.2⟩
    · rw [hwk] at hf hw
      simp only [] at hf
      split at hf
      · rename_i hr
        injection hf with hf; subst hf
        exact ⟨hw.1, fun g => (by rw [hr.2] at g; cases g), fun _ _ => hw.2.1⟩
      · rename_i hr
        obtain ⟨-, -, -, j, hj, hdn, hrest⟩ := hw
        have hdc : Clean_ dn := by rw [hdn]; exact ⟨by have := hn.1; simp; omega, fun x hx => hn.2 x (List.mem_of_mem_take (by simpa using hx))⟩
        have hrc : ∀ x ∈ rest, nameB x = true := fun x hx => hn.2 x (by rw [hrest] at hx; exact List.mem_of_mem_drop hx)
        rcases hl : leadT dn (nd T c').to rest with x | names'
        · rw [hl] at hf; cases hf
        · rw [hl] at hf
          obtain ⟨g1, g2, g3⟩ := ih names' c (leadT_ok hdc hl hrc) hf
          refine ⟨g1, g2, fun hfo _ => g3 hfo ?_⟩
          intro he
          unfold leadT at hl
          rcases hp : pfollow dn (nd T c').to with e | on
          · rw [hp] at hl; cases hl
          · rw [hp] at hl
            simp only [] at hl
            split at hl
            · cases hl
            · injection hl with hl
              rw [he] at hl
              exact hr ⟨(List.append_eq_nil_iff.1 hl).2, hfo⟩
theorem findT_code {T : Wd} (h : WF T) (fo : Bool) : ∀ (k : Nat) (names : List Byt) (x : Int), findT T fo k names = .error x → (x != 0) = true := by
  intro k
  induction k with
  | zero =>
    intro names c hf
    rw [findT_eq] at hf
    have hw := walkT_is h names [] 0 h.root.1 (by rw [h.root.2.1]; decide)
    rcases hwk : walkT T [] 0 names with x | c' | ⟨dn, c', rest⟩
    · rw [hwk] at hf hw
      injection hf with hf; subst hf
      rcases hw with rfl | rfl <;> rfl
    · rw [hwk] at hf; cases hf
    · rw [hwk] at hf
      simp only [] at hf
      split at hf
      · cases hf
      · injection hf with hf; subst hf; rfl
  | succ k ih =>
    intro names c hf
    rw [findT_eq] at hf
    have hw := walkT_is h names [] 0 h.root.1 (by rw [h.root.2.1]; decide)
    rcases hwk : walkT T [] 0 names with x | c' | ⟨dn, c', rest⟩
    · rw [hwk] at hf hw
      injection hf with hf; subst hf
      rcases hw with rfl | rfl <;> rfl
    · rw [hwk] at hf; cases hf
    · rw [hwk] at hf
      simp only [] at hf
      split at hf
      · cases hf
      · rcases hl : leadT dn (nd T c').to rest with x | names'
        · rw [hl] at hf
          injection hf with hf; subst hf
          rcases leadT_code hl with rfl | rfl | rfl <;> rfl
        · rw [hl] at hf
          exact ih _ _ hf

/-- what finding answers, either way -/
theorem RetP.is {w w' : World} {T : Wd} {p : Nat → Nat} {fo : Bool} {l : List Byt} {r : Except Int Nat} {e : Ending} (h : RetP w T p r e w') (hr : r = findT T fo 8 l) (hw : WF T) (hl : Clean_ l) : Hid (Below w.heap.size w w') ∧
    ((∃ x : Int, (x != 0) = true ∧ e = .returned (.tuple #[.agg #[.pointer none, .string ⟨#[]⟩, .nilIface], .int .i64 x]) ∧ Hid (r = .error x)) ∨
     (∃ (c : Nat) (a : Option Addr) (s : ByteArray) (t : Nat), e = .returned (.tuple #[.agg #[.pointer a, .string s, .iface t (.pointer (some ⟨p c, 0, none⟩))], .int .i64 0]) ∧
       Hid (r = .ok c ∧ Live T c ∧ (fo = true → (nd T c).kind ≠ 3) ∧ (fo = false → l ≠ [] → 0 < c) ∧ t = tyK (nd T c).kind ∧ s = tx (nd T c).name ∧ (0 < c → a = some ⟨p (nd T c).inn, 0, none⟩)))) := by
  obtain ⟨hb, h⟩ := h
  refine ⟨Lib.hid hb, ?_⟩
  rcases hrr : r with x | c
  · rw [hrr] at h
    exact .inl ⟨x, findT_code hw fo 8 l x (by rw [← hr, hrr]), h, Lib.hid rfl⟩
  · rw [hrr] at h
    obtain ⟨g1, g2, g3⟩ := findT_ok hw fo 8 l c hl (by rw [← hr, hrr])
    exact .inr ⟨c, (if c = 0 then none else some ⟨p (nd T c).inn, 0, none⟩), tx (nd T c).name, tyK (nd T c).kind, h, Lib.hid ⟨rfl, g1, g2, g3, rfl, rfl, fun g => if_neg (by omega)⟩⟩

def RetD (w : World) (p : Nat → Nat) (r : Except Int Nat) (e : Ending) (w' : World) : Prop :=
  Below w.heap.size w w' ∧
  match r with
  | .error x => e = .returned (.tuple #[.pointer none, .int .i64 x])
  | .ok d => e = .returned (.tuple #[.pointer (some ⟨p d, 0, none⟩), .int .i64 0])
theorem RetD.err {w w' : World} {p : Nat → Nat} {r : Except Int Nat} {x : Int} (h : r = .error x) (hb : Below w.heap.size w w') : RetD w p r (.returned (.tuple #[.pointer none, .int .i64 x])) w' := by subst h; exact ⟨hb, rfl⟩
theorem RetD.ok {w w' : World} {p : Nat → Nat} {r : Except Int Nat} {d : Nat} (h : r = .ok d) (hb : Below w.heap.size w w') : RetD w p r (.returned (.tuple #[.pointer (some ⟨p d, 0, none⟩), .int .i64 0])) w' := by subst h; exact ⟨hb, rfl⟩
theorem tyK_1 {T : Wd} {c : Nat} (h : (nd T c).kind = 1) : tyK (nd T c).kind = 68 := by unfold tyK; rw [if_pos h]
theorem tyK_2 {T : Wd} {c : Nat} (h : (nd T c).kind = 2) : tyK (nd T c).kind = 73 := by unfold tyK; rw [if_neg (by omega), if_pos h]
theorem tyK_3 {T : Wd} {c : Nat} (h : (nd T c).kind = 3) : tyK (nd T c).kind = 112 := by unfold tyK; rw [if_neg (by omega), if_neg (by omega)]

set_option maxHeartbeats 2000000 in
theorem dir_any (A : Option Addr) (n cp : Nat) (l : List Byt) (w : World) (tb : Nat) (T : Wd) (f : Rl) (p : Nat → Nat) (K : Nat) (h : TreeIs w tb T f p K) (hb : Ls stS w A l) (hn : l.length = n) (hcp : n ≤ cp) (hc : Clean_ l) :
    Calls Tryz.prog 67 #[.pointer (some ⟨tb, 0, none⟩), .slice A n cp] w (RetD w p (dirT T l)) := by
  have H := Lib.hid h
  have HN := Lib.hid hn
  have HC := Lib.hid hc
  have HF := Lib.hid (find_any A n cp l true w tb T f p K h hb hn (by rw [← hn]; exact hc.1) hcp hc.2)
  obtain ⟨r, hr⟩ : ∃ r, r = findT T true 8 l := ⟨_, rfl⟩
  obtain ⟨g, hg⟩ : ∃ g, g = dirT T l := ⟨_, rfl⟩
  rw [← hg]
  unfold dirT at hg
  rw [← hr] at HF hg
  have HR := Lib.hid hr
  have HG := Lib.hid hg
  have tn := fun w => ta_nil 68 w (.inl rfl)
  have th := fun x w => ta_hit 68 x w (.inl rfl)
  have tm := fun x w => ta_miss 73 68 x w (.inl rfl) (by decide)
  clear h hb hn hc hr hg
  go_enter Tryz.func67, Tryz.ntmps67
  go_upto_region 2 with (go_at_call 68; refine HF.out.mono ?_; intro e w2 h2; obtain ⟨HB2, ⟨x, hx, rfl, HE⟩ | ⟨c2, a2, s2, t2, rfl, HE⟩⟩ := h2.is HR.out H.out.wf HC.out; clear h2)
  · have HB3 := Lib.hid (bthen HB2.out (ba1 w2 (.cells #[.pointer none, .string ⟨#[]⟩, .nilIface] 121)))
    go_wp2_with fail
    go_ret2
    exact RetD.err (by rw [HG.out, HE.out]) HB3.out
  · have HB3 := Lib.hid (bthen HB2.out (ba1 w2 (.cells #[.pointer a2, .string s2, .iface t2 (.pointer (some ⟨p c2, 0, none⟩))] 121)))
    obtain ⟨e1, e2, e3, -, e5, -, -⟩ := HE.out
    by_cases h1 : (nd T c2).kind = 1
    · rw [tyK_1 h1] at e5
      subst e5
      have HG2 : Hid (g = .ok c2) := Lib.hid (by rw [HG.out, e1]; exact if_pos h1)
      clear h1 e1 e2 e3
      go_wp2_with fail
      go_ret2
      exact RetD.ok HG2.out HB3.out
    · have h2 : (nd T c2).kind = 2 := by rcases H.out.wf.kin c2 e2 with j | j | j; exact absurd j h1; exact j; exact absurd j (by first | exact e3 rfl | exact e3 trivial)
      rw [tyK_2 h2] at e5
      subst e5
      have HG2 : Hid (g = .error 15) := Lib.hid (by rw [HG.out, e1]; exact if_neg h1)
      clear h1 e1 e2 e3 h2
      go_wp2_with fail
      go_ret2
      exact RetD.err HG2.out HB3.out

/-! open -/
def RetO (w : World) (T : Wd) (p : Nat → Nat) (r : Except Int Nat) (e : Ending) (w' : World) : Prop :=
  Below w.heap.size w w' ∧
  match r with
  | .error x => e = .returned (.tuple #[.nilIface, .int .i64 x])
  | .ok c => e = .returned (.tuple #[nodeV T p c, .int .i64 0])
theorem RetO.err {w w' : World} {T : Wd} {p : Nat → Nat} {r : Except Int Nat} {x : Int} (h : r = .error x) (hb : Below w.heap.size w w') : RetO w T p r (.returned (.tuple #[.nilIface, .int .i64 x])) w' := by subst h; exact ⟨hb, rfl⟩
theorem RetO.ok {w w' : World} {T : Wd} {p : Nat → Nat} {r : Except Int Nat} {c : Nat} {t : Nat} (h : r = .ok c) (hb : Below w.heap.size w w') (ht : t = tyK (nd T c).kind) : RetO w T p r (.returned (.tuple #[.iface t (.pointer (some ⟨p c, 0, none⟩)), .int .i64 0])) w' := by
  subst h; subst ht; exact ⟨hb, rfl⟩
theorem clean_code {q : Byt} {x : Int} (h : clean q = .error x) : (x != 0) = true := by
  rcases pfrom_code h with rfl | rfl | rfl <;> rfl
theorem clean_ok {q : Byt} {l : List Byt} (h : clean q = .ok l) : Clean_ l := pfrom_clean clean_nil h

set_option maxHeartbeats 2000000 in
theorem open_any (q : Byt) (w : World) (tb : Nat) (T : Wd) (f : Rl) (p : Nat → Nat) (K : Nat) (h : TreeIs w tb T f p K) :
    Calls Tryz.prog 50 #[.pointer (some ⟨tb, 0, none⟩), .string (tx q)] w (RetO w T p (openT T q)) := by
  have H := Lib.hid h
  have HC := Lib.hid (clean_any q w)
  obtain ⟨g, hg⟩ : ∃ g, g = openT T q := ⟨_, rfl⟩
  rw [← hg]
  unfold openT clean at hg
  obtain ⟨r, hr⟩ : ∃ r, pfrom [] q = r := ⟨_, rfl⟩
  have HCC : Hid (∀ x, r = .error x → (x != 0) = true) := Lib.hid (fun x hx => clean_code (hr.trans hx))
  have HCO : Hid (∀ l, r = .ok l → Clean_ l) := Lib.hid (fun x hx => clean_ok (hr.trans hx))
  rw [hr] at HC hg
  have HG := Lib.hid hg
  clear h hr hg
  go_enter Tryz.func50, Tryz.ntmps50
  go_upto_region 2 with (go_at_call 66; refine HC.out.mono ?_; intro e w1 h1; obtain ⟨HB1, ⟨x, HRR, rfl⟩ | ⟨l1, A1, c1, n1, HRR, HN1, rfl, HO1⟩⟩ := h1.isH; clear h1)
  · have hx := HCC.out x HRR.out
    rw [HRR.out] at HG
    go_wp2_with fail
    go_ret2
    exact RetO.err HG.out HB1.out
  · have HCL := Lib.hid (HCO.out l1 HRR.out)
    rw [HRR.out] at HG
    have HF := Lib.hid (find_any A1 n1 c1 l1 true w1 tb T f p K (H.out.new HB1.out) HO1.out.ls HN1.out.symm (by rw [HN1.out]; exact HCL.out.1) HO1.out.cap HCL.out.2)
    obtain ⟨r2, hr2⟩ : ∃ r, r = findT T true 8 l1 := ⟨_, rfl⟩
    rw [← hr2] at HF
    have HR2 := Lib.hid hr2
    have HG' : Hid (g = r2) := Lib.hid (HG.out.trans hr2.symm)
    clear hr2
    go_upto_region 5 with (go_at_call 68; refine HF.out.mono ?_; intro e w2 h2; obtain ⟨HB2, ⟨x, hx, rfl, HE⟩ | ⟨c2, a2, s2, t2, rfl, HE⟩⟩ := h2.is HR2.out H.out.wf HCL.out; clear h2)
    · have HB3 := Lib.hid (bthen HB1.out (bthen HB2.out (ba1 w2 (.cells #[.pointer none, .string ⟨#[]⟩, .nilIface] 121))))
      go_wp2_with fail
      go_ret2
      exact RetO.err (HG'.out.trans HE.out) HB3.out
    · have HB3 := Lib.hid (bthen HB1.out (bthen HB2.out (ba1 w2 (.cells #[.pointer a2, .string s2, .iface t2 (.pointer (some ⟨p c2, 0, none⟩))] 121))))
      go_wp2_with fail
      go_ret2
      exact RetO.ok (HG'.out.trans HE.out.1) HB3.out HE.out.2.2.2.2.1

/-! own -/
set_option maxRecDepth 100000 in
set_option maxHeartbeats 2000000 in
theorem own_any (q : Byt) (w : World) (tb : Nat) (T : Wd) (f : Rl) (p : Nat → Nat) (K : Nat) (h : TreeIs w tb T f p K) :
    Calls Tryz.prog 53 #[.pointer (some ⟨tb, 0, none⟩), .string (tx q)] w (RetP w T p (ownT T q)) := by
  have H := Lib.hid h
  have HC := Lib.hid (fun wx => clean_any q wx)
  obtain ⟨g, hg⟩ : ∃ g, g = ownT T q := ⟨_, rfl⟩
  rw [← hg]
  unfold ownT clean at hg
  obtain ⟨r, hr⟩ : ∃ r, pfrom [] q = r := ⟨_, rfl⟩
  have HCC : Hid (∀ x, r = .error x → (x != 0) = true) := Lib.hid (fun x hx => clean_code (hr.trans hx))
  have HCO : Hid (∀ l, r = .ok l → Clean_ l) := Lib.hid (fun x hx => clean_ok (hr.trans hx))
  rw [hr] at HC hg
  have HG := Lib.hid hg
  clear h hr hg
  go_enter Tryz.func53, Tryz.ntmps53
  go_upto_region 2 with (go_at_call 66; refine (HC.out _).mono ?_; intro e w1 h1; obtain ⟨HB1, ⟨x, HRR, rfl⟩ | ⟨l1, A1, c1, n1, HRR, HN1, rfl, HO1⟩⟩ := h1.isH; clear h1)
  all_goals
    obtain ⟨q4, hq4⟩ : ∃ q, q = w.heap.size := ⟨_, rfl⟩
    have HX4 : Hid (Bx 121 w1 q4 noPlace) := Lib.hid (by rw [hq4]; exact (bx_new w 121 noPlace).below HB1.out)
    have HBX := Lib.hid (bthen (ba1 w (.cells #[.pointer none, .string ⟨#[]⟩, .nilIface] 121)) HB1.out)
    have hqw : w.heap.size ≤ q4 := by omega
    rw [← hq4]
    clear hq4
  · have hx := HCC.out x HRR.out
    rw [HRR.out] at HG
    obtain ⟨d0, e0, e1, e2, g0, g1, g2⟩ := HX4.out.all3
    go_wp2_with fail
    refine end_ret (v := .tuple #[.agg #[.pointer none, .string ⟨#[]⟩, .nilIface], .int .i64 x]) (by simp [results, Tryz.results53, go_sem, d0, e0, e1, e2, g0, g1, g2]) ⟨?_, ?_⟩
    · exact below_store3 HBX.out hqw _ _ _
    · rw [HG.out]; rfl
  · have HCL := Lib.hid (HCO.out l1 HRR.out)
    rw [HRR.out] at HG
    by_cases hl0 : l1 = []
    · have HG2 : Hid (g = .error 14) := Lib.hid (by rw [HG.out]; exact if_pos hl0)
      obtain rfl : n1 = 0 := by rw [HN1.out, hl0]; rfl
      clear hl0
      obtain ⟨d0, e0, e1, e2, g0, g1, g2⟩ := HX4.out.all3
      go_wp2_with fail
      refine end_ret (v := .tuple #[.agg #[.pointer none, .string ⟨#[]⟩, .nilIface], .int .i64 14]) (by simp [results, Tryz.results53, go_sem, d0, e0, e1, e2, g0, g1, g2]) ⟨?_, ?_⟩
      · exact below_store3 HBX.out hqw _ _ _
      · rw [HG2.out]; rfl
    · have HF := Lib.hid (find_any A1 n1 c1 l1 false w1 tb T f p K (H.out.new HBX.out) HO1.out.ls HN1.out.symm (by rw [HN1.out]; exact HCL.out.1) HO1.out.cap HCL.out.2)
      obtain ⟨r2, hr2⟩ : ∃ r, r = findT T false 8 l1 := ⟨_, rfl⟩
      have HG' : Hid (g = r2) := Lib.hid (by rw [HG.out, hr2]; exact if_neg hl0)
      have hn0 : ((n1 : Int) == 0) = false := by
        have := HN1.out
        have : 0 < l1.length := List.length_pos_iff.2 hl0
        simp; omega
      rw [← hr2] at HF
      have HR2 := Lib.hid hr2
      have HL0 := Lib.hid hl0
      clear hr2 hl0
      go_upto_region 6 with fail
      go_wp2_with (go_at_call 68; refine HF.out.mono ?_; intro e w2 h2; obtain ⟨HB2, ⟨x, hx, rfl, HE⟩ | ⟨c2, a2, s2, t2, rfl, HE⟩⟩ := h2.is HR2.out H.out.wf HCL.out; all_goals (clear h2; obtain ⟨d0, e0, e1, e2, g0, g1, g2⟩ := (HX4.out.below HB2.out).all3))
      · refine end_ret (v := .tuple #[.agg #[.pointer none, .string ⟨#[]⟩, .nilIface], .int .i64 x]) (by simp [results, Tryz.results53, go_sem, d0, e0, e1, e2, g0, g1, g2]) ⟨?_, ?_⟩
        · exact below_store3 (bthen HBX.out HB2.out) hqw _ _ _
        · rw [HG'.out, HE.out]; rfl
      · refine end_ret (v := .tuple #[.agg #[.pointer a2, .string s2, .iface t2 (.pointer (some ⟨p c2, 0, none⟩))], .int .i64 0]) (by simp [results, Tryz.results53, go_sem, d0, e0, e1, e2, g0, g1, g2]) ⟨?_, ?_⟩
        · exact below_store3 (bthen HBX.out HB2.out) hqw _ _ _
        · obtain ⟨k1, k2, k3, k4, k5, k6, k7⟩ := HE.out
          have h0 : 0 < c2 := k4 (by first | rfl | trivial) HL0.out
          rw [HG'.out, k1]
          show _ = _
          rw [placeC_pos h0, k7 h0, k6, k5]
          rfl

theorem ownT_ok {T : Wd} {q : Byt} {c : Nat} (h : WF T) (ho : ownT T q = .ok c) : Live T c ∧ 0 < c := by
  unfold ownT at ho
  rcases hc : clean q with e | l
  · rw [hc] at ho; cases ho
  · rw [hc] at ho
    simp only [] at ho
    split at ho
    · cases ho
    · rename_i hl
      obtain ⟨g1, -, g3⟩ := findT_ok h false 8 l c (clean_ok hc) ho
      exact ⟨g1, g3 rfl hl⟩
theorem ownT_code {T : Wd} {q : Byt} {x : Int} (h : WF T) (ho : ownT T q = .error x) : (x != 0) = true := by
  unfold ownT at ho
  rcases hc : clean q with e | l
  · rw [hc] at ho
    injection ho with ho; subst ho; exact clean_code hc
  · rw [hc] at ho
    simp only [] at ho
    split at ho
    · injection ho with ho; subst ho; rfl
    · exact findT_code h false 8 l x ho
/-- what own answers, either way -/
theorem RetP.own {w w' : World} {T : Wd} {p : Nat → Nat} {q : Byt} {r : Except Int Nat} {e : Ending} (h : RetP w T p r e w') (hr : r = ownT T q) (hw : WF T) : Hid (Below w.heap.size w w') ∧
    ((∃ x : Int, (x != 0) = true ∧ e = .returned (.tuple #[.agg #[.pointer none, .string ⟨#[]⟩, .nilIface], .int .i64 x]) ∧ Hid (r = .error x)) ∨
     (∃ c : Nat, e = .returned (.tuple #[.agg #[.pointer (some ⟨p (nd T c).inn, 0, none⟩), .string (tx (nd T c).name), .iface (tyK (nd T c).kind) (.pointer (some ⟨p c, 0, none⟩))], .int .i64 0]) ∧ Hid (r = .ok c ∧ Live T c ∧ 0 < c))) := by
  obtain ⟨hb, h⟩ := h
  refine ⟨Lib.hid hb, ?_⟩
  rcases hrr : r with x | c
  · rw [hrr] at h
    exact .inl ⟨x, ownT_code hw (hr ▸ hrr), h, Lib.hid rfl⟩
  · rw [hrr] at h
    obtain ⟨g1, g2⟩ := ownT_ok hw (q := q) (c := c) (by rw [← hr, hrr])
    simp only [] at h
    rw [placeC_pos g2] at h
    exact .inr ⟨c, h, Lib.hid ⟨rfl, g1, g2⟩⟩
theorem openT_ok {T : Wd} {q : Byt} {c : Nat} (h : WF T) (ho : openT T q = .ok c) : Live T c ∧ ((nd T c).kind = 1 ∨ (nd T c).kind = 2) := by
  unfold openT at ho
  rcases hc : clean q with e | l
  · rw [hc] at ho; cases ho
  · rw [hc] at ho
    obtain ⟨g1, g2, -⟩ := findT_ok h true 8 l c (clean_ok hc) ho
    refine ⟨g1, ?_⟩
    rcases h.kin c g1 with j | j | j
    · exact .inl j
    · exact .inr j
    · exact absurd j (g2 rfl)
theorem openT_code {T : Wd} {q : Byt} {x : Int} (h : WF T) (ho : openT T q = .error x) : (x != 0) = true := by
  unfold openT at ho
  rcases hc : clean q with e | l
  · rw [hc] at ho
    injection ho with ho; subst ho; exact clean_code hc
  · rw [hc] at ho
    exact findT_code h true 8 l x ho
/-- what open answers, either way -/
theorem RetO.is {w w' : World} {T : Wd} {p : Nat → Nat} {q : Byt} {r : Except Int Nat} {e : Ending} (h : RetO w T p r e w') (hr : r = openT T q) (hw : WF T) : Hid (Below w.heap.size w w') ∧
    ((∃ x : Int, (x != 0) = true ∧ e = .returned (.tuple #[.nilIface, .int .i64 x]) ∧ Hid (r = .error x)) ∨
     (∃ c : Nat, e = .returned (.tuple #[.iface 68 (.pointer (some ⟨p c, 0, none⟩)), .int .i64 0]) ∧ Hid (r = .ok c ∧ Live T c ∧ (nd T c).kind = 1)) ∨
     (∃ c : Nat, e = .returned (.tuple #[.iface 73 (.pointer (some ⟨p c, 0, none⟩)), .int .i64 0]) ∧ Hid (r = .ok c ∧ Live T c ∧ (nd T c).kind = 2))) := by
  obtain ⟨hb, h⟩ := h
  refine ⟨Lib.hid hb, ?_⟩
  rcases hrr : r with x | c
  · rw [hrr] at h
    exact .inl ⟨x, openT_code hw (hr ▸ hrr), h, Lib.hid rfl⟩
  · rw [hrr] at h
    simp only [] at h
    obtain ⟨g1, g2 | g2⟩ := openT_ok hw (q := q) (c := c) (by rw [← hr, hrr])
    · rw [nodeV_1 g2] at h
      exact .inr (.inl ⟨c, h, Lib.hid ⟨rfl, g1, g2⟩⟩)
    · rw [nodeV_2 g2] at h
      exact .inr (.inr ⟨c, h, Lib.hid ⟨rfl, g1, g2⟩⟩)

end Go.Proofs.YthjpighlcalocaaGreatDoor

namespace Go.Proofs.YthjpighlcalocaaGreatDoor
open Go.RowKit Go.Maps
set_option linter.unusedVariables false
set_option linter.unusedSimpArgs false

theorem dirT_ok {T : Wd} {l : List Byt} {d : Nat} (h : WF T) (hl : Clean_ l) (ho : dirT T l = .ok d) : Live T d ∧ (nd T d).kind = 1 := by
  unfold dirT at ho
  rcases hc : findT T true 8 l with e | c
  · rw [hc] at ho; cases ho
  · rw [hc] at ho
    simp only [] at ho
    split at ho
    · rename_i hk
      injection ho with ho; subst ho
      exact ⟨(findT_ok h true 8 l c hl hc).1, hk⟩
    · cases ho
theorem dirT_code {T : Wd} {l : List Byt} {x : Int} (h : WF T) (ho : dirT T l = .error x) : (x != 0) = true := by
  unfold dirT at ho
  rcases hc : findT T true 8 l with e | c
  · rw [hc] at ho
    injection ho with ho; subst ho
    exact findT_code h true 8 l _ hc
  · rw [hc] at ho
    simp only [] at ho
    split at ho
    · cases ho
    · injection ho with ho; subst ho; rfl
theorem RetD.is {w w' : World} {T : Wd} {p : Nat → Nat} {l : List Byt} {r : Except Int Nat} {e : Ending} (h : RetD w p r e w') (hr : r = dirT T l) (hw : WF T) (hl : Clean_ l) : Hid (Below w.heap.size w w') ∧
    ∃ (a : Option Addr) (x : Int), e = .returned (.tuple #[.pointer a, .int .i64 x]) ∧ Hid (((x != 0) = true ∧ r = .error x) ∨ (x = 0 ∧ ∃ d, r = .ok d ∧ a = some ⟨p d, 0, none⟩ ∧ Live T d ∧ (nd T d).kind = 1)) := by
  obtain ⟨hb, h⟩ := h
  refine ⟨Lib.hid hb, ?_⟩
  rcases hrr : r with x | d
  · rw [hrr] at h
    exact ⟨none, x, h, Lib.hid (.inl ⟨dirT_code hw (hr ▸ hrr), rfl⟩)⟩
  · rw [hrr] at h
    obtain ⟨g1, g2⟩ := dirT_ok hw hl (d := d) (by rw [← hr, hrr])
    exact ⟨_, 0, h, Lib.hid (.inr ⟨rfl, d, rfl, rfl, g1, g2⟩)⟩

def RetS (w : World) (p : Nat → Nat) (r : Except Int (Nat × Byt)) (e : Ending) (w' : World) : Prop :=
  Below w.heap.size w w' ∧
  match r with
  | .error x => e = .returned (.tuple #[.pointer none, .string ⟨#[]⟩, .int .i64 x])
  | .ok (d, nm) => e = .returned (.tuple #[.pointer (some ⟨p d, 0, none⟩), .string (tx nm), .int .i64 0])
theorem RetS.err {w w' : World} {p : Nat → Nat} {r : Except Int (Nat × Byt)} {x : Int} (h : r = .error x) (hb : Below w.heap.size w w') : RetS w p r (.returned (.tuple #[.pointer none, .string ⟨#[]⟩, .int .i64 x])) w' := by subst h; exact ⟨hb, rfl⟩
theorem RetS.ok {w w' : World} {p : Nat → Nat} {r : Except Int (Nat × Byt)} {d : Nat} {nm : Byt} (h : r = .ok (d, nm)) (hb : Below w.heap.size w w') : RetS w p r (.returned (.tuple #[.pointer (some ⟨p d, 0, none⟩), .string (tx nm), .int .i64 0])) w' := by subst h; exact ⟨hb, rfl⟩

def spotOn (T : Wd) (nm : Byt) : Except Int Nat → Except Int (Nat × Byt)
  | .error e => .error e
  | .ok d => if (child T d nm).isSome then .error 8 else .ok (d, nm)
theorem spotT_eq (T : Wd) (l : List Byt) (h : l ≠ []) : spotT T l = spotOn T (l.getLastD []) (dirT T l.dropLast) := by
  unfold spotT
  rw [if_neg h]
  rcases dirT T l.dropLast with e | d <;> rfl
theorem DirIs.lookN {w : World} {b K : Nat} {M : Byt → Option (Nat × Nat)} (h : DirIs w b K M) {nm : Byt} (hn : nm.length ≤ maxLen) (n : Nat) :
    (Instr.lookup 105 (.map (some b)) (.string (tx nm)) true).run Tryz.prog (World.drewN w n) = .ok (.tuple #[mkV (M nm), .bool (M nm).isSome]) (World.drewN w n) :=
  (h.below (below_drewN (Below.refl _ _) n)).look hn

set_option maxRecDepth 100000 in
set_option maxHeartbeats 2000000 in
theorem free_any (q : Byt) (w : World) (tb : Nat) (T : Wd) (f : Rl) (p : Nat → Nat) (K : Nat) (h : TreeIs w tb T f p K) :
    Calls Tryz.prog 49 #[.pointer (some ⟨tb, 0, none⟩), .string (tx q)] w (RetS w p (freeT T q)) := by
  have H := Lib.hid h
  have HC := Lib.hid (clean_any q w)
  obtain ⟨g, hg⟩ : ∃ g, g = freeT T q := ⟨_, rfl⟩
  rw [← hg]
  unfold freeT clean at hg
  obtain ⟨r, hr⟩ : ∃ r, pfrom [] q = r := ⟨_, rfl⟩
  have HCC : Hid (∀ x, r = .error x → (x != 0) = true) := Lib.hid (fun x hx => clean_code (hr.trans hx))
  have HCO : Hid (∀ l, r = .ok l → Clean_ l) := Lib.hid (fun x hx => clean_ok (hr.trans hx))
  rw [hr] at HC hg
  have HG := Lib.hid hg
  clear h hr hg
  go_enter Tryz.func49, Tryz.ntmps49
  go_upto_region 2 with (go_at_call 66; refine HC.out.mono ?_; intro e w1 h1; obtain ⟨HB1, ⟨x, HRR, rfl⟩ | ⟨l1, A1, c1, n1, HRR, HN1, rfl, HO1⟩⟩ := h1.isH; clear h1)
  · have hx := HCC.out x HRR.out
    rw [HRR.out] at HG
    go_wp2_with fail
    go_ret3
    exact RetS.err HG.out HB1.out
  · have HCL := Lib.hid (HCO.out l1 HRR.out)
    rw [HRR.out] at HG
    by_cases hl0 : l1 = []
    · have HG2 : Hid (g = .error 8) := Lib.hid (by rw [HG.out]; exact if_pos hl0)
      obtain rfl : n1 = 0 := by rw [HN1.out, hl0]; rfl
      clear hl0
      go_wp2_with fail
      go_ret3
      exact RetS.err HG2.out HB1.out
    · obtain ⟨m, hm⟩ : ∃ m, n1 = m + 1 := ⟨n1 - 1, by have := HN1.out; have : 0 < l1.length := List.length_pos_iff.2 hl0; omega⟩
      subst hm
      have hm12 : m + 1 ≤ 12 := by rw [HN1.out]; exact HCL.out.1
      have hml : m < l1.length := by rw [← HN1.out]; omega
      have hcap := HO1.out.cap
      have hlast : l1.getLastD [] = l1.getD m [] := by
        rw [List.getLastD_eq_getLast?, List.getLast?_eq_getElem?, List.getD_eq_getElem?_getD, ← HN1.out, Nat.add_sub_cancel]
      obtain ⟨nm, hnm⟩ : ∃ nm, nm = l1.getD m [] := ⟨_, rfl⟩
      have HNM := Lib.hid (HCL.out.2 _ (getD_mem hml))
      rw [← hnm] at hlast HNM
      have hdl : l1.dropLast = l1.take m := by rw [List.dropLast_eq_take, ← HN1.out, Nat.add_sub_cancel]
      obtain ⟨r2, hr2⟩ : ∃ r, r = dirT T (l1.take m) := ⟨_, rfl⟩
      have HG2 : Hid (g = spotOn T nm r2) := Lib.hid (by
        rw [HG.out, ← hlast, hr2, ← hdl]; exact spotT_eq T l1 hl0)
      have HCT : Hid (Clean_ (l1.take m)) := Lib.hid ⟨by rw [List.length_take]; omega, fun x hx => HCL.out.2 x (List.mem_of_mem_take hx)⟩
      have HD := Lib.hid (dir_any A1 m c1 (l1.take m) w1 tb T f p K (H.out.new HB1.out) (HO1.out.ls.take m) (by rw [List.length_take]; omega) (by omega) HCT.out)
      rw [← hr2] at HD
      have HR2 := Lib.hid hr2
      have hws : IntKind.i64.wrap (((m + 1 : Nat) : Int) - 1) = (m : Int) := by rw [IntKind.wrap_i64]; omega
      have hwm : IntKind.i64.wrap (m : Int) = (m : Int) := by rw [IntKind.wrap_i64]; omega
      have hmc : (m : Int) ≤ (c1 : Int) := by omega
      have hmc2 : (m : Int) < ((m + 1 : Nat) : Int) := by omega
      obtain ⟨bA, oA, rfl, hbA, hcell⟩ := HO1.out.ls.text m hml
      rw [← hnm] at hcell
      clear hl0 hlast hnm hdl hr2 hml
      go_upto_region 8 with (go_at_call 67; refine HD.out.mono ?_; intro e w2 h2; obtain ⟨HB2, a2, x2, rfl, HE⟩ := h2.is HR2.out H.out.wf HCT.out; clear h2)
      have HB3 := Lib.hid (bthen HB1.out HB2.out)
      rcases HE.out with ⟨hx, he⟩ | ⟨rfl, d, he, rfl, hlv, hkd⟩
      · have HG3 : Hid (g = .error x2) := Lib.hid (by rw [HG2.out, he]; rfl)
        clear he
        go_wp2_with fail
        go_ret3
        exact RetS.err HG3.out HB3.out
      · have hT := H.out.new HB3.out
        obtain ⟨mb, -, -, hbx, hdir⟩ := hT.dir hlv hkd
        have hlook := fun k => hdir.lookN (nm := nm) (by have := (nameB_is.1 HNM.out).2.1; unfold maxLen; omega) k
        obtain ⟨l0', l1'⟩ := hbx.one
        have hcell2 : w2.cell? ⟨bA, oA + m, none⟩ = some (.string (tx nm)) := (HB2.out.cell (p := ⟨bA, oA + m, none⟩) hbA).trans hcell
        have hbA2 : bA < w2.heap.size := Nat.lt_of_lt_of_le hbA HB2.out.size
        clear hcell hbA
        have HG3 : Hid (g = if (child T d nm).isSome then .error 8 else .ok (d, nm)) := Lib.hid (by rw [HG2.out, he]; rfl)
        clear he hbx hdir hT hlv hkd
        rcases hch : child T d nm with _ | c'
        · have hM : namesM T p d nm = none := by unfold namesM; rw [hch]; rfl
          rw [hM] at hlook
          rw [hch] at HG3
          simp only [mkV, Option.isSome_none] at hlook
          clear hM hch
          go_upto_region 10 with fail
          go_quiet (fail)
          generalize hwd : World.drewN w2 _ = wd
          have HBD : Hid (Below w2.heap.size w2 wd) := Lib.hid (by rw [← hwd]; exact below_drewN (Below.refl _ _) _)
          have hcell3 : wd.cell? ⟨bA, oA + m, none⟩ = some (.string (tx nm)) := (HBD.out.cell (p := ⟨bA, oA + m, none⟩) hbA2).trans hcell2
          have hbA3 : bA < wd.heap.size := Nat.lt_of_lt_of_le hbA2 HBD.out.size
          have HB4 := Lib.hid (bthen HB3.out HBD.out)
          clear hwd hcell2 hbA2 l0' l1' hlook
          go_upto_region 13 with fail
          go_quiet (fail)
          generalize hwd : World.drewN wd _ = we
          have HB5 : Hid (Below w.heap.size w we) := Lib.hid (by rw [← hwd]; exact below_drewN HB4.out _)
          clear hwd
          have HG4 : Hid (g = .ok (d, nm)) := Lib.hid (by rw [HG3.out]; rfl)
          go_wp2_with fail
          go_ret3
          exact RetS.ok HG4.out HB5.out
        · have hM : namesM T p d nm = some (vtx T p c') := by unfold namesM; rw [hch]; rfl
          rw [hM] at hlook
          rw [hch] at HG3
          rw [show mkV (some (vtx T p c')) = .iface (tyK (nd T c').kind) (.pointer (some ⟨p c', 0, none⟩)) from rfl] at hlook
          simp only [Option.isSome_some] at hlook
          clear hM hch
          go_upto_region 10 with fail
          go_quiet (fail)
          generalize hwd : World.drewN w2 _ = we
          have HB5 : Hid (Below w.heap.size w we) := Lib.hid (by rw [← hwd]; exact below_drewN HB3.out _)
          clear hwd
          have HG4 : Hid (g = .error 8) := Lib.hid (by rw [HG3.out]; rfl)
          go_wp2_with fail
          go_ret3
          exact RetS.err HG4.out HB5.out

theorem freeT_ok {T : Wd} {q : Byt} {d : Nat} {nm : Byt} (h : WF T) (ho : freeT T q = .ok (d, nm)) : Live T d ∧ (nd T d).kind = 1 ∧ nameB nm = true ∧ child T d nm = none := by
  unfold freeT at ho
  rcases hc : clean q with e | l
  · rw [hc] at ho; cases ho
  · rw [hc] at ho
    simp only [] at ho
    by_cases hl : l = []
    · unfold spotT at ho; rw [if_pos hl] at ho; cases ho
    · rw [spotT_eq T l hl] at ho
      have hcl := clean_ok hc
      have hd : Clean_ l.dropLast := ⟨by have := hcl.1; simp; omega, fun x hx => hcl.2 x (List.dropLast_subset _ hx)⟩
      rcases hdd : dirT T l.dropLast with e | d'
      · rw [hdd] at ho; cases ho
      · rw [hdd] at ho
        obtain ⟨g1, g2⟩ := dirT_ok h hd hdd
        unfold spotOn at ho
        simp only [] at ho
        split at ho
        · cases ho
        · rename_i hcn
          injection ho with ho
          injection ho with h1 h2
          subst h1
          rw [← h2]
          refine ⟨g1, g2, hcl.2 _ ?_, by simpa using hcn⟩
          rw [List.getLastD_eq_getLast?, List.getLast?_eq_some_getLast hl]
          exact List.getLast_mem hl
theorem freeT_code {T : Wd} {q : Byt} {x : Int} (h : WF T) (ho : freeT T q = .error x) : (x != 0) = true := by
  unfold freeT at ho
  rcases hc : clean q with e | l
  · rw [hc] at ho
    injection ho with ho; subst ho; exact clean_code hc
  · rw [hc] at ho
    simp only [] at ho
    by_cases hl : l = []
    · unfold spotT at ho; rw [if_pos hl] at ho; injection ho with ho; subst ho; rfl
    · rw [spotT_eq T l hl] at ho
      rcases hdd : dirT T l.dropLast with e | d'
      · rw [hdd] at ho
        injection ho with ho; subst ho; exact dirT_code h hdd
      · rw [hdd] at ho
        unfold spotOn at ho
        simp only [] at ho
        split at ho
        · injection ho with ho; subst ho; rfl
        · cases ho
/-- what free answers, either way -/
theorem RetS.is {w w' : World} {T : Wd} {p : Nat → Nat} {q : Byt} {r : Except Int (Nat × Byt)} {e : Ending} (h : RetS w p r e w') (hr : r = freeT T q) (hw : WF T) : Hid (Below w.heap.size w w') ∧
    ((∃ x : Int, (x != 0) = true ∧ e = .returned (.tuple #[.pointer none, .string ⟨#[]⟩, .int .i64 x]) ∧ Hid (r = .error x)) ∨
     (∃ (d : Nat) (nm : Byt), e = .returned (.tuple #[.pointer (some ⟨p d, 0, none⟩), .string (tx nm), .int .i64 0]) ∧ Hid (r = .ok (d, nm) ∧ Live T d ∧ (nd T d).kind = 1 ∧ nameB nm = true ∧ child T d nm = none))) := by
  obtain ⟨hb, h⟩ := h
  refine ⟨Lib.hid hb, ?_⟩
  rcases hrr : r with x | ⟨d, nm⟩
  · rw [hrr] at h
    exact .inl ⟨x, freeT_code hw (hr ▸ hrr), h, Lib.hid rfl⟩
  · rw [hrr] at h
    exact .inr ⟨d, nm, h, Lib.hid ⟨rfl, freeT_ok hw (by rw [← hr, hrr])⟩⟩

end Go.Proofs.YthjpighlcalocaaGreatDoor
