/-
  The program's tree: walk.
-/
import Derived.Test.YthjpighlcalocaaGreatDoorTreeKit
import Derived.Test.YthjpighlcalocaaGreatDoorTool
namespace Go.Proofs.YthjpighlcalocaaGreatDoor
open Go.RowKit Go.Maps
set_option linter.unusedVariables false
set_option linter.unusedSimpArgs false

def RetW (w : World) (T : Wd) (p : Nat → Nat) (l : List Byt) (r : Wk) (e : Ending) (w' : World) : Prop :=
  Below w.heap.size w w' ∧
  match r with
  | .err x => e = .returned (.tuple #[.agg noPlace, .int .i64 0, .int .i64 x])
  | .stop c => e = .returned (.tuple #[.agg (placeC T p c), .int .i64 (l.length : Nat), .int .i64 0])
  | .link dn c _ => e = .returned (.tuple #[.agg (placeC T p c), .int .i64 ((dn.length : Nat) + 1), .int .i64 0])

/-- how far the walk has come -/
def TwX (w : World) (T : Wd) (p : Nat → Nat) (l : List Byt) (r : Wk) (q4 q7 : Nat) (i : Value) (wr : World) : Prop :=
  ∃ (k c : Nat), k ≤ l.length ∧ i = .int .i64 k ∧ Live T c ∧ (nd T c).kind ≠ 3 ∧ r = walkT T (l.take k) c (l.drop k) ∧ Bx 121 wr q4 noPlace ∧ Bx 121 wr q7 (placeC T p c) ∧ Below w.heap.size w wr

set_option maxRecDepth 100000 in
set_option maxHeartbeats 2000000 in
theorem twalk_any (A : Option Addr) (n cp : Nat) (l : List Byt) (w : World) (tb : Nat) (T : Wd) (f : Rl) (p : Nat → Nat) (K : Nat) (h : TreeIs w tb T f p K) (hb : Ls stS w A l) (hn : l.length = n) (hm : n ≤ 1000) (hnm : ∀ x ∈ l, nameB x = true) :
    Calls Tryz.prog 84 #[.pointer (some ⟨tb, 0, none⟩), .slice A n cp] w (RetW w T p l (walkT T [] 0 l)) := by
  have H := Lib.hid h
  have HB := Lib.hid hb
  have HN := Lib.hid hn
  have HM := Lib.hid hnm
  obtain ⟨r, hr⟩ : ∃ r, walkT T [] 0 l = r := ⟨_, rfl⟩
  rw [hr]
  have HR := Lib.hid hr
  have h0 := h.top.cell 0 _ rfl
  have htl := h.top.lt
  have hroot : Hid (nodeV T p 0 = .iface 68 (.pointer (some ⟨p 0, 0, none⟩))) := Lib.hid (nodeV_1 h.wf.root.2.1)
  have hp0 : Hid (placeC T p 0 = #[.pointer none, .string ⟨#[]⟩, .iface 68 (.pointer (some ⟨p 0, 0, none⟩))]) := Lib.hid (by unfold placeC; rw [hroot.out, h.wf.root.2.2]; rfl)
  clear h hb hn hnm hr
  go_enter Tryz.func84, Tryz.ntmps84
  go_wp2_with fail
  obtain ⟨q4, hq4⟩ : ∃ q, q = w.heap.size := ⟨_, rfl⟩
  obtain ⟨q7, hq7⟩ : ∃ q, q = w.heap.size + 1 := ⟨_, rfl⟩
  obtain ⟨w1, hw1⟩ : ∃ w1, w1 = ((w.alloc (Obj.cells noPlace 121)).alloc (Obj.cells (placeC T p 0) 121)) := ⟨_, rfl⟩
  have HB1 : Hid (Below w.heap.size w w1) := Lib.hid (by rw [hw1]; exact ba2 _ _ _)
  have HX4 : Hid (Bx 121 w1 q4 noPlace) := Lib.hid (by rw [hw1, hq4]; exact (bx_new _ _ _).below (ba1 _ _))
  have HX7 : Hid (Bx 121 w1 q7 (placeC T p 0)) := Lib.hid (by rw [hw1, hq7]; have := bx_new (w.alloc (Obj.cells noPlace 121)) 121 (placeC T p 0); simpa using this)
  rw [hp0.out] at hw1
  unfold noPlace at hw1
  rw [← hw1, ← hq7, ← hq4]
  have hqw : w.heap.size ≤ q4 ∧ w.heap.size ≤ q7 ∧ ¬ q4 = q7 ∧ ¬ q7 = q4 := by omega
  obtain ⟨hqw1, hqw2, hqw3, hqw4⟩ := hqw
  clear hw1 hq4 hq7 h0
  go_loopw [23] (fun i wr => TwX w T p l r q4 q7 i wr) (fun i _ => n - (intOf i).toNat)
  case atStart =>
    exact ⟨0, 0, Nat.zero_le _, rfl, H.out.wf.root.1, by rw [H.out.wf.root.2.1]; decide, HR.out.symm, HX4.out, HX7.out, HB1.out⟩
  case round =>
    obtain ⟨k, c, hk, rfl, hlv, hkd, hr, hx4, hx7, hbw⟩ := hrel
    have HLV := Lib.hid hlv
    have HRr := Lib.hid hr
    have HX4r := Lib.hid hx4
    have HX7r := Lib.hid hx7
    have HBW := Lib.hid hbw
    have Hr := Lib.hid (H.out.new hbw)
    have hNm : l.length = n := HN.out
    clear hr hx4 hx7 hbw hlv
    by_cases hlt : k < n
    · have hki : (k : Int) < (n : Int) := by omega
      obtain ⟨bL, oL, rfl, hbl, hcc⟩ := (HB.out.below HBW.out).text k (by omega)
      have HNL := Lib.hid (name_len HM.out (k := k) (by omega))
      have HST := Lib.hid (HRr.out.trans (walkT_step (T := T) (l.take k) c (l := l) (k := k) (by omega)))
      have HTK := Lib.hid (take_snoc (l := l) (k := k) (by omega))
      rw [HTK.out] at HST
      obtain ⟨nm, hnm⟩ : ∃ nm, nm = l.getD k [] := ⟨_, rfl⟩
      rw [← hnm] at hcc HNL HST
      clear hnm
      have hw62 : IntKind.i64.wrap ((k : Int) + 1) = ((k + 1 : Nat) : Int) := by rw [IntKind.wrap_i64]; omega
      rcases H.out.wf.kin c HLV.out with h1 | h2 | h3
      · obtain ⟨m, -, -, hbx, hdir⟩ := Hr.out.dir HLV.out h1
        have hlook := hdir.look (nm := nm) HNL.out
        have hV : Hid (nodeV T p c = .iface 68 (.pointer (some ⟨p c, 0, none⟩))) := Lib.hid (nodeV_1 h1)
        rw [if_pos h1] at HST
        obtain ⟨l0, l1⟩ := hbx.one
        obtain ⟨b0, c0, c1, c2, f0, f1, f2⟩ := HX7r.out.all3
        obtain ⟨d0, e0, e1, e2, g0, g1, g2⟩ := HX4r.out.all3
        have ta := fun w => ta_hit 68 (.pointer (some ⟨p c, 0, none⟩)) w (.inl rfl)
        rw [hV.out] at c2
        clear hbx hdir
        rcases hch : child T c nm with _ | c'
        · have hM : namesM T p c nm = none := by unfold namesM; rw [hch]; rfl
          rw [hM] at hlook
          rw [hch] at HST
          simp only [mkV, Option.isSome_none] at hlook
          clear hM hch
          go_wp2_with fail
          refine end_ret (v := .tuple #[.agg noPlace, .int .i64 0, .int .i64 7]) (by unfold noPlace; simp [results, Tryz.results84, go_sem, hqw3, hqw4, e0, e1, e2, g0, g1, g2]) ⟨?_, ?_⟩
          · exact below_store3 HBW.out hqw1 _ _ _
          · rw [HST.out]
        · obtain ⟨k0, kl, kin, knm⟩ := child_is H.out.wf hch
          have hM : namesM T p c nm = some (vtx T p c') := by unfold namesM; rw [hch]; rfl
          rw [hM] at hlook
          rw [hch] at HST
          have HP : Hid (placeC T p c' = #[.pointer (some ⟨p c, 0, none⟩), .string (tx nm), nodeV T p c']) := Lib.hid (by rw [placeC_pos k0, kin, knm])
          have HKL := Lib.hid kl
          rw [show mkV (some (vtx T p c')) = nodeV T p c' from rfl] at hlook
          simp only [Option.isSome_some] at hlook
          clear hM hch kl k0 kin knm
          by_cases h3 : (nd T c').kind = 3
          · have hst : r = .link (l.take k) c' (l.drop (k + 1)) := HST.out.trans (if_pos h3)
            have hV' := nodeV_3 (p := p) h3
            have ta' := fun w => ta_hit 112 (.pointer (some ⟨p c', 0, none⟩)) w (.inr (.inr rfl))
            have HQ : Hid (r = .link (l.take k) c' (l.drop (k + 1))) := Lib.hid hst
            rw [hV'] at hlook
            have HV' := Lib.hid hV'
            clear hst h3 hV'
            go_wp2_with fail
            refine end_ret (v := .tuple #[.agg #[.pointer (some ⟨p c, 0, none⟩), .string (tx nm), .iface 112 (.pointer (some ⟨p c', 0, none⟩))], .int .i64 ((k + 1 : Nat) : Int), .int .i64 0]) (by simp [results, Tryz.results84, go_sem, hqw3, hqw4, e0, e1, e2, g0, g1, g2, b0, c0, c1, c2, f0, f1, f2, d0]) ⟨?_, ?_⟩
            · exact below_store3 (below_store3 HBW.out hqw2 _ _ _) hqw1 _ _ _
            · rw [HQ.out]
              show _ = _
              rw [HP.out, HV'.out, List.length_take, Nat.min_eq_left (by omega)]
              rfl
          · have hst : r = walkT T (l.take (k + 1)) c' (l.drop (k + 1)) := HST.out.trans (if_neg h3)
            have hV' : ∃ t, nodeV T p c' = .iface t (.pointer (some ⟨p c', 0, none⟩)) ∧ t ≠ 112 := by
              rcases H.out.wf.kin c' HKL.out with j | j | j
              · exact ⟨_, nodeV_1 j, by decide⟩
              · exact ⟨_, nodeV_2 j, by decide⟩
              · exact absurd j h3
            obtain ⟨t, hV', hne⟩ := hV'
            have ta' := fun w => ta_miss t 112 (.pointer (some ⟨p c', 0, none⟩)) w (.inr (.inr rfl)) hne
            have HQ := Lib.hid hst
            have HK3 := Lib.hid h3
            rw [hV'] at hlook
            rw [hV'] at HP
            clear hst h3 hV' hne
            go_wp2_with fail
            refine ⟨⟨k + 1, c', by omega, by go_num, HKL.out, HK3.out, HQ.out, HX4r.out.other3 hqw3 _ _ _, ?_, below_store3 HBW.out hqw2 _ _ _⟩, by simp [intOf]; omega⟩
            rw [HP.out]
            exact HX7r.out.put3 _ _ _
      · have hV : Hid (nodeV T p c = .iface 73 (.pointer (some ⟨p c, 0, none⟩))) := Lib.hid (nodeV_2 h2)
        rw [if_neg (by omega)] at HST
        obtain ⟨b0, c0, c1, c2, f0, f1, f2⟩ := HX7r.out.all3
        obtain ⟨d0, e0, e1, e2, g0, g1, g2⟩ := HX4r.out.all3
        have ta := fun w => ta_miss 73 68 (.pointer (some ⟨p c, 0, none⟩)) w (.inl rfl) (by decide)
        rw [hV.out] at c2
        go_wp2_with fail
        refine end_ret (v := .tuple #[.agg noPlace, .int .i64 0, .int .i64 15]) (by unfold noPlace; simp [results, Tryz.results84, go_sem, hqw3, hqw4, e0, e1, e2, g0, g1, g2]) ⟨?_, ?_⟩
        · exact below_store3 HBW.out hqw1 _ _ _
        · rw [HST.out]
      · exact absurd h3 hkd
    · obtain rfl : k = n := by omega
      have hki : ¬ (k : Int) < (k : Int) := by omega
      have hst : Hid (r = .stop c) := Lib.hid (by rw [HRr.out, ← hNm, List.drop_length]; rfl)
      obtain ⟨b0, c0, c1, c2, f0, f1, f2⟩ := HX7r.out.all3
      obtain ⟨d0, e0, e1, e2, g0, g1, g2⟩ := HX4r.out.all3
      obtain ⟨a0, hx0⟩ : ∃ x, x = (if c = 0 then none else some (⟨p (nd T c).inn, 0, none⟩ : Addr)) := ⟨_, rfl⟩
      obtain ⟨s1, hx1⟩ : ∃ x, x = tx (nd T c).name := ⟨_, rfl⟩
      obtain ⟨t2, hx2⟩ : ∃ t, nodeV T p c = .iface t (.pointer (some ⟨p c, 0, none⟩)) := ⟨_, rfl⟩
      have HP : Hid (placeC T p c = #[.pointer a0, .string s1, .iface t2 (.pointer (some ⟨p c, 0, none⟩))]) := Lib.hid (by rw [hx0, hx1, ← hx2]; rfl)
      replace c0 : wr.cell? ⟨q7, 0, none⟩ = some (.pointer a0) := by rw [hx0]; exact c0
      replace c1 : wr.cell? ⟨q7, 1, none⟩ = some (.string s1) := by rw [hx1]; exact c1
      replace c2 : wr.cell? ⟨q7, 2, none⟩ = some (.iface t2 (.pointer (some ⟨p c, 0, none⟩))) := by rw [← hx2]; exact c2
      have hNm' := Lib.hid hNm
      clear hx0 hx1 hx2 hNm
      go_wp2_with fail
      refine end_ret (v := .tuple #[.agg #[.pointer a0, .string s1, .iface t2 (.pointer (some ⟨p c, 0, none⟩))], .int .i64 k, .int .i64 0]) (by simp [results, Tryz.results84, go_sem, hqw3, hqw4, e0, e1, e2, g0, g1, g2]) ⟨?_, ?_⟩
      · exact below_store3 HBW.out hqw1 _ _ _
      · rw [hst.out]
        show _ = _
        rw [HP.out, hNm'.out]

end Go.Proofs.YthjpighlcalocaaGreatDoor
