/-
  The walk of PickOrder.
-/
import Derived.Test.YtmcgjkhbljdddaaGlobWords
import Derived.Test.YtmcgjkhbljdddaaStKeep
import Derived.Test.YtmcgjkhbljdddaaIsArg
namespace Go.Proofs.Ytmcgjkhbljdddaa
open Go.RowKit
set_option linter.unusedVariables false
set_option linter.unusedSimpArgs false

/-- the names that lists of numbers draw -/
def nmsG (l : List (List Int)) (k : Nat) : List Byt := (l.take k).map fun z => shG z 8
theorem nms_succ {l : List (List Int)} {k : Nat} {z : List Int} (h : l[k]? = some z) : nmsG l (k + 1) = nmsG l k ++ [shG z 8] := by
  unfold nmsG
  rw [List.take_add_one, h, List.map_append]; rfl
theorem nms_len (l : List (List Int)) (k : Nat) : (nmsG l k).length ≤ k := by unfold nmsG; rw [List.length_map, List.length_take]; omega
theorem nms_short (l : List (List Int)) (k : Nat) : ∀ s ∈ nmsG l k, s.length ≤ 8 := fun s hs => by
  obtain ⟨z, -, rfl⟩ := List.mem_map.1 hs
  exact sh_len z 8
/-- what is picked -/
def pkd (ks : List Nat) (ns : List Byt) : List Byt := ns.filter fun s => mtK ks s
theorem pick_words {ks : List Nat} {ns : List Byt} (h : Few ks) (hl : ks.length ≤ 8) (hn : ns.length ≤ 64) (hs : ∀ s ∈ ns, s.length ≤ 200) : pickT (wordsG ks) ns = .ok (pkd ks ns) := by
  have hw := words_len ks h
  have hp : patT (wordsG ks) = some (ks.map itemG) := by unfold patT; rw [if_neg (by omega)]; exact it_words ks h
  unfold pickT
  rw [hp]
  simp only []
  rw [if_neg (by
    rintro (e | e)
    · omega
    · obtain ⟨s, h1, h2⟩ := List.any_eq_true.1 e
      have := hs s h1
      have := of_decide_eq_true h2
      omega)]
  rfl
theorem pkd_twice (ks : List Nat) (ns : List Byt) : pkd ks (pkd ks ns) = pkd ks ns := by
  unfold pkd; rw [List.filter_filter]; simp
theorem pkd_take (ks : List Nat) {ns : List Byt} {k : Nat} (h : k < ns.length) : pkd ks (ns.take (k + 1)) = pkd ks (ns.take k) ++ (if mtK ks (ns.getD k []) then [ns.getD k []] else []) := filt_take h
theorem pkd_pre (ks : List Nat) (ns : List Byt) (k : Nat) : pkd ks ns = pkd ks (ns.take k) ++ pkd ks (ns.drop k) := by
  unfold pkd; rw [← List.filter_append, List.take_append_drop]

theorem picks_any (p : Byt) (A : Option Addr) (n c : Nat) (l o : List Byt) (w : World) (hb : Ls stS w A l) (hn : l.length = n) (h : pickT p l = .ok o) :
    Calls Try.prog 15 #[.string (tx p), .slice A n c] w fun e w' => Below w.heap.size w w' ∧ ∃ A c, e = .returned (.tuple #[.slice A o.length c, .int .i64 0]) ∧ OwnL stS 9 w' w.heap.size A o.length c o := by
  have := pick_any p A n c l w hb hn
  rw [h] at this
  exact this

set_option maxHeartbeats 4000000 in
theorem walkPickOrder (A : Option Addr) (n c : Nat) (l : List Int) (C : Option Addr) (m d : Nat) (z : List Iw) (w : World)
    (h1 : Ls inS w A l) (h2 : l.length = n) (h3 : n ≤ c) (h4 : c ≤ 17592186043904) (h5 : ∀ x ∈ l, i64in x) (g1 : Ls iwS w C z) (g2 : z.length = m) (g3 : m ≤ d) (g4 : d ≤ 5864062014634) (g5 : IwIn w z) :
    Calls Try.prog 8 #[.slice A n c, .slice C m d] w fun e w' => e = .returned (.bool true) ∧ Below w.heap.size w w' := by
  have HP : Hid (Calls Try.prog 18 #[.slice A n c, .int .i64 6] w fun e w' => e = .returned (.string (tx (patG l 6))) ∧ Below w.heap.size w w') := Lib.hid (pattern_any A n c l 6 w (is_of h1 fun z hz => by have := h5 z hz; exact this) h2 (by omega))
  have hf1 := pk_few l 6
  have hk1 := pk_len l 6
  have HPW : Hid (patG l 6 = wordsG (pkG l 6)) := Lib.hid rfl
  obtain ⟨ks, hks⟩ : ∃ ks, pkG l 6 = ks := ⟨_, rfl⟩
  obtain ⟨P, hP⟩ : ∃ P, patG l 6 = P := ⟨_, rfl⟩
  rw [hks] at hf1 hk1 HPW
  rw [hP] at HP HPW
  have HM : Hid (∀ x : Byt, x.length ≤ 200 → matT P x = (mtK ks x, 0)) := Lib.hid fun x hx => by rw [HPW.out]; exact mat_words hf1 (by omega) hx
  have HPK : Hid (∀ ns : List Byt, ns.length ≤ 64 → (∀ s ∈ ns, s.length ≤ 200) → pickT P ns = .ok (pkd ks ns)) := Lib.hid fun ns h1 h2 => by rw [HPW.out]; exact pick_words hf1 (by omega) h1 h2
  have HZ := Lib.hid g1
  have HZN := Lib.hid g2
  have HZI := Lib.hid g5
  clear hf1 hk1 hks hP h1 h2 h3 h4 h5 g1 g2 g3 g4 g5 HPW
  go_enter Try.func8, Try.ntmps8
  go_wp2_with (go_at_call 18; refine HP.out.mono ?_; rintro e w1 ⟨rfl, hb1⟩; have HB1 := Lib.hid hb1; clear hb1)
  go_loopw [6, 7] (fun v6 v7 wr => ∃ (k : Nat) (B : Option Addr) (e : Nat), v7 = .int .i64 (k : Int) ∧ k ≤ m ∧ k ≤ 30 ∧ v6 = .slice B k e ∧ OwnL stS 9 wr w1.heap.size B k e (nmsG (z.map Iw.l) k) ∧ Below w1.heap.size w1 wr) (fun _ v7 _ => 30 - (intOf v7).toNat)
  case atStart => exact ⟨0, none, 0, rfl, Nat.zero_le _, Nat.zero_le _, rfl, OwnL.nil _ _, Below.refl _ _⟩
  case round =>
    obtain ⟨k, B, e, rfl, hk, hk30, rfl, how, hbw⟩ := hrel
    have HOW := Lib.hid how
    have HBW := Lib.hid hbw
    clear how hbw
    by_cases hlt : k < m ∧ k < 30
    · obtain ⟨q1, q2⟩ := hlt
      have q1i : (k : Int) < (m : Int) := by omega
      have q2i : (k : Int) < 30 := by omega
      obtain ⟨x, hx⟩ : ∃ x, z[k]? = some x := ⟨_, List.getElem?_eq_getElem (by rw [HZN.out]; exact q1)⟩
      obtain ⟨bb, oo, rfl, hbl, hcc⟩ := ((HZ.out.below HB1.out).below HBW.out).at k x hx
      have hc := hcc 0 (.slice x.A x.n x.c) rfl
      simp only [iwS, Nat.mul_one, Nat.add_zero] at hc
      have hxi := HZI.out x (List.mem_of_getElem? hx)
      have HS : Hid (Calls Try.prog 19 #[.slice x.A x.n x.c, .int .i64 8] wr fun e w' => e = .returned (.string (tx (shG x.l 8))) ∧ Below wr.heap.size wr w') := Lib.hid (short_any x.A x.n x.c x.l 8 wr ((hxi.1.below HB1.out).below HBW.out) hxi.2.1 (by omega))
      have HNS : Hid (nmsG (z.map Iw.l) (k + 1) = nmsG (z.map Iw.l) k ++ [shG x.l 8]) := Lib.hid (nms_succ (by rw [List.getElem?_map, hx]; rfl))
      obtain ⟨y, hy⟩ : ∃ y, shG x.l 8 = y := ⟨_, rfl⟩
      rw [hy] at HS HNS
      obtain ⟨F, hF⟩ : ∃ F, nmsG (z.map Iw.l) k = F := ⟨_, rfl⟩
      rw [hF] at HOW HNS
      clear hcc hx hxi hy hF
      go_wp2_with (first
        | (go_at_call 19; refine HS.out.mono ?_; rintro e w5 ⟨rfl, hb5⟩; have HB5 := Lib.hid (bthen HBW.out hb5); have HO5 := Lib.hid (HOW.out.below hb5); clear hb5)
        | (at_builtin; refine wpList_appL (F := stS) rfl _ (.tmp 26) (.tmp 32) 27 rfl _ 16 Try.underlying27 stInfo rfl w1.heap.size B k e F rfl (HO5.out.below (ba1 _ _)) (some ⟨w5.heap.size, 0, none⟩) 1 1 [y] rfl (ls_new w5 _ _ _ rfl _ rfl) rfl (k + 1) rfl (by omega) (by omega) (by have := HB5.out.size; simp; omega) ?_; intro A8 c8 w9 ho8 hb8 _; have HO8 := Lib.hid ho8; have HB9 : Hid (Below w1.heap.size w1 w9) := Lib.hid ((HB5.out.alloc HB5.out.size _).trans hb8); clear ho8 hb8))
      go_roundw
      case rel => exact ⟨k + 1, A8, c8, by simp, by omega, by omega, rfl, by rw [HNS.out]; exact HO8.out, HB9.out⟩
      case measure => first | (simp [intOf]; done) | (simp [intOf]; omega)
    · obtain ⟨wo, rfl⟩ : ∃ wo, wo = wr := ⟨_, rfl⟩
      have hway : ¬ (k : Int) < (m : Int) ∨ ((k : Int) < (m : Int) ∧ ¬ (k : Int) < 30) := by omega
      have hsh := nms_short (z.map Iw.l) k
      obtain ⟨ns, hns⟩ : ∃ ns, nmsG (z.map Iw.l) k = ns := ⟨_, rfl⟩
      rw [hns] at HOW hsh
      have HNL := Lib.hid HOW.out.1
      have HSH := Lib.hid hsh
      have hp1 := HPK.out ns (by rw [HNL.out]; omega) (fun s hs => by have := hsh s hs; omega)
      have hgl : (pkd ks ns).length ≤ 30 := by
        have := (List.filter_sublist (p := fun s => mtK ks s) (l := ns)).length_le
        rw [HNL.out] at this
        unfold pkd; omega
      have hp2 := HPK.out (pkd ks ns) (by omega) (fun s hs => by have := hsh s ((List.mem_filter.1 hs).1); omega)
      rw [pkd_twice] at hp2
      obtain ⟨G, hG⟩ : ∃ G, pkd ks ns = G := ⟨_, rfl⟩
      rw [hG] at hp1 hp2 hgl
      obtain ⟨gl, hgl'⟩ : ∃ gl, G.length = gl := ⟨_, rfl⟩
      have HGL := Lib.hid hgl'
      have HG := Lib.hid hG
      have H1 : Hid (Calls Try.prog 15 #[.string (tx P), .slice B k e] wo fun e w' => Below wo.heap.size wo w' ∧ ∃ A c, e = .returned (.tuple #[.slice A gl c, .int .i64 0]) ∧ OwnL stS 9 w' wo.heap.size A gl c G) := Lib.hid (by
        have := picks_any P B k e ns G wo HOW.out.ls HNL.out hp1
        rw [hgl'] at this; exact this)
      have H2 : Hid (∀ (A : Option Addr) (c : Nat) ww, Ls stS ww A G → Calls Try.prog 15 #[.string (tx P), .slice A gl c] ww fun e w' => Below ww.heap.size ww w' ∧ ∃ A c, e = .returned (.tuple #[.slice A gl c, .int .i64 0]) ∧ OwnL stS 9 w' ww.heap.size A gl c G) := Lib.hid (fun A c ww h => by
        have := picks_any P A gl c G G ww h hgl' hp2
        rw [hgl'] at this; exact this)
      have HA : Hid (∀ ww, Calls Try.prog 20 #[.string ⟨#[97]⟩, .string ⟨#[97]⟩] ww fun e w' => e = .returned (.bool true) ∧ Below ww.heap.size ww w') := Lib.hid (fun ww => matK_any [97] [97] true ww matA)
      rw [hgl'] at hgl
      clear hp1 hp2 hG hgl' hns hsh hlt
      have HBC : Hid (Below w.heap.size w wo) := Lib.hid (bthen HB1.out HBW.out)
      rcases hway with q1 | ⟨q1, q2⟩ <;>
      · go_wp2_with (first
          | (go_at_call 15; (with_reducible refine H1.out.mono ?_); rintro e w3 ⟨hb3, A3, c3, rfl, ho3⟩; have HB3 := Lib.hid hb3; have HO3 := Lib.hid ho3; clear hb3 ho3)
          | (go_at_call 15; (with_reducible refine (H2.out A3 c3 w3 HO3.out.ls).mono ?_); rintro e w4 ⟨hb4, A4, c4, rfl, ho4⟩; have HB4 := Lib.hid (bthen HB3.out hb4); have HO34 := Lib.hid (HO3.out.below hb4); have HO4 := Lib.hid ho4; clear hb4 ho4)
          | (go_at_call 21; refine (texts_keep A3 gl c3 A4 c4 G w4 HO34.out.ls HO4.out.ls HGL.out (by omega)).mono ?_; rintro e w5 ⟨rfl, hb5⟩; have HB5 := Lib.hid (bthen HB4.out hb5); have HO35 := Lib.hid (HO34.out.below hb5); clear hb5)
          | (go_at_call 20; (with_reducible refine (HA.out _).mono ?_); rintro e w6 ⟨rfl, hb6⟩; have HB6 := Lib.hid (bthen HB5.out hb6); have HO36 := Lib.hid (HO35.out.below hb6); clear hb6))
        have HOW6 := Lib.hid (HOW.out.below HB6.out)
        have HBW6 := Lib.hid (bthen HBC.out HB6.out)
        go_loopw [12, 13] (fun v12 v13 wx => ∃ (i q : Nat), v13 = .int .i64 (i : Int) ∧ i ≤ k ∧ v12 = .int .i64 (q : Int) ∧ q = (pkd ks (ns.take i)).length ∧ Below w6.heap.size w6 wx) (fun _ v13 _ => k - (intOf v13).toNat)
        case atStart => exact ⟨0, 0, rfl, Nat.zero_le _, rfl, rfl, Below.refl _ _⟩
        case round =>
          obtain ⟨i, q, rfl, hik, rfl, hq, hbx⟩ := hrel
          have HBX := Lib.hid hbx
          have HQ := Lib.hid hq
          clear hbx hq
          by_cases hlt2 : i < k
          · have hli : (i : Int) < (k : Int) := by omega
            have i0 : (0 : Int) ≤ (i : Int) := by omega
            obtain ⟨b1, o1, rfl, hbl1, hc1⟩ := (HOW6.out.below HBX.out).ls.text i (by rw [HNL.out]; exact hlt2)
            have HTK := Lib.hid (pkd_take ks (ns := ns) (k := i) (by rw [HNL.out]; exact hlt2))
            have HPRE := Lib.hid (pkd_pre ks ns (i + 1))
            have hxl := HSH.out _ (getD_mem (l := ns) (k := i) (by rw [HNL.out]; exact hlt2))
            obtain ⟨x, hx⟩ : ∃ x, ns.getD i [] = x := ⟨_, rfl⟩
            rw [hx] at hc1 HTK hxl
            have HX := Lib.hid (fun ww => matK_any P x _ ww (HM.out x (by omega)))
            obtain ⟨v, hv⟩ : ∃ v, mtK ks x = v := ⟨_, rfl⟩
            rw [hv] at HX HTK
            clear hx hv
            cases v
            · go_wp2_with (go_at_call 20; (with_reducible refine (HX.out _).mono ?_); rintro e w8 ⟨rfl, hb8⟩; have HB8 := Lib.hid (bthen HBX.out hb8); clear hb8)
              go_roundw
              case rel => exact ⟨i + 1, q, by simp, by omega, rfl, by rw [HTK.out, HQ.out]; simp, HB8.out⟩
              case measure => first | (simp [intOf]; done) | (simp [intOf]; omega)
            · have hql : q < gl := by
                have e := congrArg List.length HPRE.out
                rw [HG.out, HGL.out, HTK.out] at e
                simp only [if_true, List.length_append, List.length_singleton] at e
                have := HQ.out
                omega
              have hgq : G.getD q [] = x := by
                rw [← HG.out, HPRE.out, HTK.out, List.getD_eq_getElem?_getD, HQ.out]
                simp only [if_true, List.append_assoc, List.singleton_append]
                rw [List.getElem?_append_right (Nat.le_refl _), Nat.sub_self]
                rfl
              have HGQ := Lib.hid hgq
              have HQ2 : Hid (q + 1 = (pkd ks (ns.take (i + 1))).length) := Lib.hid (by rw [HTK.out, HQ.out]; simp)
              have hqli : (q : Int) < (gl : Int) := by omega
              have hqn : ¬ (gl : Int) ≤ (q : Int) := by omega
              have q0 : (0 : Int) ≤ (q : Int) := by omega
              have wq : IntKind.i64.wrap ((q : Int) + 1) = (q : Int) + 1 := by rw [IntKind.wrap_i64]; omega
              have hneq : ∀ ww : World, (binOp .neq 9 (.string (tx x)) (.string (tx x))).run Try.prog ww = .ok (.bool false) ww := fun ww => by simp [go_sem]
              clear hgq
              go_upto_region 16 with (go_at_call 20; (with_reducible refine (HX.out _).mono ?_); rintro e w8 ⟨rfl, hb8⟩; have hc8 := (hb8.cell (p := ⟨b1, o1 + i, none⟩) hbl1).trans hc1; have HB8 := Lib.hid (bthen HBX.out hb8); clear hb8)
              obtain ⟨b2, o2, rfl, hbl2, hc2⟩ := (HO36.out.below HB8.out).ls.text q (by rw [HGL.out]; exact hql)
              rw [HGQ.out] at hc2
              go_quiet (fail)
              go_wp2_with fail
              go_roundw
              case rel => exact ⟨i + 1, q + 1, by simp, by omega, by simp, HQ2.out, below_drewN HB8.out _⟩
              case measure => first | (simp [intOf]; done) | (simp [intOf]; omega)
          · have hli : ¬ (i : Int) < (k : Int) := by omega
            have hqe : q = gl := by
              have e : ns.take i = ns := List.take_of_length_le (by rw [HNL.out]; omega)
              have := HQ.out
              rw [e, HG.out, HGL.out] at this
              exact this
            subst hqe
            go_wp2
            go_ret
            exact ⟨by first | rfl | simp, bthen HBW6.out HBX.out⟩
end Go.Proofs.Ytmcgjkhbljdddaa
