/-
  The walk of RecvAll.
-/
import Derived.Test.YtehckiihipnimaaRecvAllMath
import Derived.Test.YtehckiihipnimaaPutAr
import Derived.Test.YtehckiihipnimaaHearer
import Derived.BigQuiet
import Derived.BigRegion
import Derived.Deep.DeepCutAuto
namespace Go.Proofs.Ytehckiihipnimaa
open Go.RowKit
set_option linter.unusedVariables false
set_option linter.unusedSimpArgs false

/-- the arrivals laid so far -/
def AllL (w1 : World) (S : List Int) (s0 : Hr) (rd K f na : Nat) (A : Option Addr) (c : Nat) (xs : List Av) (wr : World) : Prop :=
  OwnL arS 61 wr w1.heap.size A na c xs ∧ AEI wr (fun j => (Value.slice A na c).ownBlock = some j) xs ∧ (∀ x ∈ xs, Tame8 S true x.a) ∧ AllI S rd K f (hrs s0 (xs.map Av.a)) ∧
    ((rd = 0 ∧ f = 0) ∨ ∃ l, xs.map Av.a = l ++ [takeAll]) ∧ na ≤ 60 + 800 * rd + 2 * f ∧ Below w1.heap.size w1 wr
/-- ahead of a round -/
def AllO (w1 : World) (S : List Int) (s0 : Hr) (as_ kv rv : Value) (wr : World) : Prop :=
  ∃ (rd K na : Nat) (A : Option Addr) (c : Nat) (xs : List Av), rd ≤ 2 ∧ rv = .int .i64 rd ∧ kv = .int .i64 K ∧ as_ = .slice A na c ∧ 1 ≤ K ∧ K ≤ 64 ∧
    OwnL arS 61 wr w1.heap.size A na c xs ∧ AEI wr (fun j => (Value.slice A na c).ownBlock = some j) xs ∧ (∀ x ∈ xs, Tame8 S true x.a) ∧
    (rd < 2 → AllI S rd K 0 (hrs s0 (xs.map Av.a))) ∧ (rd = 2 → Done8 S (hrs s0 (xs.map Av.a))) ∧ (rd = 0 ∨ ∃ l, xs.map Av.a = l ++ [takeAll]) ∧ na ≤ 60 + 800 * rd ∧ Below w1.heap.size w1 wr
/-- in a round -/
def AllN (w1 : World) (S : List Int) (s0 : Hr) (rd : Nat) (as_ kv fv : Value) (wr : World) : Prop :=
  ∃ (K f na : Nat) (A : Option Addr) (c : Nat) (xs : List Av), f ≤ S.length + 64 ∧ fv = .int .i64 f ∧ kv = .int .i64 K ∧ as_ = .slice A na c ∧ 1 ≤ K ∧ K ≤ 64 ∧ AllL w1 S s0 rd K f na A c xs wr

/-- what was taken so far -/
def GotI (w3 : World) (S : List Int) (s0 : Hr) (L : List Ar) (na sz : Nat) (got iv : Value) (wr : World) : Prop :=
  ∃ (i T : Nat) (Ag : Option Addr) (cg : Nat), i ≤ na ∧ iv = .int .i64 i ∧ (hrs s0 (L.take i)).taken = (T : Int) ∧ T ≤ sz ∧ got = .slice Ag T cg ∧ OwnL byS 5 wr w3.heap.size Ag T cg (S.take T) ∧ Below w3.heap.size w3 wr

set_option maxRecDepth 100000 in
set_option maxHeartbeats 8000000 in
theorem walkRecvAll (room seed size : Int) (A : Option Addr) (n c : Nat) (l : List Int) (piece : Int) (w : World) (r1 : -9223372036854775808 ≤ room) (r2 : room ≤ 9223372036854775807) (s1 : -9223372036854775808 ≤ seed) (s2 : seed ≤ 9223372036854775807) (z1 : -9223372036854775808 ≤ size) (z2 : size ≤ 9223372036854775807)
    (hb : Ls inS w A l) (hn : l.length = n) (hc : n ≤ c) (hr : c ≤ 17592186043904) (hi : ∀ z ∈ l, i64in z) (h1 : -9223372036854775808 ≤ piece) (h2 : piece ≤ 9223372036854775807) :
    Calls Try.prog 9 #[.int .i64 room, .int .i64 seed, .int .i64 size, .slice A n c, .int .i64 piece] w fun e w' => e = .returned (.bool true) ∧ Below w.heap.size w w' := by
  have HL := Lib.hid hb
  have HN := Lib.hid hn
  have HI := Lib.hid hi
  obtain ⟨rm, hrm, hrm2⟩ := pick_nat room 300 (by omega)
  obtain ⟨sz, hsz, hsz2⟩ := pick_nat size 300 (by omega)
  obtain ⟨pc, hpc, hpc2⟩ := pick_nat piece 64 (by omega)
  obtain ⟨rr, hrr⟩ : ∃ q : Nat, 70 + rm = q := ⟨_, rfl⟩
  have er : IntKind.i64.wrap (70 + (rm : Int)) = (rr : Int) := by rw [IntKind.wrap_i64]; omega
  have hrrb : 70 ≤ rr ∧ rr ≤ 369 := by omega
  obtain ⟨K0, hK0⟩ : ∃ q : Nat, 1 + pc = q := ⟨_, rfl⟩
  have eK : IntKind.i64.wrap (1 + (pc : Int)) = (K0 : Int) := by rw [IntKind.wrap_i64]; omega
  have hKb : 1 ≤ K0 ∧ K0 ≤ 64 := by omega
  clear hb hn hi hrr hK0
  go_enter Try.func9, Try.ntmps9
  go_upto_region 6 with (first
    | (go_at_call 20; (with_reducible refine (picked_n room 300 rm _ hrm r1 r2 (by omega) (by omega)).mono ?_); rintro e w' ⟨rfl, rfl⟩)
    | (go_at_call 20; (with_reducible refine (picked_n size 300 sz _ hsz z1 z2 (by omega) (by omega)).mono ?_); rintro e w' ⟨rfl, rfl⟩)
    | (go_at_call 20; (with_reducible refine (picked_n piece 64 pc _ hpc h1 h2 (by omega) (by omega)).mono ?_); rintro e w' ⟨rfl, rfl⟩)
    | (go_at_call 28; (refine (stream_any seed sz w s1 s2 (by omega)).mono ?_); rintro e w1 ⟨A1, c1, S, rfl, ho1, hz1, hb1⟩; have HO1 := Lib.hid ho1; have HZ1 := Lib.hid hz1; have HB1 := Lib.hid hb1; clear ho1 hz1 hb1)
    | (go_at_call 29; (refine (arrivals_any A n c 60 l w1 (HL.out.below HB1.out) HN.out HI.out (by omega) (by omega) A1 sz c1 S HO1.out.ls HO1.out.1 (by omega) HO1.out.cap (HO1.out.addr.imp id (fun ⟨g, h, _⟩ => ⟨g, h⟩)) HZ1.out true).mono ?_); rintro e w2 ⟨kn, A2, c2, xs0, rfl, hk2, ho2, he2, ht2, hb2⟩; have HO2 := Lib.hid ho2; have HE2 := Lib.hid he2; have HT2 := Lib.hid ht2; have HB2 := Lib.hid hb2; clear ho2 he2 ht2 hb2))
  have HSL : Hid (S.length = sz) := Lib.hid HO1.out.1
  obtain ⟨s0, hs0⟩ : ∃ s, s = hr0 (rr : Int) := ⟨_, rfl⟩
  have HRT : Hid (RT S true s0) := Lib.hid (by rw [hs0]; exact rt_start S true (by omega) (by omega))
  have HRR : Hid (s0.room = rr ∧ s0.taken = 0) := Lib.hid (by rw [hs0]; exact ⟨rfl, rfl⟩)
  have HS0 := Lib.hid hs0
  have hcap := HO1.out.cap
  have haddr := HO1.out.addr
  clear hs0
  go_loopw [13, 14, 15] (fun as_ kv rv wr => AllO w1 S s0 as_ kv rv wr) (fun _ _ i _ => 2 - (intOf i).toNat)
  case atStart =>
    exact ⟨0, K0, kn, A2, c2, xs0, by omega, rfl, rfl, rfl, hKb.1, hKb.2, HO2.out, HE2.out, HT2.out, (fun _ => all_first (rt_hrs (by rw [HSL.out]; omega) _ HRT.out (fun a ha => by obtain ⟨x, hx, rfl⟩ := List.mem_map.1 ha; exact HT2.out x hx)).1 hKb.1 hKb.2), (fun g => by omega), .inl rfl, by omega, HB2.out⟩
  case round =>
    obtain ⟨rd, K, na, A3, c3, xs, hrd, rfl, rfl, rfl, hK1, hK2, hown, hei, hta, hi1, hi2, hlast, hna, hbw⟩ := hrel
    have HOW := Lib.hid hown
    have HEI := Lib.hid hei
    have HTA := Lib.hid hta
    have HI1 := Lib.hid hi1
    have HI2 := Lib.hid hi2
    have HLA := Lib.hid hlast
    have HBW := Lib.hid hbw
    clear hown hei hta hi1 hi2 hlast hbw
    by_cases hlt : rd < 2
    · have hki : (rd : Int) < 2 := by omega
      have hwi : IntKind.i64.wrap ((rd : Int) + 1) = ((rd + 1 : Nat) : Int) := by rw [IntKind.wrap_i64]; omega
      go_wp2_with fail
      go_loopw [13, 14, 16] (fun as_ kv fv wr => AllN w1 S s0 rd as_ kv fv wr) (fun _ _ i _ => sz + 1 - (intOf i).toNat)
      case atStart =>
        exact ⟨K, 0, na, A3, c3, xs, by omega, rfl, rfl, rfl, hK1, hK2, HOW.out, HEI.out, HTA.out, HI1.out hlt, HLA.out.imp (fun g => ⟨g, rfl⟩) id, by omega, HBW.out⟩
      case round =>
        obtain ⟨K', f, nb, A4, c4, ys, hf, rfl, rfl, rfl, hL1, hL2, hown, hei, hta, hai, hlast, hnb, hbw⟩ := hrel
        have HOX := Lib.hid hown
        have HEX := Lib.hid hei
        have HTX := Lib.hid hta
        have HAI := Lib.hid hai
        have HLX := Lib.hid hlast
        have HBX := Lib.hid hbw
        rw [HSL.out] at hf
        clear hown hei hta hai hlast hbw
        by_cases hlf : f ≤ sz
        · have hkf : (f : Int) ≤ (sz : Int) := by omega
          obtain ⟨u, hu⟩ : ∃ u : Nat, f + K' = u := ⟨_, rfl⟩
          have eu : IntKind.i64.wrap ((f : Int) + (K' : Int)) = (u : Int) := by rw [IntKind.wrap_i64]; omega
          have e64 : IntKind.i64.wrap ((f : Int) + 64) = ((f + 64 : Nat) : Int) := by rw [IntKind.wrap_i64]; omega
          obtain ⟨t, ht⟩ : ∃ t : Nat, t = min u sz := ⟨_, rfl⟩
          have hft : f ≤ t ∧ t ≤ sz ∧ t ≤ f + 64 := by omega
          have hmin : ((u : Int) ≤ (sz : Int) ∧ t = u) ∨ ((sz : Int) < (u : Int) ∧ t = sz) := by omega
          have HMIN := Lib.hid hmin
          have HT := Lib.hid ht
          have HU := Lib.hid hu
          clear ht hmin hu
          go_upto_region 11 with fail
          go_cut [17] (fun v wx => v = .int .i64 t ∧ wr = wx)
          case first =>
            rcases HMIN.out with ⟨g1, rfl⟩ | ⟨g1, rfl⟩
            all_goals
              go_wp2_with fail
            all_goals
              go_meet
            all_goals
              exact ⟨rfl, rfl⟩
          case rest =>
            obtain ⟨rfl, hwx⟩ := hcut
            subst hwx
            obtain ⟨h1', h2', h3'⟩ := hft
            obtain ⟨fin, hfin⟩ : ∃ fin, fin = decide (t = S.length) := ⟨_, rfl⟩
            obtain ⟨D, hD⟩ : ∃ D, D = (S.drop f).take (t - f) := ⟨_, rfl⟩
            have hDl : D.length = t - f := by rw [hD, List.length_take, List.length_drop, HSL.out]; omega
            have hcs : (t = sz ∧ fin = true) ∨ (¬ t = sz ∧ fin = false) := by
              rw [HSL.out] at hfin
              by_cases g1 : t = sz
              · exact .inl ⟨g1, by simpa [g1] using hfin⟩
              · exact .inr ⟨g1, by simpa [g1] using hfin⟩
            have HFN := Lib.hid hfin
            have HD := Lib.hid hD
            have HDL := Lib.hid hDl
            have HDB : Hid (∀ z ∈ D, 0 ≤ z ∧ z ≤ 255) := Lib.hid (fun z hz => HZ1.out z (List.mem_of_mem_drop (List.mem_of_mem_take (hD ▸ hz))))
            have v1 : (0 : Int) ≤ (f : Int) := by omega
            have v2 : (f : Int) ≤ (t : Int) := by omega
            have v3 : (t : Int) ≤ (c1 : Int) := by omega
            have v4 : ((f : Int)).toNat = f := by omega
            have v5 : ((t : Int)).toNat = t := by omega
            have hLSr : Ls byS wr A1 S := HO1.out.ls.below HBX.out
            have hsrc : ∃ SB dB, (A1 = none ∧ f = 0 ∧ t = 0 ∧ SB = none ∧ dB = 0 ∧ c1 = 0 ∧ sz = 0 ∨ ∃ g, A1 = some ⟨g, 0, none⟩ ∧ SB = (if c1 = f then some (⟨g, 0, none⟩ : Addr) else some ⟨g, f, none⟩) ∧ dB = c1 - f) ∧ Ls byS wr SB D := by
              rcases haddr with ⟨a1, a2, a3⟩ | ⟨g, a1, -⟩
              · refine ⟨none, 0, .inl ⟨a1, by omega, by omega, rfl, rfl, a3, a2⟩, ?_⟩
                have : D = [] := List.eq_nil_of_length_eq_zero (by omega)
                rw [this]; exact Ls.nil _ _
              · refine ⟨_, _, .inr ⟨g, a1, rfl, rfl⟩, ?_⟩
                by_cases hc : c1 = f
                · have : D = [] := List.eq_nil_of_length_eq_zero (by omega)
                  rw [this]; exact Ls.nil _ _
                · rw [if_neg hc, hD]
                  rw [a1] at hLSr
                  have := (hLSr.drop1 rfl f).take (t - f)
                  rw [Nat.zero_add] at this
                  exact this
            obtain ⟨SB, dB, hsb, hlsb⟩ := hsrc
            have HLSB := Lib.hid hlsb
            clear hfin hD hDl hLSr hlsb
            have HFI : Hid (∀ (A8 : Option Addr) (c8 : Nat) (A7 : Option Addr) (c7 : Nat) (w7 w8 : World) (kk : Nat), OwnL byS 5 w7 wr.heap.size A7 (t - f) c7 D → Below wr.heap.size wr w7 → OwnL arS 61 w8 w1.heap.size A8 (nb + 2) c8 (ys ++ [⟨⟨1, f, D, fin, 0⟩, A7, t - f, c7⟩, ⟨⟨2, 0, [], false, 4096⟩, none, 0, 0⟩]) →
                Below w1.heap.size (w7.alloc (.cells #[.int .i64 1, .int .i64 f, .slice A7 ((t - f : Nat) : Nat) c7, .bool fin, .int .i64 0, .int .i64 2, .int .i64 0, .slice none 0 0, .bool false, .int .i64 4096] 61)) w8 → Beside (.slice A4 nb c4) (.slice A8 (nb + 2) c8) (w7.alloc (.cells #[.int .i64 1, .int .i64 f, .slice A7 ((t - f : Nat) : Nat) c7, .bool fin, .int .i64 0, .int .i64 2, .int .i64 0, .slice none 0 0, .bool false, .int .i64 4096] 61)) w8 →
                (kk = K' ∨ kk = 64) → AllN w1 S s0 rd (.slice A8 (nb + 2) c8) (.int .i64 kk) (.int .i64 ((f + kk : Nat) : Int)) w8) := Lib.hid (fun A8 c8 A7 c7 w7 w8 kk h7 hb7 h8 hb8 hs8 hkk => by
              have hrow : ∀ j, (Value.slice A4 nb c4).ownBlock = some j → j < wr.heap.size := fun j hj => (HOX.out.lt j hj).2
              have hmp : (ys ++ [(⟨⟨1, f, D, fin, 0⟩, A7, t - f, c7⟩ : Av), ⟨⟨2, 0, [], false, 4096⟩, none, 0, 0⟩]).map Av.a = ys.map Av.a ++ [piece8 S f t] ++ [takeAll] := by
                simp [piece8, takeAll, HD.out, HFN.out]
              have hta2 : ∀ a ∈ ys.map Av.a, Tame8 S true a := fun a ha => by obtain ⟨x, hx, rfl⟩ := List.mem_map.1 ha; exact HTX.out x hx
              have hrt := rt_hrs (by rw [HSL.out]; omega) _ HRT.out hta2
              refine ⟨kk, f + kk, nb + 2, A8, c8, _, by rw [HSL.out]; omega, rfl, rfl, rfl, by omega, by omega, h8, ?_, ?_, ?_, .inr ⟨_, hmp⟩, by omega, ((HBX.out.trans (hb7.mono HBX.out.size)).trans ((ba1 w7 _).mono (by have := HBX.out.size; have := hb7.size; omega))).trans hb8⟩
              · rw [show ys ++ [(⟨⟨1, f, D, fin, 0⟩, A7, t - f, c7⟩ : Av), ⟨⟨2, 0, [], false, 4096⟩, none, 0, 0⟩] = ys ++ [⟨⟨1, f, D, fin, 0⟩, A7, t - f, c7⟩] ++ [⟨⟨2, 0, [], false, 4096⟩, none, 0, 0⟩] by simp]
                exact AEI.only ((((HEX.out.new hb7).app ⟨h7.ls, HDL.out, by simp only; omega, HDB.out, clear_of_own h7.2 (fun j hj => hj.imp (fun g => hrow j g) id)⟩).app ⟨Ls.nil _ _, rfl, by simp, by simp, Clear.none _⟩).new (ba1 _ _)) (hs8.only hb8) (fun j hj => .inl hj) (fun j hj => hs8.own j hj)
              · intro y hy
                have hy2 : y.a ∈ ys.map Av.a ++ [piece8 S f t] ++ [takeAll] := by rw [← hmp]; exact List.mem_map_of_mem hy
                rcases List.mem_append.1 hy2 with hy2 | hy2
                · rcases List.mem_append.1 hy2 with hy2 | hy2
                  · exact hta2 _ hy2
                  · rw [List.mem_singleton.1 hy2]; exact piece_tame S f t h1' (by rw [HSL.out]; exact h2') h3'
                · rw [List.mem_singleton.1 hy2]; exact takeAll_tame S true
              · rw [hmp, hrs_app, hrs_app]
                exact all_step HAI.out hrt.1 (by rw [HSL.out]; omega) (by rw [hrt.2, HRR.out.1]; omega) hlt (by rw [HSL.out]; exact hlf) t kk (by rw [HSL.out, HU.out]; exact HT.out) hkk)
            have hcm : ((290 : Int) < (nb : Int) + 2) ∨ ¬ ((290 : Int) < (nb : Int) + 2) := Decidable.em _
            rcases hsb with ⟨rfl, rfl, rfl, rfl, rfl, rfl, rfl⟩ | ⟨gB, rfl, hSB, rfl⟩
            · obtain rfl : u = K' := by have := HU.out; omega
              rcases hcs with ⟨-, rfl⟩ | ⟨g1, -⟩
              · rcases hcm with hq | hq
                · go_wp2_with (first
                    | (at_builtin; refine wpList_appL (F := byS) rfl _ (.const (.slice none 0 0)) (.tmp 58) 27 rfl _ 1 Try.underlying27 byInfo rfl wr.heap.size none 0 0 [] rfl (OwnL.nil _ _) none 0 0 D rfl HLSB.out HDL.out 0 (by omega) (by omega) (by omega) (Nat.le_refl _) ?_; intro A7 c7 w7 ho7 hb7 _; rw [List.nil_append] at ho7; have HO7 := Lib.hid ho7; have HB7 := Lib.hid hb7; clear ho7 hb7)
                    | (at_builtin; refine wpList_appL (F := arS) rfl _ (.tmp 53) (.tmp 66) 47 rfl _ 56 Try.underlying47 arInfo rfl w1.heap.size A4 nb c4 ys rfl ((HOX.out.below HB7.out).below (ba1 _ _)) (some ⟨w7.heap.size, 0, none⟩) 2 2 [⟨⟨1, 0, D, true, 0⟩, A7, 0, c7⟩, ⟨⟨2, 0, [], false, 4096⟩, none, 0, 0⟩] rfl (ls_new w7 _ _ _ rfl _ rfl) rfl (nb + 2) rfl (by omega) (by omega) (by have := HBX.out.size; have := HB7.out.size; simp; omega) ?_; intro A8 c8 w8 ho8 hb8 hs8; have HO8 := Lib.hid ho8; have HB8 := Lib.hid hb8; have HS8 := Lib.hid hs8; clear ho8 hb8 hs8))
                  have hfi := HFI.out A8 c8 A7 c7 w7 w8 64 HO7.out HB7.out HO8.out HB8.out HS8.out (.inr rfl)
                  rw [Nat.zero_add] at hfi
                  exact ⟨⟨_, _, _, hfi, rfl, rfl, rfl⟩, by simp [intOf]⟩
                · go_wp2_with (first
                    | (at_builtin; refine wpList_appL (F := byS) rfl _ (.const (.slice none 0 0)) (.tmp 58) 27 rfl _ 1 Try.underlying27 byInfo rfl wr.heap.size none 0 0 [] rfl (OwnL.nil _ _) none 0 0 D rfl HLSB.out HDL.out 0 (by omega) (by omega) (by omega) (Nat.le_refl _) ?_; intro A7 c7 w7 ho7 hb7 _; rw [List.nil_append] at ho7; have HO7 := Lib.hid ho7; have HB7 := Lib.hid hb7; clear ho7 hb7)
                    | (at_builtin; refine wpList_appL (F := arS) rfl _ (.tmp 53) (.tmp 66) 47 rfl _ 56 Try.underlying47 arInfo rfl w1.heap.size A4 nb c4 ys rfl ((HOX.out.below HB7.out).below (ba1 _ _)) (some ⟨w7.heap.size, 0, none⟩) 2 2 [⟨⟨1, 0, D, true, 0⟩, A7, 0, c7⟩, ⟨⟨2, 0, [], false, 4096⟩, none, 0, 0⟩] rfl (ls_new w7 _ _ _ rfl _ rfl) rfl (nb + 2) rfl (by omega) (by omega) (by have := HBX.out.size; have := HB7.out.size; simp; omega) ?_; intro A8 c8 w8 ho8 hb8 hs8; have HO8 := Lib.hid ho8; have HB8 := Lib.hid hb8; have HS8 := Lib.hid hs8; clear ho8 hb8 hs8))
                  have hfi := HFI.out A8 c8 A7 c7 w7 w8 u HO7.out HB7.out HO8.out HB8.out HS8.out (.inl rfl)
                  rw [Nat.zero_add] at hfi
                  exact ⟨⟨_, _, _, hfi, rfl, rfl, rfl⟩, by simp [intOf]; omega⟩
              · exact absurd rfl g1
            · have zD := hSB.symm
              clear hSB
              rcases hcs with ⟨rfl, rfl⟩ | ⟨g1, rfl⟩
              · rcases hcm with hq | hq
                · go_wp2_with (first
                    | (at_builtin; refine wpList_appL (F := byS) rfl _ (.const (.slice none 0 0)) (.tmp 58) 27 rfl _ 1 Try.underlying27 byInfo rfl wr.heap.size none 0 0 [] rfl (OwnL.nil _ _) SB (t - f) (c1 - f) D rfl HLSB.out HDL.out (t - f) (by omega) (by omega) (by omega) (Nat.le_refl _) ?_; intro A7 c7 w7 ho7 hb7 _; rw [List.nil_append] at ho7; have HO7 := Lib.hid ho7; have HB7 := Lib.hid hb7; clear ho7 hb7)
                    | (at_builtin; refine wpList_appL (F := arS) rfl _ (.tmp 53) (.tmp 66) 47 rfl _ 56 Try.underlying47 arInfo rfl w1.heap.size A4 nb c4 ys rfl ((HOX.out.below HB7.out).below (ba1 _ _)) (some ⟨w7.heap.size, 0, none⟩) 2 2 [⟨⟨1, f, D, true, 0⟩, A7, t - f, c7⟩, ⟨⟨2, 0, [], false, 4096⟩, none, 0, 0⟩] rfl (ls_new w7 _ _ _ rfl _ rfl) rfl (nb + 2) rfl (by omega) (by omega) (by have := HBX.out.size; have := HB7.out.size; simp; omega) ?_; intro A8 c8 w8 ho8 hb8 hs8; have HO8 := Lib.hid ho8; have HB8 := Lib.hid hb8; have HS8 := Lib.hid hs8; clear ho8 hb8 hs8))
                  exact ⟨HFI.out A8 c8 A7 c7 w7 w8 64 HO7.out HB7.out HO8.out HB8.out HS8.out (.inr rfl), by simp [intOf]; omega⟩
                · go_wp2_with (first
                    | (at_builtin; refine wpList_appL (F := byS) rfl _ (.const (.slice none 0 0)) (.tmp 58) 27 rfl _ 1 Try.underlying27 byInfo rfl wr.heap.size none 0 0 [] rfl (OwnL.nil _ _) SB (t - f) (c1 - f) D rfl HLSB.out HDL.out (t - f) (by omega) (by omega) (by omega) (Nat.le_refl _) ?_; intro A7 c7 w7 ho7 hb7 _; rw [List.nil_append] at ho7; have HO7 := Lib.hid ho7; have HB7 := Lib.hid hb7; clear ho7 hb7)
                    | (at_builtin; refine wpList_appL (F := arS) rfl _ (.tmp 53) (.tmp 66) 47 rfl _ 56 Try.underlying47 arInfo rfl w1.heap.size A4 nb c4 ys rfl ((HOX.out.below HB7.out).below (ba1 _ _)) (some ⟨w7.heap.size, 0, none⟩) 2 2 [⟨⟨1, f, D, true, 0⟩, A7, t - f, c7⟩, ⟨⟨2, 0, [], false, 4096⟩, none, 0, 0⟩] rfl (ls_new w7 _ _ _ rfl _ rfl) rfl (nb + 2) rfl (by omega) (by omega) (by have := HBX.out.size; have := HB7.out.size; simp; omega) ?_; intro A8 c8 w8 ho8 hb8 hs8; have HO8 := Lib.hid ho8; have HB8 := Lib.hid hb8; have HS8 := Lib.hid hs8; clear ho8 hb8 hs8))
                  exact ⟨by rw [← HU.out]; exact HFI.out A8 c8 A7 c7 w7 w8 K' HO7.out HB7.out HO8.out HB8.out HS8.out (.inl rfl), by have := HU.out; simp [intOf]; omega⟩
              · have e1 : ((t : Int) == (sz : Int)) = false := by simp; omega
                have e2 : decide ((t : Int) = (sz : Int)) = false := by simp; omega
                clear g1
                rcases hcm with hq | hq
                · go_wp2_with (first
                    | (at_builtin; refine wpList_appL (F := byS) rfl _ (.const (.slice none 0 0)) (.tmp 58) 27 rfl _ 1 Try.underlying27 byInfo rfl wr.heap.size none 0 0 [] rfl (OwnL.nil _ _) SB (t - f) (c1 - f) D rfl HLSB.out HDL.out (t - f) (by omega) (by omega) (by omega) (Nat.le_refl _) ?_; intro A7 c7 w7 ho7 hb7 _; rw [List.nil_append] at ho7; have HO7 := Lib.hid ho7; have HB7 := Lib.hid hb7; clear ho7 hb7)
                    | (at_builtin; refine wpList_appL (F := arS) rfl _ (.tmp 53) (.tmp 66) 47 rfl _ 56 Try.underlying47 arInfo rfl w1.heap.size A4 nb c4 ys rfl ((HOX.out.below HB7.out).below (ba1 _ _)) (some ⟨w7.heap.size, 0, none⟩) 2 2 [⟨⟨1, f, D, false, 0⟩, A7, t - f, c7⟩, ⟨⟨2, 0, [], false, 4096⟩, none, 0, 0⟩] rfl (ls_new w7 _ _ _ rfl _ rfl) rfl (nb + 2) rfl (by omega) (by omega) (by have := HBX.out.size; have := HB7.out.size; simp; omega) ?_; intro A8 c8 w8 ho8 hb8 hs8; have HO8 := Lib.hid ho8; have HB8 := Lib.hid hb8; have HS8 := Lib.hid hs8; clear ho8 hb8 hs8))
                  exact ⟨HFI.out A8 c8 A7 c7 w7 w8 64 HO7.out HB7.out HO8.out HB8.out HS8.out (.inr rfl), by simp [intOf]; omega⟩
                · go_wp2_with (first
                    | (at_builtin; refine wpList_appL (F := byS) rfl _ (.const (.slice none 0 0)) (.tmp 58) 27 rfl _ 1 Try.underlying27 byInfo rfl wr.heap.size none 0 0 [] rfl (OwnL.nil _ _) SB (t - f) (c1 - f) D rfl HLSB.out HDL.out (t - f) (by omega) (by omega) (by omega) (Nat.le_refl _) ?_; intro A7 c7 w7 ho7 hb7 _; rw [List.nil_append] at ho7; have HO7 := Lib.hid ho7; have HB7 := Lib.hid hb7; clear ho7 hb7)
                    | (at_builtin; refine wpList_appL (F := arS) rfl _ (.tmp 53) (.tmp 66) 47 rfl _ 56 Try.underlying47 arInfo rfl w1.heap.size A4 nb c4 ys rfl ((HOX.out.below HB7.out).below (ba1 _ _)) (some ⟨w7.heap.size, 0, none⟩) 2 2 [⟨⟨1, f, D, false, 0⟩, A7, t - f, c7⟩, ⟨⟨2, 0, [], false, 4096⟩, none, 0, 0⟩] rfl (ls_new w7 _ _ _ rfl _ rfl) rfl (nb + 2) rfl (by omega) (by omega) (by have := HBX.out.size; have := HB7.out.size; simp; omega) ?_; intro A8 c8 w8 ho8 hb8 hs8; have HO8 := Lib.hid ho8; have HB8 := Lib.hid hb8; have HS8 := Lib.hid hs8; clear ho8 hb8 hs8))
                  exact ⟨by rw [← HU.out]; exact HFI.out A8 c8 A7 c7 w7 w8 K' HO7.out HB7.out HO8.out HB8.out HS8.out (.inl rfl), by have := HU.out; simp [intOf]; omega⟩
        · have hkf : ¬ (f : Int) ≤ (sz : Int) := by omega
          go_wp2_with fail
          have hrt := (rt_hrs (by rw [HSL.out]; omega) (ys.map Av.a) HRT.out (fun a ha => by obtain ⟨x, hx, rfl⟩ := List.mem_map.1 ha; exact HTX.out x hx)).1
          have hr01 : rd = 0 ∨ rd = 1 := by omega
          exact ⟨⟨rd + 1, K', nb, A4, c4, ys, by omega, rfl, rfl, rfl, hL1, hL2, HOX.out, HEX.out, HTX.out, (fun g => by
              obtain rfl : rd = 0 := by omega
              exact all_next HAI.out hrt (by rw [HSL.out]; omega)), (fun g => by
              obtain rfl : rd = 1 := by omega
              exact all_done HAI.out (by rw [HSL.out]; omega)), HLX.out.elim (fun g => by omega) .inr, by omega, HBX.out⟩, by simp [intOf]; omega⟩
    · have HDN : Hid (Done8 S (hrs s0 (xs.map Av.a))) := Lib.hid (HI2.out (by omega))
      have HLT : Hid (∃ l, xs.map Av.a = l ++ [takeAll]) := Lib.hid (HLA.out.elim (fun g => by omega) id)
      clear HI1 HI2 HLA
      obtain rfl : rd = 2 := by omega
      have hki : ¬ ((2 : Nat) : Int) < 2 := by omega
      by_cases h300 : na ≤ 300
      · have hq3 : ¬ (300 : Int) < (na : Int) := by omega
        obtain ⟨L, hL⟩ : ∃ L, L = xs.map Av.a := ⟨_, rfl⟩
        have HAL : Hid (L.length = na) := Lib.hid (by rw [hL, List.length_map]; exact HOW.out.1)
        have HTL : Hid (∀ a ∈ L, Tame8 S true a) := Lib.hid (fun a ha => by
          rw [hL] at ha
          obtain ⟨x, hx, rfl⟩ := List.mem_map.1 ha
          exact HTA.out x hx)
        rw [← hL] at HDN HLT
        have HTS : Hid (heard s0 L = heard (hr0 (rr : Int)) (xs.map Av.a)) := Lib.hid (by rw [← hL, HS0.out])
        have HHL : Hid ((heard s0 L).length = na) := Lib.hid (by rw [heard_len]; exact HAL.out)
        clear hL
        go_upto_region 22 with (go_at_call 30; (refine (hearer_any (rr : Int) A3 na c3 xs wr (by omega) (by omega) (by omega) HOW.out.ls HOW.out.1 HEI.out.ain (heard s0 L) HTS.out).mono ?_); unfold RetHs; rw [HHL.out]; rintro e w3 ⟨A5, c5, l5, rfl, ho5, hm5, he5, hb5⟩; have HO5 := Lib.hid ho5; have HM5 := Lib.hid hm5; have HE5 := Lib.hid he5; have HB5 := Lib.hid hb5; clear ho5 hm5 he5 hb5)
        obtain ⟨wo, hwo⟩ : ∃ wo, wo = wr := ⟨_, rfl⟩
        subst hwo
        have HO13 : Hid (OwnL byS 5 w3 w.heap.size A1 sz c1 S) := Lib.hid ((HO1.out.below HBW.out).below HB5.out)
        have HBw3 : Hid (Below w.heap.size w w3) := Lib.hid (bthen (bthen HB1.out HBW.out) HB5.out)
        go_loopw [20, 21] (fun got iv wr => GotI w3 S s0 L na sz got iv wr) (fun _ i _ => na - (intOf i).toNat)
        case atStart => exact ⟨0, 0, none, 0, Nat.zero_le _, rfl, by rw [List.take_zero]; exact HRR.out.2, Nat.zero_le _, rfl, by rw [List.take_zero]; exact OwnL.nil _ _, Below.refl _ _⟩
        case round =>
          obtain ⟨i, T, Ag, cg, hi, rfl, htk, hTs, rfl, hog, hbg⟩ := hrel
          have HOG := Lib.hid hog
          have HBG := Lib.hid hbg
          have HTK := Lib.hid htk
          clear hog hbg htk
          by_cases hlt2 : i < na
          · have hki2 : (i : Int) < (na : Int) := by omega
            have hwi2 : IntKind.i64.wrap ((i : Int) + 1) = ((i + 1 : Nat) : Int) := by rw [IntKind.wrap_i64]; omega
            obtain ⟨a, ha⟩ : ∃ a, L[i]? = some a := ⟨_, List.getElem?_eq_getElem (by rw [HAL.out]; exact hlt2)⟩
            have hrt := (rt_hrs (by rw [HSL.out]; omega) (L.take i) HRT.out (fun b hb => HTL.out b (List.mem_of_mem_take hb)))
            have hst := rt_step hrt.1 (by rw [HSL.out]; omega) a (HTL.out a (List.mem_of_getElem? ha))
            have hget := heard_get L s0 i a ha
            have hnx := (heard_take s0 L i a ha).2
            obtain ⟨x, hx, hxe, ⟨hxd, hxn⟩, -, -⟩ := heard_at (HO5.out.below HBG.out) HM5.out (HE5.out.new HBG.out) i _ hget
            obtain ⟨bT, oT, rfl, hbt, hct⟩ := (HO5.out.below HBG.out).ls.at i x hx
            obtain ⟨xt, xS, xm, xe, xA, xn, xc⟩ := x
            simp only at hxe hxd hxn
            rw [← hxe] at hst hxd hxn
            have q4 := hst.taken
            have q5 := hst.data
            rw [← hnx] at q4
            have hrt2 := (rt_hrs (by rw [HSL.out]; omega) (L.take (i + 1)) HRT.out (fun b hb => HTL.out b (List.mem_of_mem_take hb))).1
            have hd1 := hrt2.ok.t1
            have hd2 := hrt2.dn_le
            rw [HSL.out] at hd2
            rw [HTK.out] at q4 q5
            rw [hxn] at q4 q5
            obtain ⟨tc, tack, twin, tsk, td, tst⟩ := xt
            simp only at q4 q5 hxd hxn
            obtain ⟨T1, hT1⟩ : ∃ T1 : Nat, T + xn = T1 := ⟨_, rfl⟩
            have hq : (hrs s0 (L.take (i + 1))).taken = (T1 : Int) := by omega
            have HQ := Lib.hid hq
            have HXD := Lib.hid hxd
            have HXN := Lib.hid hxn
            have HJ : Hid (S.take T ++ td = S.take T1) := Lib.hid (by rw [q5, ← hT1, show (T : Int).toNat = T by omega]; exact take_join S T xn)
            have p4 := hct 4 (.slice xA xn xc) rfl
            simp only [teS, Nat.add_zero] at p4
            have hT1s : T1 ≤ sz := by omega
            clear hct hx hxe hxd hxn q4 q5 hget hnx hrt hrt2 hst hd1 hd2 hq ha
            go_wp2_with (at_builtin; refine wpList_appL (F := byS) rfl _ (.tmp 88) (.tmp 93) 27 rfl _ 1 Try.underlying27 byInfo rfl w3.heap.size Ag T cg (S.take T) rfl HOG.out xA xn xc td rfl HXD.out HXN.out T1 hT1 (by omega) (by omega) HBG.out.size ?_; intro A7 c7 w7 ho7 hb7 _; have HO7 := Lib.hid ho7; have HB7 := Lib.hid hb7; clear ho7 hb7)
            exact ⟨⟨i + 1, T1, A7, c7, by omega, rfl, HQ.out, hT1s, rfl, by rw [← HJ.out]; exact HO7.out, HBG.out.trans HB7.out⟩, by simp [intOf]; omega⟩
          · obtain rfl : i = na := by omega
            have hki2 : ¬ (i : Int) < (i : Int) := by omega
            have hTe : T = sz := by
              have h1 := HTK.out
              rw [List.take_of_length_le (by rw [HAL.out]; omega)] at h1
              have h2 := HDN.out.2.1
              rw [HSL.out] at h2
              omega
            subst hTe
            have hSS : S.take T = S := List.take_of_length_le (by rw [HSL.out]; omega)
            rw [hSS] at HOG
            obtain ⟨l0, hl0⟩ := HLT.out
            obtain ⟨nl, hnl⟩ : ∃ nl, nl = l0.length := ⟨_, rfl⟩
            have hin : i = nl + 1 := by rw [← HAL.out, hl0, hnl]; simp
            have hget := heard_get L s0 nl takeAll (by rw [hl0, hnl]; simp)
            have htkl : L.take nl = l0 := by rw [hl0, hnl]; simp
            rw [htkl] at hget
            have hrt := rt_hrs (by rw [HSL.out]; omega) l0 HRT.out (fun b hb => HTL.out b (by rw [hl0]; exact List.mem_append_left _ hb))
            have hend := all_end hrt.1 (by have := HDN.out; rw [hl0, hrs_app] at this; exact this)
            rw [hrt.2, HRR.out.1, HSL.out] at hend
            obtain ⟨x, hx, hxe, -, hxs, hxm⟩ := heard_at (HO5.out.below HBG.out) HM5.out (HE5.out.new HBG.out) nl _ hget
            obtain ⟨bT, oT, rfl, hbt, hct⟩ := (HO5.out.below HBG.out).ls.at nl x hx
            obtain ⟨xt, xS, xm, xe, xA, xn, xc⟩ := x
            simp only at hxe hxs hxm
            rw [← hxe] at hend hxm
            obtain ⟨tc, tack, twin, tsk, td, tst⟩ := xt
            simp only at hend hxm
            obtain ⟨rfl, rfl, rfl, rfl⟩ := hend
            obtain rfl : xm = 0 := by simpa using hxm.symm
            have p0 := hct 0 (.int .i64 tc) rfl
            have p1 := hct 1 (.int .i64 ((T : Int) + 1)) rfl
            have p2 := hct 2 (.int .i64 (rr : Int)) rfl
            have p3 := hct 3 (.slice xS 0 xe) rfl
            have p4 := hct 4 (.slice xA xn xc) rfl
            have p5 := hct 5 (.bool true) rfl
            simp only [teS, Nat.add_zero] at p0 p1 p2 p3 p4 p5
            have hnl2 : nl < i := by omega
            have ew : IntKind.i64.wrap ((i : Int) - 1) = (nl : Int) := by rw [IntKind.wrap_i64]; omega
            have ew2 : IntKind.i64.wrap ((T : Int) + 1) = (T : Int) + 1 := by rw [IntKind.wrap_i64]; omega
            have HSB1 : Hid (Ls byS wr A1 S) := Lib.hid (HO13.out.below HBG.out).ls
            have HSB2 : Hid (Ls byS wr Ag S) := Lib.hid HOG.out.ls
            clear hct hx hxe hxs hxm hget htkl hrt hl0 hnl hin hSS
            go_upto_region 26 with fail
            obtain ⟨q22, hq22⟩ : ∃ q, q = wr.heap.size := ⟨_, rfl⟩
            obtain ⟨w6, hw6⟩ : ∃ w6, w6 = wr.alloc (.cells #[.int .i64 tc, .int .i64 ((T : Int) + 1), .int .i64 (rr : Int), .slice xS 0 xe, .slice xA xn xc, .bool true] 52) := ⟨_, rfl⟩
            have HB6 : Hid (Below wr.heap.size wr w6) := Lib.hid (by rw [hw6]; exact ba1 _ _)
            have HX6 : Hid (Bx 52 w6 q22 #[.int .i64 tc, .int .i64 ((T : Int) + 1), .int .i64 (rr : Int), .slice xS 0 xe, .slice xA xn xc, .bool true]) := Lib.hid (by rw [hw6, hq22]; exact bx_new _ _ _)
            rw [← hw6, ← hq22]
            clear hw6 hq22 p0 p1 p2 p3 p4 p5
            go_wp2_with (go_at_call 23; (refine (same_keep Ag T cg A1 c1 S _ (HSB2.out.below HB6.out) (HSB1.out.below HB6.out) HSL.out (by omega)).mono ?_); rintro e w13 ⟨rfl, hb13⟩; have HB13 := Lib.hid hb13; have j1 := (HX6.out.below hb13).cell 1 (.int .i64 ((T : Int) + 1)) rfl; have j2 := (HX6.out.below hb13).cell 2 (.int .i64 (rr : Int)) rfl; have j3 := (HX6.out.below hb13).cell 3 (.slice xS 0 xe) rfl; have j5 := (HX6.out.below hb13).cell 5 (.bool true) rfl; have lq := (HX6.out.below hb13).lt; clear hb13)
            go_ret
            exact ⟨rfl, bthen (bthen (bthen HBw3.out HBG.out) HB6.out) HB13.out⟩
      · have hq3 : (300 : Int) < (na : Int) := by omega
        go_wp2_with fail
        go_ret
        exact ⟨rfl, bthen HB1.out HBW.out⟩

end Go.Proofs.Ytehckiihipnimaa
