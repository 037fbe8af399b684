/-
  The document's Inlet: the ranges beyond what came whole.
-/
import Derived.Test.YtehckiihipnimaaInl2
import Derived.Test.YtehckiihipnimaaInlMath
import Derived.Test.YtehckiihipnimaaPutAr
import Derived.BigQuiet
import Derived.Deep.QuietTactic
import Derived.Laws.NewBlocks
namespace Go.Proofs.Ytehckiihipnimaa
open Go.RowKit Go.Maps
set_option linter.unusedVariables false
set_option linter.unusedSimpArgs false

def RgI (w0 : World) (l : List Rg) (d top : Int) (o i : Value) (wr : World) : Prop :=
  ∃ (p : Int) (A : Option Addr) (m c : Nat), d ≤ p ∧ p ≤ top ∧ i = .int .i64 p ∧ o = .slice A m c ∧ OwnL rgS 44 wr w0.heap.size A m c (cut l p) ∧ m ≤ (p - d).toNat ∧ Below w0.heap.size w0 wr

set_option maxRecDepth 100000 in
set_option maxHeartbeats 4000000 in
theorem ranges_any (w : World) (B bm K : Nat) (room taken stop : Int) (ended : Bool) (M : Int → Option Int) (d : Int) (l : List Rg) (hx : Bx 121 w B (inC room bm taken stop ended)) (hm : MapIs w bm K M) (h0 : 0 ≤ taken) (h1 : taken ≤ d) (h2 : d ≤ 1048576)
    (hok : okB d l = true) (hr1 : 1 ≤ room) (hr2 : room ≤ 4096) (hd : d ≤ taken + room) (hl : ∀ x ∈ l, x.2 ≤ taken + room) (hM : ∀ x, 0 ≤ x → ((M x).isSome = true ↔ Came d l x)) :
    Calls Try.prog 63 #[.pointer (some ⟨B, 0, none⟩)] w fun e w' => ∃ A c, e = .returned (.slice A l.length c) ∧ OwnL rgS 44 w' w.heap.size A l.length c l ∧ Below w.heap.size w w' := by
  obtain ⟨hch, htop⟩ := okB_ch _ _ hok
  have HX := Lib.hid hx
  have HM := Lib.hid hm
  have HMM := Lib.hid hM
  have HCH := Lib.hid hch
  have HIN : Hid (∀ x, taken ≤ x → x < d → (M x).isSome = true) := Lib.hid (fun x g1 g2 => (hM x (by omega)).2 (.inl g2))
  have HOUT : Hid (M d = none) := Lib.hid (by
    rcases hc : M d with _ | v
    · rfl
    · have := (hM d (by omega)).1 (by rw [hc]; rfl)
      rcases this with g | g
      · omega
      · have := ch_in _ _ hch _ g; omega)
  obtain ⟨top, htp⟩ : ∃ t, t = taken + room + 1 := ⟨_, rfl⟩
  have HALL : Hid (cut l top = l) := Lib.hid (cut_all l d top hch (fun x hx => by have := hl x hx; omega))
  have HST : Hid (cut l d = []) := Lib.hid (cut_low l d d hch (by omega))
  have c0 := hx.cell 0 (.int .i64 room) rfl
  have c1 := hx.cell 1 (.map (some bm)) rfl
  have c2 := hx.cell 2 (.int .i64 taken) rfl
  have lB := hx.lt
  have e1 : IntKind.i64.wrap (taken + room) = taken + room := by rw [IntKind.wrap_i64]; omega
  have e2 : IntKind.i64.wrap (taken + room + 1) = top := by rw [IntKind.wrap_i64]; omega
  have hdt : d ≤ top ∧ top ≤ 1060000 := by omega
  have hdp : 0 ≤ d := by omega
  clear hx hm hM hch htop hok hl htp
  go_enter Try.func63, Try.ntmps63
  go_wp2_with (go_at_call 61; (refine (low_any w B bm K room taken stop ended M d HX.out HM.out h0 h1 h2 HIN.out HOUT.out).mono ?_); rintro e w' ⟨rfl, rfl⟩)
  go_loopw [4, 5] (fun o i wr => RgI w l d top o i wr) (fun _ i _ => (top - intOf i).toNat)
  case atStart => exact ⟨d, none, 0, 0, Int.le_refl _, hdt.1, rfl, rfl, by rw [HST.out]; exact OwnL.nil _ _, by omega, Below.refl _ _⟩
  case round =>
    obtain ⟨p, A, m, c, g1, g2, rfl, rfl, hown, hmp, hbw⟩ := hrel
    have HOW := Lib.hid hown
    have HBW := Lib.hid hbw
    have k0 := (HX.out.below HBW.out).cell 0 (.int .i64 room) rfl
    have k1 := (HX.out.below HBW.out).cell 1 (.map (some bm)) rfl
    have k2 := (HX.out.below HBW.out).cell 2 (.int .i64 taken) rfl
    have kB := (HX.out.below HBW.out).lt
    clear hown hbw c0 c1 c2 lB
    by_cases hlt : p < top
    · have ep : IntKind.i64.wrap (p + 1) = p + 1 := by rw [IntKind.wrap_i64]; omega
      have hi : i64in p := ⟨by omega, by omega⟩
      have hcs := cut_step l d p HCH.out
      have hMp : (M p).isSome = true ↔ inR l p := by
        rw [HMM.out p (by omega)]
        exact ⟨fun g => g.elim (fun g => by omega) id, .inr⟩
      go_upto_region 4 with fail
      go_quiet (fail)
      generalize hwd : World.drewN wr _ = wd
      have HBD : Hid (Below w.heap.size w wd) := Lib.hid (by rw [← hwd]; exact below_drewN HBW.out _)
      have HOD : Hid (OwnL rgS 44 wd w.heap.size A m c (cut l p)) := Lib.hid (by rw [← hwd]; exact HOW.out.below (below_drewN (Below.refl _ _) _))
      have HMD : Hid (MapIs wd bm K M) := Lib.hid (HM.out.below HBD.out)
      have k0 := (HX.out.below HBD.out).cell 0 (.int .i64 room) rfl
      have k1 := (HX.out.below HBD.out).cell 1 (.map (some bm)) rfl
      have k2 := (HX.out.below HBD.out).cell 2 (.int .i64 taken) rfl
      have kB := (HX.out.below HBD.out).lt
      clear hwd
      rcases hcs with ⟨q1, q2⟩ | ⟨q1, l', x1, q2, q3⟩ | ⟨q1, q2, q3⟩
      · have hs : (M p).isSome = false := by
          rcases hb : (M p).isSome with _ | _
          · rfl
          · exact absurd (hMp.1 hb) q1
        have HQ := Lib.hid q2
        clear hMp q1 q2
        go_wp2_with (at_lookup; refine wpList_look _ rfl _ _ rfl bm K M rfl HMD.out p hi rfl ?_; intro cc hcc; rw [hs]; clear hcc)
        exact ⟨⟨p + 1, A, m, c, by omega, by omega, rfl, rfl, by rw [HQ.out]; exact HOD.out, by omega, HBD.out⟩, by simp [intOf]; omega⟩
      · have hs : (M p).isSome = true := hMp.2 q1
        clear hMp q1
        rw [q2] at HOD
        have hlen : m = l'.length + 1 := by have := HOD.out.1; simpa using this.symm
        obtain ⟨ml, hml⟩ : ∃ ml, ml = l'.length := ⟨_, rfl⟩
        rw [← hml] at hlen
        subst hlen
        rcases HOD.out.addr with ⟨-, e0, -⟩ | ⟨g, rfl, lg⟩
        · omega
        obtain ⟨b, o, hA, hbl, hcx⟩ := HOD.out.ls.at ml (x1, p) (by rw [hml]; simp)
        injection hA with hA
        injection hA with f1 f2
        subst f1; subst f2
        have y1 := hcx 1 (.int .i64 p) rfl
        simp only [rgS, Nat.zero_add] at y1
        have f1 := HOD.out.softL (ml * 2 + 1)
        have hput := HOD.out.putL ml (x1, p) (x1, p + 1) 1 (.int .i64 (p + 1)) (by rw [hml]; simp) (by decide) rfl
        have hset : (l' ++ [(x1, p)]).set ml (x1, p + 1) = cut l (p + 1) := by rw [q3, hml]; simp
        rw [hset] at hput
        have hput : OwnL rgS 44 (wd.setCell ⟨g, ml * 2 + 1, none⟩ (.int .i64 (p + 1))) w.heap.size (some ⟨g, 0, none⟩) (ml + 1) c (cut l (p + 1)) := hput
        have HPUT := Lib.hid hput
        have HBS : Hid (Below w.heap.size w (wd.setCell ⟨g, ml * 2 + 1, none⟩ (.int .i64 (p + 1)))) := Lib.hid (HBD.out.setCell (HOD.out.lt g rfl).1 _)
        have ewm : IntKind.i64.wrap ((ml : Int) + 1 - 1) = (ml : Int) := by rw [IntKind.wrap_i64]; omega
        clear hcx hput hset q2 q3 hml
        go_wp2_with (at_lookup; refine wpList_look _ rfl _ _ rfl bm K M rfl HMD.out p hi rfl ?_; intro cc hcc; rw [hs]; clear hcc)
        exact ⟨⟨p + 1, _, ml + 1, c, by omega, by omega, rfl, rfl, HPUT.out, by omega, HBS.out⟩, by simp [intOf]; omega⟩
      · have hs : (M p).isSome = true := hMp.2 q1
        clear hMp q1
        have HQ := Lib.hid q2
        rcases Nat.eq_zero_or_pos m with hm0 | hm0
        · subst hm0
          clear q2 q3
          go_wp2_with (first
            | (at_lookup; refine wpList_look _ rfl _ _ rfl bm K M rfl HMD.out p hi rfl ?_; intro cc hcc; rw [hs]; clear hcc)
            | (at_builtin; refine wpList_appL (F := rgS) rfl _ (.tmp 58) (.tmp 63) 37 rfl _ 16 Try.underlying37 rgSInfo rfl w.heap.size A 0 c (cut l p) rfl (HOD.out.below (ba1 _ _)) (some ⟨wd.heap.size, 0, none⟩) 1 1 [(p, p + 1)] rfl (ls_new wd _ _ _ rfl _ rfl) rfl (0 + 1) rfl (by omega) (by omega) (by have := HBD.out.size; simp; omega) ?_; intro A8 c8 w8 ho8 hb8 hs8; have HO8 := Lib.hid ho8; have HB8 := Lib.hid hb8; clear ho8 hb8 hs8))
          exact ⟨⟨p + 1, A8, 1, c8, by omega, by omega, rfl, rfl, by rw [HQ.out]; exact HO8.out, by omega, (HBD.out.trans ((ba1 wd _).mono HBD.out.size)).trans HB8.out⟩, by simp [intOf]; omega⟩
        · obtain ⟨ml, rfl⟩ : ∃ ml, m = ml + 1 := ⟨m - 1, by omega⟩
          obtain ⟨⟨y1, y2⟩, hy⟩ : ∃ y, (cut l p)[ml]? = some y := ⟨_, List.getElem?_eq_getElem (by rw [HOD.out.1]; omega)⟩
          have hyp := q3 _ (List.mem_of_getElem? hy)
          simp only at hyp
          obtain ⟨b, o, rfl, hbl, hcx⟩ := HOD.out.ls.at ml _ hy
          have z1 := hcx 1 (.int .i64 y2) rfl
          simp only [rgS] at z1
          have ewm : IntKind.i64.wrap ((ml : Int) + 1 - 1) = (ml : Int) := by rw [IntKind.wrap_i64]; omega
          have zne : (y2 == p) = false := by simp; omega
          have zne2 : decide (y2 = p) = false := by simp; omega
          clear q2 q3 hcx hy
          go_wp2_with (first
            | (at_lookup; refine wpList_look _ rfl _ _ rfl bm K M rfl HMD.out p hi rfl ?_; intro cc hcc; rw [hs]; clear hcc)
            | (at_builtin; refine wpList_appL (F := rgS) rfl _ (.tmp 58) (.tmp 63) 37 rfl _ 16 Try.underlying37 rgSInfo rfl w.heap.size (some ⟨b, o, none⟩) (ml + 1) c (cut l p) rfl (HOD.out.below (ba1 _ _)) (some ⟨wd.heap.size, 0, none⟩) 1 1 [(p, p + 1)] rfl (ls_new wd _ _ _ rfl _ rfl) rfl (ml + 1 + 1) rfl (by omega) (by omega) (by have := HBD.out.size; simp; omega) ?_; intro A8 c8 w8 ho8 hb8 hs8; have HO8 := Lib.hid ho8; have HB8 := Lib.hid hb8; clear ho8 hb8 hs8))
          exact ⟨⟨p + 1, A8, ml + 1 + 1, c8, by omega, by omega, rfl, rfl, by rw [HQ.out]; exact HO8.out, by omega, (HBD.out.trans ((ba1 wd _).mono HBD.out.size)).trans HB8.out⟩, by simp [intOf]; omega⟩
    · obtain rfl : p = top := by omega
      go_upto_region 4 with fail
      go_quiet (fail)
      generalize hwd : World.drewN wr _ = wd
      have HBD : Hid (Below w.heap.size w wd) := Lib.hid (by rw [← hwd]; exact below_drewN HBW.out _)
      have HOD : Hid (OwnL rgS 44 wd w.heap.size A m c (cut l p)) := Lib.hid (by rw [← hwd]; exact HOW.out.below (below_drewN (Below.refl _ _) _))
      rw [HALL.out] at HOD
      have hml : m = l.length := HOD.out.1.symm
      subst hml
      clear hwd
      go_wp2
      go_ret
      exact ⟨A, c, rfl, HOD.out, HBD.out⟩

end Go.Proofs.Ytehckiihipnimaa
