/-
  The tree in memory, changed.
-/
import Derived.Test.YthjpighlcalocaaGreatDoorTreeKit
import Derived.Test.YthjpighlcalocaaGreatDoorTreeWf
namespace Go.Proofs.YthjpighlcalocaaGreatDoor
open Go.RowKit Go.Maps
set_option linter.unusedVariables false
set_option linter.unusedSimpArgs false

section
variable {w w' : World} {f f' : Rl} {p p' : Nat → Nat} {T T' : Wd} {K K' i d n tb : Nat} {S : Nat → Prop}
/-- a node that is left alone -/
theorem NodeAt.conv (h : NodeAt w f p T K i) (ho : Only S w w') (hS : ∀ b, S b → f b ≠ some (.str i) ∧ f b ≠ some (.map i) ∧ f b ≠ some (.row i)) (hf : ∀ b r, f b = some r → f' b = some r) (hp : p' i = p i)
    (hk : (nd T' i).kind = (nd T i).kind) (hdt : (nd T' i).data = (nd T i).data) (hto : (nd T' i).to = (nd T i).to) (hnames : ∀ nm, namesM T' p' i nm = namesM T p i nm) (hK : K ≤ K') : NodeAt w' f' p' T' K' i := by
  obtain ⟨h0, h⟩ := h
  refine ⟨by rw [hp]; exact hf _ _ h0, ?_⟩
  rw [hp, hk, hdt, hto]
  rcases h with ⟨g, m, hm, hb, hd⟩ | ⟨g, A, c, hb, hr, hrow⟩ | ⟨g, hb⟩
  · exact .inl ⟨g, m, hf _ _ hm, hb.only ho (fun hs => (hS _ hs).1 h0), ((hd.only ho (fun hs => (hS _ hs).2.1 hm)).congr hnames).mono hK⟩
  · exact .inr (.inl ⟨g, A, c, hb.only ho (fun hs => (hS _ hs).1 h0), ⟨hr.1, own_only hr.2 ho (fun k hk => fun hs => (hS _ hs).2.2 (hrow k hk))⟩, fun k hk => hf _ _ (hrow k hk)⟩)
  · exact .inr (.inr ⟨g, hb.only ho (fun hs => (hS _ hs).1 h0)⟩)

theorem namesM_eq {T T' : Wd} {p p' : Nat → Nat} {e : Nat} {m : Byt} (h : WF T) (hc : child T' e m = child T e m) (hv : ∀ c, Live T c → vtx T' p' c = vtx T p c) : namesM T' p' e m = namesM T p e m := by
  unfold namesM
  rw [hc]
  rcases hcc : child T e m with _ | c
  · rfl
  · rw [Option.map_some, Option.map_some, hv c (child_is h hcc).2.1]

/-! a node more -/
/-- a node that is nowhere yet lies in block bn -/
def Fresh (w : World) (f : Rl) (B : Nat) (x : It) (bn : Nat) : Prop :=
  B ≤ bn ∧ bn < w.heap.size ∧ f bn = none ∧
  ((x.kind = 1 ∧ ∃ m, B ≤ m ∧ m ≠ bn ∧ f m = none ∧ Bx 107 w bn #[.map (some m)] ∧ DirIs w m 0 (fun _ => none)) ∨
   (x.kind = 2 ∧ x.data = [] ∧ Bx 75 w bn #[.slice none 0 0]) ∨
   (x.kind = 3 ∧ Bx 114 w bn #[.string (tx x.to)]))
theorem Fresh.only {x : It} {B bn : Nat} (h : Fresh w f B x bn) (ho : Only S w w') (hS : ∀ b, S b → f b ≠ none) : Fresh w' f B x bn := by
  obtain ⟨h0, h1, h2, h⟩ := h
  refine ⟨h0, Nat.lt_of_lt_of_le h1 ho.size, h2, ?_⟩
  rcases h with ⟨g, m, m1, m2, m3, m4, m5⟩ | ⟨g, g2, g3⟩ | ⟨g, g2⟩
  · exact .inl ⟨g, m, m1, m2, m3, m4.only ho (fun hs => hS _ hs h2), m5.only ho (fun hs => hS _ hs m3)⟩
  · exact .inr (.inl ⟨g, g2, g3.only ho (fun hs => hS _ hs h2)⟩)
  · exact .inr (.inr ⟨g, g2.only ho (fun hs => hS _ hs h2)⟩)

theorem treeIs_add {x : It} {B bn mb : Nat} {nm : Byt} (h : TreeIs w tb T f p K) (hd : Live T d) (hkd : (nd T d).kind = 1) (hn : nameB nm = true) (hc : child T d nm = none) (hxk : x.kind = 1 ∨ x.kind = 2 ∨ x.kind = 3) (hdat : x.data = []) (hto : x.to.length ≤ 200) (hg : x.gone = false)
    (hfr : Fresh w f B x bn) (hmb : f mb = some (.map d)) (ho : Only (fun b => b = mb ∨ b = tb) w w') (hbx : Bx 107 w (p d) #[.map (some mb)]) (hdir : DirIs w' mb (K + 1) (updD (namesM T p d) nm (some (tyK x.kind, bn))))
    (htop : Bx 71 w' tb #[.pointer (some ⟨p 0, 0, none⟩), .int .i64 ((liveN T : Nat) + 1)]) :
    ∃ f' p', TreeIs w' tb (T ++ [newIt x d nm]) f' p' (K + 1) ∧ ∀ b, f' b ≠ none → f b ≠ none ∨ B ≤ b := by
  have hw := wf_add h.wf hd hkd hn hc hxk hdat hto hg
  have hgn : (newIt x d nm).gone = false := hg
  have lv := fun i => @live_app T (newIt x d nm) hgn i
  have old : ∀ i, Live T i → nd (T ++ [newIt x d nm]) i = nd T i := fun i hi => nd_app_lt hi.1
  have new := nd_app_new T (newIt x d nm)
  have hch := fun e m => child_add (x := x) h.wf hw hd hc hg e (.inr trivial) m
  obtain ⟨f1, f2, f3, hfr⟩ := hfr
  obtain ⟨N, hN⟩ : ∃ N, N = T.length := ⟨_, rfl⟩
  -- the roles, with the map of a new directory
  obtain ⟨mx, hmx⟩ : ∃ mx : Option Nat, (∀ m, mx = some m → x.kind = 1 ∧ B ≤ m ∧ m ≠ bn ∧ f m = none ∧ Bx 107 w bn #[.map (some m)] ∧ DirIs w m 0 (fun _ => none)) ∧ (x.kind = 1 → mx ≠ none) := by
    rcases hfr with ⟨g, m, hm⟩ | ⟨g, _⟩ | ⟨g, _⟩
    · exact ⟨some m, fun m' e => by injection e with e; subst e; exact ⟨g, hm⟩, fun _ => by simp⟩
    · exact ⟨none, fun m' e => (by cases e), fun e => by omega⟩
    · exact ⟨none, fun m' e => (by cases e), fun e => by omega⟩
  have hfr' : (x.kind = 2 → Bx 75 w bn #[.slice none 0 0]) ∧ (x.kind = 3 → Bx 114 w bn #[.string (tx x.to)]) := by
    rcases hfr with ⟨g, m, hm⟩ | ⟨g, _, g3⟩ | ⟨g, g3⟩
    · exact ⟨fun e => by omega, fun e => by omega⟩
    · exact ⟨fun _ => g3, fun e => by omega⟩
    · exact ⟨fun e => by omega, fun _ => g3⟩
  clear hfr
  refine ⟨fun b => if b = bn then some (.str N) else if some b = mx then some (.map N) else f b, fun i => if i = N then bn else p i, ?_, ?_⟩
  · have hpo : ∀ i, Live T i → (if i = N then bn else p i) = p i := fun i hi => if_neg (by have := hi.1; omega)
    have hfo : ∀ b r, f b = some r → (if b = bn then some (Role.str N) else if some b = mx then some (.map N) else f b) = some r := fun b r hb => by
      rw [if_neg (fun e => by rw [e, f3] at hb; cases hb), if_neg (fun e => by rw [(hmx.1 b e.symm).2.2.2.1] at hb; cases hb)]; exact hb
    have hv : ∀ c, Live T c → vtx (T ++ [newIt x d nm]) (fun i => if i = N then bn else p i) c = vtx T p c := fun c hcl => by
      unfold vtx; rw [old c hcl]; simp only [hpo c hcl]
    refine ⟨hw, ?_, hfo _ _ h.ftop, ?_, ?_⟩
    · rw [liveN_app T _ hgn]
      simp only [hpo 0 h.wf.root.1]
      exact htop
    · intro b hb
      by_cases e1 : b = bn
      · subst e1; exact Nat.lt_of_lt_of_le f2 ho.size
      · simp only [if_neg e1] at hb
        by_cases e2 : some b = mx
        · exact Nat.lt_of_lt_of_le (hmx.1 b e2.symm).2.2.2.2.2.lt ho.size
        · rw [if_neg e2] at hb
          exact Nat.lt_of_lt_of_le (h.lt b hb) ho.size
    · intro i hi
      rcases (lv i).1 hi with g | g
      · by_cases hid : i = d
        · subst hid
          refine ⟨by simp only [hpo i g]; exact hfo _ _ (h.node i g).1, .inl ⟨by rw [old i g]; exact hkd, mb, hfo _ _ hmb, ?_, ?_⟩⟩
          · simp only [hpo i g]
            exact hbx.only ho (fun hs => by
              have h0 := (h.node i g).1
              rcases hs with e | e
              · rw [e, hmb] at h0; cases h0
              · rw [e, h.ftop] at h0; cases h0)
          · refine hdir.congr fun m => ?_
            unfold updD
            by_cases e : m = nm
            · rw [if_pos e]
              unfold namesM
              rw [hch i m, if_pos ⟨rfl, e⟩, Option.map_some]
              unfold vtx
              rw [new]
              simp only [hN, if_true]
              rfl
            · rw [if_neg e]
              exact namesM_eq h.wf (by rw [hch i m, if_neg (fun g => e g.2)]) hv
        · refine (h.node i g).conv ho ?_ hfo (hpo i g) (by rw [old i g]) (by rw [old i g]) (by rw [old i g]) (fun m => namesM_eq h.wf (by rw [hch i m, if_neg (fun g => hid g.1)]) hv) (Nat.le_succ K)
          rintro b (e | e)
          · rw [e, hmb]
            exact ⟨by simp, fun e' => hid (by injection e' with e'; injection e' with e'; exact e'.symm), by simp⟩
          · rw [e, h.ftop]; simp
      · rw [← hN] at g
        subst g
        have hnk : ∀ m, namesM (T ++ [newIt x d nm]) (fun j => if j = i then bn else p j) i m = none := fun m => by
          unfold namesM
          rw [(child_none hw).2]
          · rfl
          · intro c c0 c1 c2
            exfalso
            rcases (lv c).1 c1 with g | g
            · rw [old c g] at c2
              have := (h.wf.par c c0 g).1.1
              omega
            · rw [g, new] at c2
              have : d = i := c2
              have := hd.1; omega
        refine ⟨by simp, ?_⟩
        rw [hN, new]
        simp only [if_true]
        rcases hxk with g | g | g
        · left
          obtain ⟨m, hm⟩ : ∃ m, mx = some m := Option.ne_none_iff_exists'.1 (hmx.2 g)
          obtain ⟨-, m1, m2, m3, m4, m5⟩ := hmx.1 m hm
          refine ⟨g, m, by rw [if_neg m2, if_pos hm.symm], m4.only ho ?_, (((m5.only ho ?_).mono (Nat.zero_le _)).congr (fun nm' => by rw [hN] at hnk; exact hnk nm'))⟩
          · rintro (e | e)
            · rw [e, hmb] at f3; cases f3
            · rw [e, h.ftop] at f3; cases f3
          · rintro (e | e)
            · rw [e, hmb] at m3; cases m3
            · rw [e, h.ftop] at m3; cases m3
        · right; left
          refine ⟨g, none, 0, ?_, ?_, fun k hk => (by cases hk)⟩
          · have : (newIt x d nm).data = [] := hdat
            rw [this]
            exact (hfr'.1 g).only ho (by
              rintro (e | e)
              · rw [e, hmb] at f3; cases f3
              · rw [e, h.ftop] at f3; cases f3)
          · have : (newIt x d nm).data = [] := hdat
            rw [this]
            exact OwnL.nil _ _
        · right; right
          refine ⟨g, (hfr'.2 g).only ho (by
              rintro (e | e)
              · rw [e, hmb] at f3; cases f3
              · rw [e, h.ftop] at f3; cases f3)⟩
  · intro b hb
    by_cases e1 : b = bn
    · subst e1; exact .inr f1
    · simp only [if_neg e1] at hb
      by_cases e2 : some b = mx
      · exact .inr (hmx.1 b e2.symm).2.1
      · rw [if_neg e2] at hb
        exact .inl hb

/-! a node less -/
theorem treeIs_gone {mb : Nat} (h : TreeIs w tb T f p K) (hn : Live T n) (h0n : 0 < n) (hb : ∀ i, 0 < i → Live T i → (nd T i).inn ≠ n) (hmb : f mb = some (.map (nd T n).inn)) (ho : Only (fun b => b = mb ∨ b = tb) w w') (hbx : Bx 107 w (p (nd T n).inn) #[.map (some mb)])
    (hdir : DirIs w' mb K (updD (namesM T p (nd T n).inn) (nd T n).name none)) (htop : Bx 71 w' tb #[.pointer (some ⟨p 0, 0, none⟩), .int .i64 ((liveN T : Nat) - 1)]) :
    TreeIs w' tb (setI T n { nd T n with gone := true }) f p K := by
  have hw := wf_gone h.wf hn h0n hb
  have k := fun i => nd_gone (T := T) (n := n) i hn.1
  have hch := fun e m => child_gone h.wf hw hn h0n e m
  have hv : ∀ c, Live T c → vtx (setI T n { nd T n with gone := true }) p c = vtx T p c := fun c _ => by unfold vtx; rw [(k c).1]
  refine ⟨hw, ?_, h.ftop, fun b hb => Nat.lt_of_lt_of_le (h.lt b hb) ho.size, ?_⟩
  · have := liveN_gone (T := T) hn
    rw [show ((liveN (setI T n { nd T n with gone := true }) : Nat) : Int) = (liveN T : Nat) - 1 by omega]
    exact htop
  · intro i hi
    obtain ⟨g, hne⟩ := (live_gone hn.1 i).1 hi
    by_cases hid : i = (nd T n).inn
    · refine ⟨(h.node i g).1, .inl ⟨by rw [(k i).1, hid]; exact (h.wf.par n h0n hn).2, mb, by rw [hid]; exact hmb, ?_, ?_⟩⟩
      · rw [hid]
        exact hbx.only ho (fun hs => by
          have h0 := (h.node i g).1
          rw [hid] at h0
          rcases hs with e | e
          · rw [e, hmb] at h0; cases h0
          · rw [e, h.ftop] at h0; cases h0)
      · refine hdir.congr fun m => ?_
        unfold updD
        by_cases e : m = (nd T n).name
        · rw [if_pos e]
          unfold namesM
          rw [hch i m, if_pos ⟨hid, e⟩]; rfl
        · rw [if_neg e, ← hid]
          exact namesM_eq h.wf (by rw [hch i m, if_neg (fun g => e g.2)]) hv
    · refine (h.node i g).conv ho ?_ (fun _ _ h => h) rfl (k i).1 (k i).2.2.2.1 (k i).2.2.2.2.1 (fun m => namesM_eq h.wf (by rw [hch i m, if_neg (fun g => hid g.1)]) hv) (Nat.le_refl K)
      rintro b (e | e)
      · rw [e, hmb]
        exact ⟨by simp, fun e' => hid (by injection e' with e'; injection e' with e'; exact e'.symm), by simp⟩
      · rw [e, h.ftop]; simp

/-! bytes -/
theorem treeIs_data {b : List Int} {A : Option Addr} {c : Nat} (h : TreeIs w tb T f p K) (hn : Live T n) (hk : (nd T n).kind = 2) (hb : b.length ≤ 2048 ∧ ∀ z ∈ b, 0 ≤ z ∧ z ≤ 255)
    (ho : Only (fun k => f k = some (.str n) ∨ f k = some (.row n)) w w') (hbx : Bx 75 w' (p n) #[.slice A b.length c]) (hown : OwnL byS 5 w' 0 A b.length c b) (B : Nat) (hrow : ∀ k, (Value.slice A b.length c).ownBlock = some k → f k = some (.row n) ∨ (f k = none ∧ B ≤ k)) :
    ∃ f', TreeIs w' tb (setI T n { nd T n with data := b }) f' p K ∧ ∀ k, f' k ≠ none → f k ≠ none ∨ B ≤ k := by
  have hw := wf_data h.wf hn hb
  have k := fun i => nd_data (T := T) n b i hn.1
  have hch := fun e m => child_data h.wf hw hn e m
  have hv : ∀ c, Live T c → vtx (setI T n { nd T n with data := b }) p c = vtx T p c := fun c _ => by unfold vtx; rw [(k c).1]
  have hfo : ∀ j r, f j = some r → (if (Value.slice A b.length c).ownBlock = some j then some (Role.row n) else f j) = some r := fun j r hj => by
    split
    · rename_i e
      rcases hrow j e with g | g
      · rw [← hj, g]
      · rw [g.1] at hj; cases hj
    · exact hj
  refine ⟨fun j => if (Value.slice A b.length c).ownBlock = some j then some (.row n) else f j, ⟨hw, ?_, hfo _ _ h.ftop, ?_, ?_⟩, ?_⟩
  · rw [liveN_data hn]
    exact h.top.only ho (fun hs => by rcases hs with e | e <;> rw [h.ftop] at e <;> cases e)
  · intro j hj
    by_cases e : (Value.slice A b.length c).ownBlock = some j
    · exact (hown.lt j e).2
    · simp only [if_neg e] at hj
      exact Nat.lt_of_lt_of_le (h.lt j hj) ho.size
  · intro i hi
    have g := (live_data (b := b) hn.1 i).1 hi
    by_cases hin : i = n
    · subst hin
      have hdd : (nd (setI T i { nd T i with data := b }) i).data = b := by rw [nd_set_same hn.1]
      refine ⟨hfo _ _ (h.node i g).1, .inr (.inl ⟨(k i).1.trans hk, A, c, ?_, ?_, ?_⟩)⟩
      · rw [hdd]; exact hbx
      · rw [hdd]; exact hown
      · rw [hdd]; intro j hj; exact if_pos hj
    · refine (h.node i g).conv ho ?_ hfo rfl (k i).1 ((k i).2.2.2.2.2 hin) (k i).2.2.2.2.1 (fun m => namesM_eq h.wf (hch i m) hv) (Nat.le_refl K)
      rintro b' (e | e) <;> rw [e]
      · exact ⟨fun e' => hin (by injection e' with e'; injection e' with e'; exact e'.symm), by simp, by simp⟩
      · exact ⟨by simp, by simp, fun e' => hin (by injection e' with e'; injection e' with e'; exact e'.symm)⟩
  · intro j hj
    by_cases e : (Value.slice A b.length c).ownBlock = some j
    · rcases hrow j e with g | g
      · left; rw [g]; simp
      · exact .inr g.2
    · simp only [if_neg e] at hj
      exact .inl hj

/-! moved -/
theorem treeIs_move {mo md : Nat} {nm : Byt} (h : TreeIs w tb T f p K) (hn : Live T n) (h0n : 0 < n) (hd : Live T d) (hkd : (nd T d).kind = 1) (hnm : nameB nm = true) (hc : child T d nm = none) (hu : ¬ Under T n d)
    (hmo : f mo = some (.map (nd T n).inn)) (hmd : f md = some (.map d)) (ho : Only (fun b => b = mo ∨ b = md) w w') (hbo : Bx 107 w (p (nd T n).inn) #[.map (some mo)]) (hbd : Bx 107 w (p d) #[.map (some md)])
    (hdd : DirIs w' md (K + 1) (fun m => if m = nm then some (vtx T p n) else if (nd T n).inn = d ∧ m = (nd T n).name then none else namesM T p d m))
    (hdo : (nd T n).inn ≠ d → DirIs w' mo (K + 1) (updD (namesM T p (nd T n).inn) (nd T n).name none)) :
    TreeIs w' tb (setI T n { nd T n with inn := d, name := nm }) f p (K + 1) := by
  have hw := wf_move h.wf hn h0n hd hkd hnm hc hu
  have k := fun i => nd_move (T := T) (n := n) (d := d) (nm := nm) i hn.1
  have hch := fun e m => child_move h.wf hw hn h0n hc e m
  have hv : ∀ c, Live T c → vtx (setI T n { nd T n with inn := d, name := nm }) p c = vtx T p c := fun c _ => by unfold vtx; rw [(k c).1]
  have hpar := h.wf.par n h0n hn
  refine ⟨hw, ?_, h.ftop, fun b hb => Nat.lt_of_lt_of_le (h.lt b hb) ho.size, ?_⟩
  · rw [liveN_move hn]
    exact h.top.only ho (fun hs => by
      have h0 := h.ftop
      rcases hs with e | e
      · rw [e, hmo] at h0; cases h0
      · rw [e, hmd] at h0; cases h0)
  · intro i hi
    have g := (live_move hn.1 i).1 hi
    by_cases hid : i = d
    · subst hid
      refine ⟨(h.node i g).1, .inl ⟨(k i).1.trans hkd, md, hmd, ?_, ?_⟩⟩
      · exact hbd.only ho (fun hs => by
          have h0 := (h.node i g).1
          rcases hs with e | e
          · rw [e, hmo] at h0; cases h0
          · rw [e, hmd] at h0; cases h0)
      · refine hdd.congr fun m => ?_
        by_cases e : m = nm
        · rw [if_pos e]
          unfold namesM
          rw [hch i m, if_pos ⟨rfl, e⟩, Option.map_some, hv n hn]
        · rw [if_neg e]
          by_cases e2 : (nd T n).inn = i ∧ m = (nd T n).name
          · rw [if_pos e2]
            unfold namesM
            rw [hch i m, if_neg (fun g => e g.2), if_pos ⟨e2.1.symm, e2.2⟩]; rfl
          · rw [if_neg e2]
            exact namesM_eq h.wf (by rw [hch i m, if_neg (fun g => e g.2), if_neg (fun g => e2 ⟨g.1.symm, g.2⟩)]) hv
    · by_cases hio : i = (nd T n).inn
      · have hne : (nd T n).inn ≠ d := fun e => hid (hio.trans e)
        refine ⟨(h.node i g).1, .inl ⟨(k i).1.trans (by rw [hio]; exact hpar.2), mo, by rw [hio]; exact hmo, ?_, ?_⟩⟩
        · rw [hio]
          exact hbo.only ho (fun hs => by
            have h0 := (h.node i g).1
            rw [hio] at h0
            rcases hs with e | e
            · rw [e, hmo] at h0; cases h0
            · rw [e, hmd] at h0; cases h0)
        · refine (hdo hne).congr fun m => ?_
          unfold updD
          by_cases e : m = (nd T n).name
          · rw [if_pos e]
            unfold namesM
            rw [hch i m, if_neg (fun g => hid g.1), if_pos ⟨hio, e⟩]; rfl
          · rw [if_neg e, ← hio]
            exact namesM_eq h.wf (by rw [hch i m, if_neg (fun g => hid g.1), if_neg (fun g => e g.2)]) hv
      · refine (h.node i g).conv ho ?_ (fun _ _ h => h) rfl (k i).1 (k i).2.2.1 (k i).2.2.2.1 (fun m => namesM_eq h.wf (by rw [hch i m, if_neg (fun g => hid g.1), if_neg (fun g => hio g.1)]) hv) (Nat.le_succ K)
        rintro b (e | e)
        · rw [e, hmo]
          exact ⟨by simp, fun e' => hio (by injection e' with e'; injection e' with e'; exact e'.symm), by simp⟩
        · rw [e, hmd]
          exact ⟨by simp, fun e' => hid (by injection e' with e'; injection e' with e'; exact e'.symm), by simp⟩
end

end Go.Proofs.YthjpighlcalocaaGreatDoor
