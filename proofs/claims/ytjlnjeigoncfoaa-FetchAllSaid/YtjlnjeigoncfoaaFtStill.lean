/-
  packthreadkeep.FetchStill.
-/
import Derived.Test.YtjlnjeigoncfoaaFtPlay
import Derived.Test.YtjlnjeigoncfoaaFtStillMath
import Derived.Test.YtjlnjeigoncfoaaStream
import Derived.Test.YtjlnjeigoncfoaaSameKeep
namespace Go.Proofs.Ytjlnjeigoncfoaa
open Go.RowKit
set_option linter.unusedVariables false
set_option linter.unusedSimpArgs false

/-- Gots that a builder made lie where they say, and in none of S -/
def GEI1 (w : World) (S : Nat → Prop) (x : Gv) : Prop := Ls byS w x.A x.g.data ∧ x.g.data.length = x.n ∧ x.n ≤ 100 ∧ Clear (fun k => S k ∨ w.heap.size ≤ k) x.A
def GEI (w : World) (S : Nat → Prop) (l : List Gv) : Prop := ∀ x ∈ l, GEI1 w S x
theorem GEI.only {w w' : World} {S S' T : Nat → Prop} {l : List Gv} (h : GEI w S l) (ho : Only S' w w') (hS : ∀ k, S' k → S k ∨ w.heap.size ≤ k) (hT : ∀ k, T k → S k ∨ w.heap.size ≤ k) : GEI w' T l := fun x hx => by
  obtain ⟨h1, h2, h3, h5⟩ := h x hx
  refine ⟨h1.only ho (h5.mono hS), h2, h3, h5.mono fun k hk => ?_⟩
  rcases hk with hk | hk
  · exact hT k hk
  · exact .inr (Nat.le_trans ho.size hk)
theorem GEI.new {w w' : World} {S : Nat → Prop} {l : List Gv} (h : GEI w S l) (hb : Below w.heap.size w w') : GEI w' S l := h.only (S' := fun _ => False) (only_new hb) (fun _ h => h.elim) (fun _ h => .inl h)
theorem GEI.app {w : World} {S : Nat → Prop} {l : List Gv} {x : Gv} (h : GEI w S l) (h1 : GEI1 w S x) : GEI w S (l ++ [x]) := fun y hy => by
  rcases List.mem_append.1 hy with hy | hy
  · exact h y hy
  · simp at hy; subst hy; exact h1
theorem GEI.gin {w : World} {S : Nat → Prop} {l : List Gv} (h : GEI w S l) : GIn w l := fun x hx => by
  obtain ⟨h1, h2, h3, -⟩ := h x hx
  exact ⟨h1, h2, by omega⟩
/-- how far the first loop has come -/
def StI (w1 : World) (n : Nat) (zs : List Int) (v i : Value) (wr : World) : Prop :=
  ∃ (k : Nat) (A : Option Addr) (c : Nat) (lb : List Gv) (os : List Nat), k ≤ n ∧ k ≤ 60 ∧ i = .int .i64 k ∧ v = .slice A k c ∧ OwnL gtS 42 wr w1.heap.size A k c lb ∧ lb.map Gv.g = os.map (gk zs) ∧ GEI wr (fun j => (Value.slice A k c).ownBlock = some j) lb ∧ Below w1.heap.size w1 wr

def StE (w1 : World) (zs : List Int) (v : Value) (wr : World) : Prop :=
  ∃ (k : Nat) (A : Option Addr) (c : Nat) (lb : List Gv) (os : List Nat), k ≤ 60 ∧ v = .slice A k c ∧ OwnL gtS 42 wr w1.heap.size A k c lb ∧ lb.map Gv.g = os.map (gk zs) ∧ GEI wr (fun j => (Value.slice A k c).ownBlock = some j) lb ∧ Below w1.heap.size w1 wr
/-- two rows that grow by turns -/
structure P2 (w6 w : World) (Ab : Option Addr) (nb cb : Nat) (lb : List Gv) (Aw : Option Addr) (nw cw : Nat) (lw : List Nv) : Prop where
  b : OwnL gtS 42 w w6.heap.size Ab nb cb lb
  n : OwnL neS 30 w w6.heap.size Aw nw cw lw
  apart : Apart (.slice Ab nb cb) (.slice Aw nw cw)
  bel : Below w6.heap.size w6 w
theorem P2.addB {w6 w w8 : World} {Ab Aw A8 : Option Addr} {nb cb nw cw c8 : Nat} {lb : List Gv} {lw : List Nv} {y : Gv} (h : P2 w6 w Ab nb cb lb Aw nw cw lw) {ob : Obj} (ho : OwnL gtS 42 w8 w6.heap.size A8 (nb + 1) c8 (lb ++ [y])) (hb : Below w6.heap.size (w.alloc ob) w8) (hs : Beside (.slice Ab nb cb) (.slice A8 (nb + 1) c8) (w.alloc ob) w8) :
    P2 w6 w8 A8 (nb + 1) c8 (lb ++ [y]) Aw nw cw lw := by
  have z := h.bel.size
  refine ⟨ho, (h.n.below (ba1 _ _)).beside hs h.apart.symm, (h.apart.symm.grow hs fun k hk => ?_).symm, (h.bel.trans ((ba1 w ob).mono z)).trans hb⟩
  exact ((h.n.below (ba1 w ob)).lt k hk).2
theorem P2.addN {w6 w w8 : World} {Ab Aw A8 : Option Addr} {nb cb nw cw c8 : Nat} {lb : List Gv} {lw : List Nv} {y : Nv} (h : P2 w6 w Ab nb cb lb Aw nw cw lw) {ob : Obj} (ho : OwnL neS 30 w8 w6.heap.size A8 (nw + 1) c8 (lw ++ [y])) (hb : Below w6.heap.size (w.alloc ob) w8) (hs : Beside (.slice Aw nw cw) (.slice A8 (nw + 1) c8) (w.alloc ob) w8) :
    P2 w6 w8 Ab nb cb lb A8 (nw + 1) c8 (lw ++ [y]) := by
  have z := h.bel.size
  refine ⟨(h.b.below (ba1 _ _)).beside hs h.apart, ho, h.apart.grow hs fun k hk => ?_, (h.bel.trans ((ba1 w ob).mono z)).trans hb⟩
  exact ((h.b.below (ba1 w ob)).lt k hk).2
/-- lists that are told lie where they say -/
def NIn (w : World) (l : List Nv) : Prop := ∀ x ∈ l, x.x.data.length = x.n ∧ Ls byS w x.A x.x.data ∧ x.x.wants.length = x.m ∧ x.n ≤ 2148
theorem NIn.below {w w' : World} {l : List Nv} (h : NIn w l) (hb : Below w.heap.size w w') : NIn w' l := fun x hx => by
  obtain ⟨h1, h2, h3, h4⟩ := h x hx
  exact ⟨h1, h2.below hb, h3, h4⟩
/-- how far the second loop has come -/
def St2 (w6 : World) (s0 : Fs) (ps : List (Gt × Option Gt)) (na : Nat) (b v i : Value) (wr : World) : Prop :=
  ∃ (k nb : Nat) (Ab : Option Addr) (cb : Nat) (lb : List Gv) (Aw : Option Addr) (cw : Nat) (lw : List Nv), k ≤ na ∧ i = .int .i64 k ∧ b = .slice Ab nb cb ∧ v = .slice Aw nb cw ∧ P2 w6 wr Ab nb cb lb Aw nb cw lw ∧ lb.map Gv.g = mixB s0 (ps.take k) ∧ lw.map Nv.x = mixW s0 (ps.take k) ∧ GIn w6 lb ∧ NIn w6 lw
theorem next_bd (s : Fs) (hs : FsOk s) (known : Nat) : (nextT known s).1.data.length ≤ 2148 := by
  have := (hs.on).len
  show (if came (askOn s) then (askOn s).dat.take (askOn s).fin.toNat else []).length ≤ 2148
  split
  · rw [List.length_take, this]; exact Nat.min_le_right _ _
  · simp
theorem take_bd (s : Fs) (hs : FsOk s) (g : Gt) : (takeG s g).1.data.length ≤ 2148 := by
  unfold takeG
  split
  · rename_i hg
    split
    · simp
    · rename_i hn; exact next_bd _ (hs.got g hg hn) _
  · simp
theorem fold_bd : ∀ (l : List Gt) (s : Fs), FsOk s → ∀ x ∈ (fold s l).1, x.data.length ≤ 2148
  | [], s, _, x, hx => by cases hx
  | g :: t, s, hs, x, hx => by
    rcases List.mem_cons.1 hx with rfl | hx
    · exact take_bd s hs g
    · exact fold_bd t _ (hs.take g) x hx
theorem fetch_bd (l : List Gt) : ∀ x ∈ fetchT l, x.data.length ≤ 2148 := fun x hx => by
  rcases List.mem_cons.1 hx with rfl | hx
  · exact next_bd _ fsOk0 _
  · exact fold_bd l _ fsOk0.on x hx
theorem fold_get : ∀ (l : List Gt) (s : Fs) (k : Nat) (g : Gt), l[k]? = some g → (fold s l).1[k]? = some (takeG (fold s (l.take k)).2 g).1
  | [], s, k, g, h => by simp at h
  | x :: t, s, 0, g, h => by simp at h; subst h; rfl
  | x :: t, s, k + 1, g, h => by
    have := fold_get t (takeG s x).2 k g (by simpa using h)
    simpa [fold] using this
/-- the cells of what is told -/
theorem ne_cells {w : World} {base gX n c : Nat} {l : List Nv} (h : OwnL neS 30 w base (some ⟨gX, 0, none⟩) n c l) (k : Nat) (x : Nv) (hx : l[k]? = some x) :
    w.cell? ⟨gX, k * 4, none⟩ = some (.int .i64 x.x.code) ∧ w.cell? ⟨gX, k * 4 + 1, none⟩ = some (.slice x.S x.m x.e) ∧ w.cell? ⟨gX, k * 4 + 2, none⟩ = some (.bool x.x.done) ∧ w.cell? ⟨gX, k * 4 + 3, none⟩ = some (.slice x.A x.n x.c) := by
  obtain ⟨b, o, e, -, hc⟩ := h.ls.at k x hx
  injection e with e
  injection e with e1 e2
  subst e1; subst e2
  have h0 := hc 0 _ rfl
  have h1 := hc 1 _ rfl
  have h2 := hc 2 _ rfl
  have h3 := hc 3 _ rfl
  simp only [neS, Nat.add_zero, Nat.zero_add] at h0 h1 h2 h3
  exact ⟨h0, h1, h2, h3⟩
theorem gt_cells2 {w : World} {base gX n c : Nat} {l : List Gv} (h : OwnL gtS 42 w base (some ⟨gX, 0, none⟩) n c l) (k : Nat) (x : Gv) (hx : l[k]? = some x) :
    w.cell? ⟨gX, k * 3, none⟩ = some (.int .i64 x.g.at_) ∧ w.cell? ⟨gX, k * 3 + 1, none⟩ = some (.int .i64 x.g.cnt) ∧ w.cell? ⟨gX, k * 3 + 2, none⟩ = some (.slice x.A x.n x.c) := by
  obtain ⟨b, o, e, -, hc⟩ := h.ls.at k x hx
  injection e with e
  injection e with e1 e2
  subst e1; subst e2
  have h0 := hc 0 _ rfl
  have h1 := hc 1 _ rfl
  have h2 := hc 2 _ rfl
  simp only [gtS, Nat.add_zero, Nat.zero_add] at h0 h1 h2
  exact ⟨h0, h1, h2⟩
theorem odd_cells {z : Int} {p : Nat} (h : (p : Int) = z % 99) : #[Value.int .i64 (1 + (p : Int)), .int .i64 100, .slice none 0 0] = (gtS.flat [⟨oddK z, none, 0, 0⟩]).toArray := by
  rw [h]; rfl
theorem gin_app {w : World} {l : List Gv} {x : Gv} (h : GIn w l) (hx : Ls byS w x.A x.g.data ∧ x.g.data.length = x.n ∧ x.n ≤ 140737488355328) : GIn w (l ++ [x]) := fun y hy => by
  rcases List.mem_append.1 hy with hy | hy
  · exact h y hy
  · simp at hy; subst hy; exact hx
theorem nin_app {w : World} {l : List Nv} {x : Nv} (h : NIn w l) (hx : x.x.data.length = x.n ∧ Ls byS w x.A x.x.data ∧ x.x.wants.length = x.m ∧ x.n ≤ 2148) : NIn w (l ++ [x]) := fun y hy => by
  rcases List.mem_append.1 hy with hy | hy
  · exact h y hy
  · simp at hy; subst hy; exact hx
theorem gt_cells {zs : List Int} {o at_ : Nat} (h : at_ = o * 100) (A : Option Addr) (n c : Nat) : #[Value.int .i64 (at_ : Int), .int .i64 100, .slice A n c] = (gtS.flat [⟨gk zs o, A, n, c⟩]).toArray := by
  subst h; rfl
theorem gk_len {zs : List Int} {o at_ : Nat} (h : at_ = o * 100) : (gk zs o).data = (zs.drop at_).take 100 := by subst h; rfl
theorem sti_next {w1 wr w5 w8 : World} {n : Nat} {zs : List Int} {k : Nat} {Ak A8 A5 : Option Addr} {ck c8 m c5 : Nat} {lb : List Gv} {os : List Nat}
    (hlt : k < n) (h60 : k < 60) (hown : OwnL gtS 42 wr w1.heap.size Ak k ck lb) (hmp : lb.map Gv.g = os.map (gk zs)) (hgei : GEI wr (fun j => (Value.slice Ak k ck).ownBlock = some j) lb) (hbw : Below w1.heap.size w1 wr)
    (o : Nat) (hd : Ls byS w5 A5 (gk zs o).data) (hcl : ∀ a, A5 = some a → wr.heap.size ≤ a.block ∧ a.block < w5.heap.size) (hlen : (gk zs o).data.length = m) (hm : m ≤ 100) (h5 : Below wr.heap.size wr w5) (ob : Obj)
    (ho8 : OwnL gtS 42 w8 w1.heap.size A8 (k + 1) c8 (lb ++ [⟨gk zs o, A5, m, c5⟩])) (hb8 : Below w1.heap.size (w5.alloc ob) w8) (hs8 : Beside (.slice Ak k ck) (.slice A8 (k + 1) c8) (w5.alloc ob) w8) :
    StI w1 n zs (.slice A8 (k + 1) c8) (.int .i64 ((k + 1 : Nat) : Int)) w8 := by
  have z1 := hbw.size
  have z2 := h5.size
  refine ⟨k + 1, A8, c8, _, os ++ [o], by omega, by omega, rfl, rfl, ho8, by rw [List.map_append, List.map_append, hmp]; rfl, ?_, ((hbw.trans (h5.mono z1)).trans ((ba1 w5 _).mono (by omega))).trans hb8⟩
  have hg5 : GEI w5 (fun j => (Value.slice Ak k ck).ownBlock = some j) (lb ++ [⟨gk zs o, A5, m, c5⟩]) := (hgei.new h5).app ⟨hd, hlen, hm, fun a ha g => by
    obtain ⟨q1, q2⟩ := hcl a ha
    rcases g with g | g
    · have := (hown.lt _ g).2; omega
    · omega⟩
  exact (hg5.new (ba1 _ _)).only (hs8.only hb8) (fun j hj => .inl hj) (fun j hj => hs8.own j hj)

set_option maxRecDepth 100000 in
set_option maxHeartbeats 16000000 in
theorem walkFetchStill (seed size : Int) (A : Option Addr) (n c : Nat) (l : List Int) (A2 : Option Addr) (n2 c2 : Nat) (l2 : List Int) (w : World) (s1 : -9223372036854775808 ≤ seed) (s2 : seed ≤ 9223372036854775807) (z1 : -9223372036854775808 ≤ size) (z2 : size ≤ 9223372036854775807)
    (hb : Ls inS w A l) (hn : l.length = n) (hc : n ≤ c) (hr : c ≤ 17592186043904) (hi : ∀ z ∈ l, i64in z) (hb2 : Ls inS w A2 l2) (hn2 : l2.length = n2) (hc2 : n2 ≤ c2) (hr2 : c2 ≤ 17592186043904) (hi2 : ∀ z ∈ l2, i64in z) :
    Calls Try.prog 5 #[.int .i64 seed, .int .i64 size, .slice A n c, .slice A2 n2 c2] w fun e w' => e = .returned (.bool true) ∧ Below w.heap.size w w' := by
  have HL := Lib.hid hb
  have HN := Lib.hid hn
  have HI := Lib.hid hi
  have HL2 := Lib.hid hb2
  have HN2 := Lib.hid hn2
  have HI2 := Lib.hid hi2
  obtain ⟨sz, hsz, hsz2⟩ := pick_nat size 600 (by omega)
  have HST := Lib.hid (stream_any seed sz w s1 s2 (by omega))
  clear hb hn hi hb2 hn2 hi2
  go_enter Try.func5, Try.ntmps5
  go_upto_block 0 with (first
    | (go_at_call 10; (with_reducible refine (picked_n size 600 sz _ hsz z1 z2 (by omega) (by omega)).mono ?_); rintro e w' ⟨rfl, rfl⟩)
    | (go_at_call 9; (with_reducible refine HST.out.mono ?_); rintro e w1 ⟨F, cf, zs, rfl, hof, hzz, hb1⟩; have HF := Lib.hid hof; have HB1 := Lib.hid hb1; clear hof hzz hb1))
  have hfl := HF.out.1
  have hfc := HF.out.cap
  have haddr := HF.out.addr
  have HFL := Lib.hid hfl
  have HAD := Lib.hid haddr
  clear hfl haddr
  go_cut [10] (fun v wc => StE w1 zs v wc)
  case first =>
    go_wp2
    go_loopw [10, 11] (fun v i wr => StI w1 n zs v i wr) (fun _ i _ => 61 - (intOf i).toNat)
    case atStart => exact ⟨0, none, 0, [], [], Nat.zero_le _, Nat.zero_le _, rfl, rfl, OwnL.nil _ _, rfl, (fun x hx => by cases hx), Below.refl _ _⟩
    case round =>
      obtain ⟨k, Ak, ck, lb, os, hk, hk60, rfl, rfl, hown, hmp, hgei, hbw⟩ := hrel
      have HOW := Lib.hid hown
      have HMP := Lib.hid hmp
      have HGE := Lib.hid hgei
      have HBW := Lib.hid hbw
      clear hown hmp hgei hbw
      by_cases hlt : k < n
      · by_cases h60 : k < 60
        · have hki : (k : Int) < (n : Int) := by omega
          have hk6 : (k : Int) < 60 := by omega
          obtain ⟨z, hz⟩ : ∃ z, l[k]? = some z := ⟨_, List.getElem?_eq_getElem (by rw [HN.out]; exact hlt)⟩
          obtain ⟨bL, oL, rfl, hbl, hcc⟩ := ((HL.out.below HB1.out).below HBW.out).at k z hz
          have g0 := hcc 0 (.int .i64 z) rfl
          simp only [inS, Nat.add_zero, Nat.mul_one] at g0
          obtain ⟨zi1, zi2⟩ := HI.out z (List.mem_of_getElem? hz)
          obtain ⟨o, ho, ho9⟩ := pick_nat z 9 (by omega)
          obtain ⟨at_, hat⟩ : ∃ a : Nat, a = o * 100 := ⟨_, rfl⟩
          have e1 : IntKind.i64.wrap ((o : Int) * 100) = (at_ : Int) := by rw [IntKind.wrap_i64]; omega
          have HAT := Lib.hid hat
          have hat9 : at_ ≤ 900 := by omega
          obtain ⟨t, htt⟩ : ∃ t : Nat, t = at_ + 100 := ⟨_, rfl⟩
          have e2 : IntKind.i64.wrap ((at_ : Int) + 100) = (t : Int) := by rw [IntKind.wrap_i64]; omega
          clear hcc hz hat
          by_cases hin : at_ < sz
          · have hini : (at_ : Int) < (sz : Int) := by omega
            obtain ⟨gF, hgF⟩ : ∃ gF, F = some ⟨gF, 0, none⟩ := by
              rcases HAD.out with ⟨-, h0, -⟩ | ⟨gF, h, -⟩
              · omega
              · exact ⟨gF, h⟩
            subst hgF
            have hca : ¬ cf = at_ := by omega
            have y1 : (at_ : Int) ≤ (t : Int) := by omega
            have y2 : (at_ : Int) ≤ (sz : Int) := by omega
            have y3 : (sz : Int) ≤ (cf : Int) := by omega
            obtain ⟨en, hen⟩ : ∃ e : Nat, e = min t sz := ⟨_, rfl⟩
            have y4 : (at_ : Int) ≤ (en : Int) := by omega
            have y5 : (en : Int) ≤ (cf : Int) := by omega
            have y7 : (en : Int) ≤ (sz : Int) := by omega
            have y8 : en ≤ at_ + 100 := by omega
            obtain ⟨m, hm⟩ : ∃ m, m = en - at_ := ⟨_, rfl⟩
            have hm100 : m ≤ 100 := by omega
            have HML : Hid (((zs.drop at_).take 100).length = m) := Lib.hid (by rw [List.length_take, List.length_drop, HFL.out]; omega)
            have HSL : Hid (∀ wx, Below w1.heap.size w1 wx → Ls byS wx (some ⟨gF, at_, none⟩) ((zs.drop at_).take 100)) := Lib.hid (fun wx hx => by
              have := ((HF.out.below hx).ls.drop1 rfl at_).take 100
              rwa [Nat.zero_add] at this)
            have hcs : (t ≤ sz ∧ en = t) ∨ (sz < t ∧ en = sz) := by omega
            have HM := Lib.hid hm
            clear hen htt hm
            rcases hcs with ⟨q, he⟩ | ⟨q, he⟩
            · have q1 : (t : Int) ≤ (sz : Int) := by omega
              subst he
              clear q
              go_upto_region 9 with (go_at_call 10; (with_reducible refine (picked_n z 9 o _ ho zi1 zi2 (by omega) (by omega)).mono ?_); rintro e wq ⟨rfl, hq⟩; subst wq)
              go_upto_region 10 with (at_builtin; refine wpList_appL (F := byS) rfl _ (.tmp 48) (.tmp 56) 28 rfl _ 1 Try.underlying28 byInfo rfl wr.heap.size none 0 0 [] rfl (OwnL.nil _ _) (some ⟨gF, at_, none⟩) (en - at_) (cf - at_) ((zs.drop at_).take 100) rfl (HSL.out _ HBW.out) (by rw [← HM.out]; exact HML.out) m (by rw [HM.out]; omega) (by omega) (by omega) (by omega) ?_; intro A5 c5 w5 ho5 hb5 _; have O5 := Lib.hid ho5; have B5 := Lib.hid hb5; clear ho5 hb5)
              go_wp2_with (at_builtin; refine wpList_appL (F := gtS) rfl _ (.tmp 58) (.tmp 62) 22 rfl _ 40 Try.underlying22 gtInfo rfl w1.heap.size Ak k ck lb rfl ((HOW.out.below B5.out).below (ba1 _ _)) (some ⟨w5.heap.size, 0, none⟩) 1 1 [⟨gk zs o, A5, m, c5⟩] rfl (ls_new w5 _ _ _ (gt_cells HAT.out _ _ _) _ rfl) rfl (k + 1) rfl (by omega) (by omega) (by have := HBW.out.size; have := B5.out.size; simp; omega) ?_; intro A8 c8 w8 ho8 hb8 hs8; have HO8 := Lib.hid ho8; have HB8 := Lib.hid hb8; have HS8 := Lib.hid hs8; clear ho8 hb8 hs8)
              refine ⟨?_, by simp [intOf]; omega⟩
              exact sti_next hlt h60 HOW.out HMP.out HGE.out HBW.out o (by rw [gk_len HAT.out]; exact O5.out.ls) (fun a ha => (O5.out.lt a.block (by rw [ha]; rfl))) (by rw [gk_len HAT.out, HML.out]) hm100 B5.out _ HO8.out HB8.out HS8.out
            · have q1 : ¬ (t : Int) ≤ (sz : Int) := by omega
              have q2 : (sz : Int) < (t : Int) := by omega
              subst he
              clear q
              go_upto_region 9 with (go_at_call 10; (with_reducible refine (picked_n z 9 o _ ho zi1 zi2 (by omega) (by omega)).mono ?_); rintro e wq ⟨rfl, hq⟩; subst wq)
              go_upto_region 10 with (at_builtin; refine wpList_appL (F := byS) rfl _ (.tmp 48) (.tmp 56) 28 rfl _ 1 Try.underlying28 byInfo rfl wr.heap.size none 0 0 [] rfl (OwnL.nil _ _) (some ⟨gF, at_, none⟩) (en - at_) (cf - at_) ((zs.drop at_).take 100) rfl (HSL.out _ HBW.out) (by rw [← HM.out]; exact HML.out) m (by rw [HM.out]; omega) (by omega) (by omega) (by omega) ?_; intro A5 c5 w5 ho5 hb5 _; have O5 := Lib.hid ho5; have B5 := Lib.hid hb5; clear ho5 hb5)
              go_wp2_with (at_builtin; refine wpList_appL (F := gtS) rfl _ (.tmp 58) (.tmp 62) 22 rfl _ 40 Try.underlying22 gtInfo rfl w1.heap.size Ak k ck lb rfl ((HOW.out.below B5.out).below (ba1 _ _)) (some ⟨w5.heap.size, 0, none⟩) 1 1 [⟨gk zs o, A5, m, c5⟩] rfl (ls_new w5 _ _ _ (gt_cells HAT.out _ _ _) _ rfl) rfl (k + 1) rfl (by omega) (by omega) (by have := HBW.out.size; have := B5.out.size; simp; omega) ?_; intro A8 c8 w8 ho8 hb8 hs8; have HO8 := Lib.hid ho8; have HB8 := Lib.hid hb8; have HS8 := Lib.hid hs8; clear ho8 hb8 hs8)
              refine ⟨?_, by simp [intOf]; omega⟩
              exact sti_next hlt h60 HOW.out HMP.out HGE.out HBW.out o (by rw [gk_len HAT.out]; exact O5.out.ls) (fun a ha => (O5.out.lt a.block (by rw [ha]; rfl))) (by rw [gk_len HAT.out, HML.out]) hm100 B5.out _ HO8.out HB8.out HS8.out
          · have hini : ¬ (at_ : Int) < (sz : Int) := by omega
            have HNIL : Hid ((gk zs o).data = []) := Lib.hid (by rw [gk_len HAT.out, List.drop_of_length_le (by rw [HFL.out]; omega)]; rfl)
            clear htt
            go_upto_region 10 with (go_at_call 10; (with_reducible refine (picked_n z 9 o _ ho zi1 zi2 (by omega) (by omega)).mono ?_); rintro e wq ⟨rfl, hq⟩; subst wq)
            go_wp2_with (at_builtin; refine wpList_appL (F := gtS) rfl _ (.tmp 58) (.tmp 62) 22 rfl _ 40 Try.underlying22 gtInfo rfl w1.heap.size Ak k ck lb rfl (HOW.out.below (ba1 _ _)) (some ⟨wr.heap.size, 0, none⟩) 1 1 [⟨gk zs o, none, 0, 0⟩] rfl (ls_new wr _ _ _ (gt_cells HAT.out _ _ _) _ rfl) rfl (k + 1) rfl (by omega) (by omega) (by have := HBW.out.size; simp; omega) ?_; intro A8 c8 w8 ho8 hb8 hs8; have HO8 := Lib.hid ho8; have HB8 := Lib.hid hb8; have HS8 := Lib.hid hs8; clear ho8 hb8 hs8)
            refine ⟨?_, by simp [intOf]; omega⟩
            exact sti_next hlt h60 HOW.out HMP.out HGE.out HBW.out o (by rw [HNIL.out]; exact Ls.nil _ _) (fun a ha => by cases ha) (by rw [HNIL.out]; rfl) (by omega) (Below.refl _ _) _ HO8.out HB8.out HS8.out
        · have hki : (k : Int) < (n : Int) := by omega
          have hk6 : ¬ (k : Int) < 60 := by omega
          go_wp2_with fail
          go_meet
          exact ⟨k, Ak, ck, lb, os, hk60, rfl, HOW.out, HMP.out, HGE.out, HBW.out⟩
      · have hki : ¬ (k : Int) < (n : Int) := by omega
        go_wp2_with fail
        go_meet
        exact ⟨k, Ak, ck, lb, os, hk60, rfl, HOW.out, HMP.out, HGE.out, HBW.out⟩
  case rest =>
    obtain ⟨na, Aa, ca, lb, os, hk60, rfl, hown, hmp, hgei, hbw⟩ := hcut
    have HOWa := Lib.hid hown
    have HMP := Lib.hid hmp
    have HGE := Lib.hid hgei
    have HBW := Lib.hid hbw
    obtain ⟨we, hwe⟩ : ∃ we, we = wc := ⟨_, rfl⟩
    subst hwe
    have HPL : Hid (∀ A5 c5 (w5 : World), Below we.heap.size we w5 → Ls gtS w5 A5 lb → Calls Try.prog 6 #[.slice A5 na c5] w5 (RetN w5 (fetchT (lb.map Gv.g)))) := Lib.hid (fun A5 c5 w5 hb h => fplay_ok A5 na c5 lb w5 (by omega) h HOWa.out.1 (HGE.out.gin.below hb))
    obtain ⟨ts, hts⟩ : ∃ ts, ts = fetchT (lb.map Gv.g) := ⟨_, rfl⟩
    rw [← hts] at HPL
    have HTS := Lib.hid hts
    have HTL : Hid (ts.length = na + 1) := Lib.hid (by rw [hts, fetchT_len, List.length_map, HOWa.out.1])
    clear hown hmp hgei hbw hts
    have hna : IntKind.i64.wrap ((na : Int) + 1) = ((na + 1 : Nat) : Int) := by rw [IntKind.wrap_i64]; omega
    go_upto_region 12 with (first
      | (at_builtin; refine wpList_appL (F := gtS) rfl _ (.const (.slice none 0 0)) (.tmp 65) 22 rfl _ 40 Try.underlying22 gtInfo rfl we.heap.size none 0 0 [] rfl (OwnL.nil _ _) Aa na ca lb rfl HOWa.out.ls HOWa.out.1 na (by omega) (by omega) (by omega) (by omega) ?_; intro A5 c5 w5 ho5 hb5 _; have O5 := Lib.hid ho5; have B5 := Lib.hid hb5; clear ho5 hb5)
      | (go_at_call 6; (with_reducible refine (HPL.out _ _ _ B5.out (by have := O5.out.ls; simpa using this)).mono ?_); rintro e w6 ⟨Ax, cx, lx, rfl, hox, hmx, hex, hbx⟩; have HOX := Lib.hid hox; have HMX := Lib.hid hmx; have HEX := Lib.hid hex; have HBX := Lib.hid hbx; clear hox hmx hex hbx))
    rw [HTL.out] at HOX ⊢
    have HOX0 := HOX.out
    obtain ⟨gX, hgX⟩ : ∃ gX, Ax = some ⟨gX, 0, none⟩ := by
      rcases HOX0.addr with ⟨-, h0, -⟩ | ⟨gX, h, -⟩
      · omega
      · exact ⟨gX, h⟩
    subst hgX
    have hcx := HOX0.cap
    have HXL : Hid (lx.length = na + 1) := Lib.hid HOX0.1
    have HNX : Hid (NIn w6 lx) := Lib.hid (fun x hx => by
      obtain ⟨⟨q1, q2, -⟩, q3, -, -⟩ := HEX.out x hx
      refine ⟨q1, q2, q3, ?_⟩
      rw [← q1]
      exact fetch_bd _ _ (by rw [← HTS.out, ← HMX.out]; exact List.mem_map_of_mem hx))
    obtain ⟨r0, hr0⟩ : ∃ r, r = nextT 0 fs0 := ⟨_, rfl⟩
    have HR0 := Lib.hid hr0
    have HTC : Hid (lx.map Nv.x = r0.1 :: (fold r0.2 (lb.map Gv.g)).1) := Lib.hid (by rw [HMX.out, HTS.out, hr0]; rfl)
    obtain ⟨x0, hx0⟩ : ∃ x, lx[0]? = some x := ⟨_, List.getElem?_eq_getElem (by rw [HXL.out]; omega)⟩
    obtain ⟨k0, k1, k2, k3⟩ := ne_cells HOX0 0 x0 hx0
    have hm6 : x0.m = 6 := by
      have h1 : (lx.map Nv.x)[0]? = some x0.x := by rw [List.getElem?_map, hx0]; rfl
      rw [HTC.out] at h1
      have h2 : r0.1 = x0.x := by simpa using h1
      rw [← (HNX.out x0 (List.mem_of_getElem? hx0)).2.2.1, ← h2, HR0.out]
      exact first_six
    rw [hm6] at k1
    simp only [Nat.zero_mul, Nat.zero_add] at k0 k1 k2 k3
    have HK0 : Hid (FsOk r0.2) := Lib.hid (by rw [hr0]; exact fsOk0.on)
    have HI0 : Hid (Inv100 r0.2) := Lib.hid (by rw [hr0]; exact inv0.on)
    clear HOX0 hx0 hr0 hm6
    have j1 : (((na + 1 : Nat) : Int)) = (na : Int) + 1 := by omega
    go_upto_region 14 with fail
    clear k0 k1 k2 k3
    go_wp2
    obtain ⟨ps, hps⟩ : ∃ ps, ps = zipO (lb.map Gv.g) l2 := ⟨_, rfl⟩
    have HPS := Lib.hid hps
    have HPF : Hid (ps.map Prod.fst = lb.map Gv.g) := Lib.hid (by rw [hps]; exact zipO_fst _ _)
    have HB56 : Hid (Below we.heap.size we w6) := Lib.hid (bthen B5.out HBX.out)
    have HGI6 : Hid (GIn w6 lb) := Lib.hid (HGE.out.gin.below HB56.out)
    have HLW : Hid (∀ wx, Below w6.heap.size w6 wx → Ls inS wx A2 l2) := Lib.hid (fun wx hx => ((((HL2.out.below HB1.out).below HBW.out).below HB56.out).below hx))
    have HLA : Hid (lb.length = na) := Lib.hid HOWa.out.1
    clear hps
    go_loopw [16, 17, 18] (fun b v i wr => St2 w6 r0.2 ps na b v i wr) (fun _ _ i _ => na - (intOf i).toNat)
    case atStart => exact ⟨0, 0, none, 0, [], none, 0, [], Nat.zero_le _, rfl, rfl, rfl, ⟨OwnL.nil _ _, OwnL.nil _ _, Apart.nil _ _ _, Below.refl _ _⟩, rfl, rfl, (fun x hx => by cases hx), (fun x hx => by cases hx)⟩
    case round =>
      obtain ⟨k, nb, Ab, cb, lb2, Aw, cw, lw2, hk, rfl, rfl, rfl, hp2, hmb, hmw, hgb, hnw⟩ := hrel
      have HP2 := Lib.hid hp2
      have HMB := Lib.hid hmb
      have HMW := Lib.hid hmw
      have HGB := Lib.hid hgb
      have HNW := Lib.hid hnw
      have HNB : Hid (nb ≤ 2 * k) := Lib.hid (by
        have h1 := hp2.b.1
        have h2 := congrArg List.length hmb
        rw [List.length_map, h1] at h2
        have h3 := (mix_len (ps.take k) r0.2).1
        rw [← h2, List.length_take] at h3
        omega)
      have hnb : nb ≤ 2 * k := HNB.out
      have hwr6 := hp2.bel.size
      clear hp2 hmb hmw hgb hnw
      by_cases hlt : k < na
      · have hki : (k : Int) < (na : Int) := by omega
        obtain ⟨y, hy⟩ : ∃ y, lb[k]? = some y := ⟨_, List.getElem?_eq_getElem (by rw [HLA.out]; exact hlt)⟩
        obtain ⟨x, hx⟩ : ∃ x, lx[k + 1]? = some x := ⟨_, List.getElem?_eq_getElem (by rw [HXL.out]; omega)⟩
        have hwk : IntKind.i64.wrap ((k : Int) + 1) = ((k + 1 : Nat) : Int) := by rw [IntKind.wrap_i64]; omega
        have hk1 : ((k + 1 : Nat) : Int) < ((na + 1 : Nat) : Int) := by omega
        have HOX2 := Lib.hid ((HOX.out.below HP2.out.bel))
        obtain ⟨kx0, kx1, kx2, kx3⟩ := ne_cells HOX2.out (k + 1) x hx
        obtain ⟨gA, hgA⟩ : ∃ gA, Aa = some ⟨gA, 0, none⟩ := by
          rcases HOWa.out.addr with ⟨-, h0, -⟩ | ⟨gX, h, -⟩
          · omega
          · exact ⟨gX, h⟩
        have HOA2 := Lib.hid ((HOWa.out.below HB56.out).below HP2.out.bel)
        have HGX : Hid (x.x = (takeG (fold r0.2 ((lb.map Gv.g).take k)).2 y.g).1) := Lib.hid (by
          have h1 : (lx.map Nv.x)[k + 1]? = some x.x := by rw [List.getElem?_map, hx]; rfl
          rw [HTC.out] at h1
          have h2 := fold_get (lb.map Gv.g) r0.2 k y.g (by rw [List.getElem?_map, hy]; rfl)
          have h1' : (fold r0.2 (lb.map Gv.g)).1[k]? = some x.x := by simpa using h1
          rw [h2] at h1'
          injection h1' with h1'
          exact h1'.symm)
        have HPK : Hid (ps[k]? = some (y.g, (l2[k]?).map oddK)) := Lib.hid (by rw [HPS.out]; exact zipO_get _ _ _ _ (by rw [List.getElem?_map, hy]; rfl))
        obtain ⟨hs1, hs2⟩ := mix_snoc HPK.out r0.2
        rw [HPF.out, ← HGX.out] at hs1 hs2
        have HS1 := Lib.hid hs1
        have HS2 := Lib.hid hs2
        have HYG := Lib.hid (HGI6.out y (List.mem_of_getElem? hy))
        have HXN := Lib.hid (HNX.out x (List.mem_of_getElem? hx))
        subst hgA
        obtain ⟨ky0, ky1, ky2⟩ := gt_cells2 HOA2.out k y hy
        have HX := Lib.hid hx
        clear hs1 hs2 hx hy
        obtain ⟨xc, hxc⟩ : ∃ c, c = x.x.code := ⟨_, rfl⟩
        rw [← hxc] at kx0 HS1 HS2
        have HXC := Lib.hid hxc
        clear hxc
        by_cases hod : k < n2
        · have hoi : (k : Int) < (n2 : Int) := by omega
          obtain ⟨z, hz⟩ : ∃ z, l2[k]? = some z := ⟨_, List.getElem?_eq_getElem (by rw [HN2.out]; exact hod)⟩
          have HZ := Lib.hid hz
          obtain ⟨zi1, zi2⟩ := HI2.out z (List.mem_of_getElem? hz)
          obtain ⟨pz, hpz, hpz9⟩ := pick_nat z 99 (by omega)
          have e9 : IntKind.i64.wrap (1 + (pz : Int)) = 1 + (pz : Int) := by rw [IntKind.wrap_i64]; omega
          obtain ⟨ab, ao, hA2, -⟩ := HL2.out.at k z hz
          have HA2 := Lib.hid hA2
          subst hA2
          clear hz
          by_cases hc0 : xc = 0
          · subst hc0
            go_wp2_with (first
              | (at_builtin; refine wpList_appL (F := gtS) rfl _ (.tmp 101) (.tmp 106) 22 rfl _ 40 Try.underlying22 gtInfo rfl w6.heap.size Ab (nb) cb (lb2) rfl (HP2.out.b.below (ba1 _ _)) (some ⟨wr.heap.size, 0, none⟩) 1 1 [y] rfl (ls_new wr _ _ _ rfl _ rfl) rfl (nb + 1) rfl (by omega) (by omega) (by have := HP2.out.bel.size; simp; omega) ?_; intro A21 c21 w21 ho8 hb8 hs8; have HQ1 := Lib.hid (HP2.out.addB ho8 hb8 hs8); obtain ⟨kz0, kz1, kz2, kz3⟩ := ne_cells (HOX.out.below HQ1.out.bel) (k + 1) x HX.out; rw [← HXC.out] at kz0;  clear ho8 hb8 hs8)
              | (at_builtin; refine wpList_appL (F := neS) rfl _ (.tmp 108) (.tmp 114) 23 rfl _ 64 Try.underlying23 neInfo rfl w6.heap.size Aw (nb) cw (lw2) rfl (HQ1.out.n.below (ba1 _ _)) (some ⟨w21.heap.size, 0, none⟩) 1 1 [x] rfl (ls_new w21 _ _ _ (by rw [HXC.out]; rfl) _ rfl) rfl (nb + 1) rfl (by omega) (by omega) (by have := HQ1.out.bel.size; simp; omega) ?_; intro A22 c22 w22 ho8 hb8 hs8; have HQ2 := Lib.hid (HQ1.out.addN ho8 hb8 hs8); obtain ⟨zb, zo, zA, -, zh⟩ := (HLW.out _ HQ2.out.bel).at k z HZ.out; have zc := zh 0 (.int .i64 z) rfl; rw [HA2.out] at zA; injection zA with zA; injection zA with zA1 zA2; subst zA1; subst zA2; simp only [inS, Nat.add_zero, Nat.mul_one] at zc; clear zh;  clear ho8 hb8 hs8)
              | (go_at_call 10; (with_reducible refine (picked_n z 99 pz _ hpz zi1 zi2 (by omega) (by omega)).mono ?_); rintro e wq ⟨rfl, hq⟩; subst wq)
              | (at_builtin; refine wpList_appL (F := gtS) rfl _ (.tmp 120) (.tmp 128) 22 rfl _ 40 Try.underlying22 gtInfo rfl w6.heap.size A21 (nb + 1) c21 (lb2 ++ [y]) rfl (HQ2.out.b.below (ba1 _ _)) (some ⟨w22.heap.size, 0, none⟩) 1 1 [⟨oddK z, none, 0, 0⟩] rfl (ls_new w22 _ _ _ (odd_cells hpz.out) _ rfl) rfl (nb + 1 + 1) rfl (by omega) (by omega) (by have := HQ2.out.bel.size; simp; omega) ?_; intro A23 c23 w23 ho8 hb8 hs8; have HQ3 := Lib.hid (HQ2.out.addB ho8 hb8 hs8);  clear ho8 hb8 hs8)
              | (at_builtin; refine wpList_appL (F := neS) rfl _ (.tmp 130) (.tmp 132) 23 rfl _ 64 Try.underlying23 neInfo rfl w6.heap.size A22 (nb + 1) c22 (lw2 ++ [x]) rfl (HQ3.out.n.below (ba1 _ _)) (some ⟨w23.heap.size, 0, none⟩) 1 1 [⟨noneX, none, 0, 0, none, 0, 0⟩] rfl (ls_new w23 _ _ _ rfl _ rfl) rfl (nb + 1 + 1) rfl (by omega) (by omega) (by have := HQ3.out.bel.size; simp; omega) ?_; intro A24 c24 w24 ho8 hb8 hs8; have HQ4 := Lib.hid (HQ3.out.addN ho8 hb8 hs8);  clear ho8 hb8 hs8))
            exact ⟨⟨k + 1, nb + 1 + 1, A23, c23, lb2 ++ [y] ++ [⟨oddK z, none, 0, 0⟩], A24, c24, lw2 ++ [x] ++ [⟨noneX, none, 0, 0, none, 0, 0⟩], by omega, by go_num, rfl, rfl, HQ4.out, by rw [HS1.out, HZ.out]; simp [HMB.out], by rw [HS2.out, HZ.out]; simp [HMW.out], (gin_app (gin_app HGB.out HYG.out) ⟨Ls.nil _ _, rfl, Nat.zero_le _⟩), (nin_app (nin_app HNW.out HXN.out) ⟨rfl, Ls.nil _ _, rfl, Nat.zero_le _⟩)⟩, by simp [intOf]; omega⟩
          · have hcb : (xc == 0) = false := by rw [beq_eq_false_iff_ne]; exact hc0
            obtain ⟨zb, zo, zA, -, zh⟩ := (HLW.out _ HP2.out.bel).at k z HZ.out
            have zc := zh 0 (.int .i64 z) rfl
            rw [HA2.out] at zA
            injection zA with zA
            injection zA with zA1 zA2
            subst zA1
            subst zA2
            simp only [inS, Nat.add_zero, Nat.mul_one] at zc
            clear zh
            go_wp2_with (first
              | (go_at_call 10; (with_reducible refine (picked_n z 99 pz _ hpz zi1 zi2 (by omega) (by omega)).mono ?_); rintro e wq ⟨rfl, hq⟩; subst wq)
              | (at_builtin; refine wpList_appL (F := gtS) rfl _ (.tmp 120) (.tmp 128) 22 rfl _ 40 Try.underlying22 gtInfo rfl w6.heap.size Ab (nb) cb (lb2) rfl (HP2.out.b.below (ba1 _ _)) (some ⟨wr.heap.size, 0, none⟩) 1 1 [⟨oddK z, none, 0, 0⟩] rfl (ls_new wr _ _ _ (odd_cells hpz.out) _ rfl) rfl (nb + 1) rfl (by omega) (by omega) (by have := HP2.out.bel.size; simp; omega) ?_; intro A21 c21 w21 ho8 hb8 hs8; have HQ1 := Lib.hid (HP2.out.addB ho8 hb8 hs8);  clear ho8 hb8 hs8)
              | (at_builtin; refine wpList_appL (F := neS) rfl _ (.tmp 130) (.tmp 132) 23 rfl _ 64 Try.underlying23 neInfo rfl w6.heap.size Aw (nb) cw (lw2) rfl (HQ1.out.n.below (ba1 _ _)) (some ⟨w21.heap.size, 0, none⟩) 1 1 [⟨noneX, none, 0, 0, none, 0, 0⟩] rfl (ls_new w21 _ _ _ rfl _ rfl) rfl (nb + 1) rfl (by omega) (by omega) (by have := HQ1.out.bel.size; simp; omega) ?_; intro A22 c22 w22 ho8 hb8 hs8; have HQ2 := Lib.hid (HQ1.out.addN ho8 hb8 hs8);  clear ho8 hb8 hs8))
            exact ⟨⟨k + 1, nb + 1, A21, c21, lb2 ++ [⟨oddK z, none, 0, 0⟩], A22, c22, lw2 ++ [⟨noneX, none, 0, 0, none, 0, 0⟩], by omega, by go_num, rfl, rfl, HQ2.out, by rw [HS1.out, HZ.out, if_neg hc0]; simp [HMB.out], by rw [HS2.out, HZ.out, if_neg hc0]; simp [HMW.out], (gin_app HGB.out ⟨Ls.nil _ _, rfl, Nat.zero_le _⟩), (nin_app HNW.out ⟨rfl, Ls.nil _ _, rfl, Nat.zero_le _⟩)⟩, by simp [intOf]; omega⟩
        · have hoi : ¬ (k : Int) < (n2 : Int) := by omega
          have HZ : Hid (l2[k]? = none) := Lib.hid (List.getElem?_eq_none (by rw [HN2.out]; omega))
          by_cases hc0 : xc = 0
          · subst hc0
            go_wp2_with (first
              | (at_builtin; refine wpList_appL (F := gtS) rfl _ (.tmp 101) (.tmp 106) 22 rfl _ 40 Try.underlying22 gtInfo rfl w6.heap.size Ab (nb) cb (lb2) rfl (HP2.out.b.below (ba1 _ _)) (some ⟨wr.heap.size, 0, none⟩) 1 1 [y] rfl (ls_new wr _ _ _ rfl _ rfl) rfl (nb + 1) rfl (by omega) (by omega) (by have := HP2.out.bel.size; simp; omega) ?_; intro A21 c21 w21 ho8 hb8 hs8; have HQ1 := Lib.hid (HP2.out.addB ho8 hb8 hs8); obtain ⟨kz0, kz1, kz2, kz3⟩ := ne_cells (HOX.out.below HQ1.out.bel) (k + 1) x HX.out; rw [← HXC.out] at kz0;  clear ho8 hb8 hs8)
              | (at_builtin; refine wpList_appL (F := neS) rfl _ (.tmp 108) (.tmp 114) 23 rfl _ 64 Try.underlying23 neInfo rfl w6.heap.size Aw (nb) cw (lw2) rfl (HQ1.out.n.below (ba1 _ _)) (some ⟨w21.heap.size, 0, none⟩) 1 1 [x] rfl (ls_new w21 _ _ _ (by rw [HXC.out]; rfl) _ rfl) rfl (nb + 1) rfl (by omega) (by omega) (by have := HQ1.out.bel.size; simp; omega) ?_; intro A22 c22 w22 ho8 hb8 hs8; have HQ2 := Lib.hid (HQ1.out.addN ho8 hb8 hs8);  clear ho8 hb8 hs8))
            exact ⟨⟨k + 1, nb + 1, A21, c21, lb2 ++ [y], A22, c22, lw2 ++ [x], by omega, by go_num, rfl, rfl, HQ2.out, by rw [HS1.out, HZ.out]; simp [HMB.out], by rw [HS2.out, HZ.out]; simp [HMW.out], (gin_app HGB.out HYG.out), (nin_app HNW.out HXN.out)⟩, by simp [intOf]; omega⟩
          · have hcb : (xc == 0) = false := by rw [beq_eq_false_iff_ne]; exact hc0
            go_wp2_with fail
            exact ⟨⟨k + 1, nb, Ab, cb, lb2, Aw, cw, lw2, by omega, by go_num, rfl, rfl, HP2.out, by rw [HS1.out, HZ.out, if_neg hc0]; simp [HMB.out], by rw [HS2.out, HZ.out, if_neg hc0]; simp [HMW.out], HGB.out, HNW.out⟩, by simp [intOf]; omega⟩
      · obtain rfl : k = na := by omega
        have hki : ¬ (k : Int) < (k : Int) := by omega
        have HPL2 : Hid (ps.take k = ps) := Lib.hid (List.take_of_length_le (by
          have := congrArg List.length HPF.out
          rw [List.length_map, List.length_map, HLA.out] at this
          omega))
        rw [HPL2.out] at HMB HMW
        have HFO : Hid (fetchT (lb2.map Gv.g) = r0.1 :: mixW r0.2 ps) := Lib.hid (by
          have h := mix_fold ps r0.2 HI0.out HK0.out (by rw [HPS.out]; exact zipO_odd _ _)
          have e : fetchT (lb2.map Gv.g) = r0.1 :: (fold r0.2 (lb2.map Gv.g)).1 := by rw [HR0.out]; rfl
          rw [e, HMB.out, h])
        have HY := Lib.hid (fplay_ok Ab nb cb lb2 wr (by omega) HP2.out.b.ls HP2.out.b.1 (fun x hx => by
          obtain ⟨q1, q2, q3⟩ := HGB.out x hx
          exact ⟨q1.below HP2.out.bel, q2, q3⟩))
        obtain ⟨ty, hty⟩ : ∃ t, t = fetchT (lb2.map Gv.g) := ⟨_, rfl⟩
        rw [← hty] at HY HFO
        have HTY : Hid (ty.length = nb + 1) := Lib.hid (by rw [hty, fetchT_len, List.length_map, HP2.out.b.1])
        clear hty
        have hnbw : IntKind.i64.wrap ((nb : Int) + 1) = ((nb + 1 : Nat) : Int) := by rw [IntKind.wrap_i64]; omega
        go_upto_region 26 with (go_at_call 6; (with_reducible refine HY.out.mono ?_); rintro e w7 ⟨Ay, cy, ly, rfl, hoy, hmy, hey, hby⟩; have HOY := Lib.hid hoy; have HMY := Lib.hid hmy; have HEY := Lib.hid hey; have HBY := Lib.hid hby; clear hoy hmy hey hby)
        rw [HTY.out] at HOY ⊢
        have HYL : Hid (ly.length = nb + 1) := Lib.hid HOY.out.1
        have hcy := HOY.out.cap
        obtain ⟨gY, hgY⟩ : ∃ gY, Ay = some ⟨gY, 0, none⟩ := by
          rcases HOY.out.addr with ⟨-, h0, -⟩ | ⟨gX, h, -⟩
          · omega
          · exact ⟨gX, h⟩
        subst hgY
        have HOW7 : Hid (OwnL neS 30 w7 w6.heap.size Aw nb cw lw2) := Lib.hid (HP2.out.n.below HBY.out)
        have HWL : Hid (lw2.length = nb) := Lib.hid HP2.out.n.1
        have j2 : (((nb + 1 : Nat) : Int)) = (nb : Int) + 1 := by omega
        have HEQ : Hid (∀ i (p q : Nv), ly[i + 1]? = some p → lw2[i]? = some q → p.x = q.x) := Lib.hid (fun i p q hp hq => by
          have h1 : (ly.map Nv.x)[i + 1]? = some p.x := by rw [List.getElem?_map, hp]; rfl
          have h2 : (lw2.map Nv.x)[i]? = some q.x := by rw [List.getElem?_map, hq]; rfl
          rw [HMY.out, HFO.out] at h1
          rw [HMW.out] at h2
          have h1' : (mixW r0.2 ps)[i]? = some p.x := by simpa using h1
          rw [h2] at h1'
          injection h1' with h1'
          exact h1'.symm)
        have HBW7 : Hid (Below w.heap.size w w7) := Lib.hid (by
          have z1 := HB1.out.size
          have z2 := HBW.out.size
          have z3 := HB56.out.size
          have z4 := HP2.out.bel.size
          exact (((HB1.out.trans (HBW.out.mono z1)).trans (HB56.out.mono (by omega))).trans (HP2.out.bel.mono (by omega))).trans (HBY.out.mono (by omega)))
        go_wp2_with fail
        go_loopw [21] (fun i wx => ∃ t : Nat, t ≤ nb ∧ i = .int .i64 t ∧ Below w7.heap.size w7 wx) (fun i _ => nb - (intOf i).toNat)
        case atStart => exact ⟨0, Nat.zero_le _, rfl, Below.refl _ _⟩
        case round =>
          obtain ⟨t, ht, rfl, hbt⟩ := hrel
          have HBT := Lib.hid hbt
          clear hbt
          by_cases hlt2 : t < nb
          · have hti : (t : Int) < (nb : Int) := by omega
            have hwt : IntKind.i64.wrap ((t : Int) + 1) = ((t + 1 : Nat) : Int) := by rw [IntKind.wrap_i64]; omega
            have ht1 : ((t + 1 : Nat) : Int) < ((nb + 1 : Nat) : Int) := by omega
            obtain ⟨p, hp⟩ : ∃ p, ly[t + 1]? = some p := ⟨_, List.getElem?_eq_getElem (by rw [HYL.out]; omega)⟩
            obtain ⟨q, hq⟩ : ∃ q, lw2[t]? = some q := ⟨_, List.getElem?_eq_getElem (by rw [HWL.out]; exact hlt2)⟩
            obtain ⟨kp0, kp1, kp2, kp3⟩ := ne_cells (HOY.out.below HBT.out) (t + 1) p hp
            obtain ⟨gW, hgW⟩ : ∃ gW, Aw = some ⟨gW, 0, none⟩ := by
              rcases HOW7.out.addr with ⟨-, h0, -⟩ | ⟨gX, h, -⟩
              · omega
              · exact ⟨gX, h⟩
            subst hgW
            have HGW : Hid (∀ t : Nat, gW < wr.heap.size) := Lib.hid (fun _ => by have := (HOW7.out.lt gW rfl).2; have := HBT.out.size; omega)
            obtain ⟨kq0, kq1, kq2, kq3⟩ := ne_cells (HOW7.out.below HBT.out) t q hq
            have hpq := HEQ.out t p q hp hq
            obtain ⟨⟨p1, p2, -⟩, p3, p4, -⟩ := HEY.out p (List.mem_of_getElem? hp)
            obtain ⟨q1, q2, q3, q4⟩ := HNW.out q (List.mem_of_getElem? hq)
            have em : p.m = q.m := by rw [← p3, ← q3, hpq]
            have en : p.n = q.n := by rw [← p1, ← q1, hpq]
            rw [hpq] at kp0 kp2
            rw [em] at kp1
            rw [en] at kp3
            obtain ⟨qP, hqP⟩ : ∃ q, q = wr.heap.size := ⟨_, rfl⟩
            obtain ⟨wa, hwa⟩ : ∃ x, x = wr.alloc (.cells #[.int .i64 q.x.code, .slice p.S q.m p.e, .bool q.x.done, .slice p.A q.n p.c] 30) := ⟨_, rfl⟩
            have HBa : Hid (Below wr.heap.size wr wa) := Lib.hid (by rw [hwa]; exact ba1 _ _)
            have HXa : Hid (Bx 30 wa qP #[.int .i64 q.x.code, .slice p.S q.m p.e, .bool q.x.done, .slice p.A q.n p.c]) := Lib.hid (by rw [hwa, hqP]; exact bx_new _ _ _)
            obtain ⟨wb, hwb⟩ : ∃ x, x = wa.alloc (.cells #[.int .i64 q.x.code, .slice q.S q.m q.e, .bool q.x.done, .slice q.A q.n q.c] 30) := ⟨_, rfl⟩
            have HBb : Hid (Below wa.heap.size wa wb) := Lib.hid (by rw [hwb]; exact ba1 _ _)
            obtain ⟨qQ, hqQ⟩ : ∃ q, q = wa.heap.size := ⟨_, rfl⟩
            have hPQ : qP ≠ qQ := by have := HXa.out.lt; omega
            have HXb : Hid (Bx 30 wb qQ #[.int .i64 q.x.code, .slice q.S q.m q.e, .bool q.x.done, .slice q.A q.n q.c]) := Lib.hid (by rw [hwb, hqQ]; exact bx_new _ _ _)
            have HXab := Lib.hid (HXa.out.below HBb.out)
            have HB7b : Hid (Below w7.heap.size w7 wb) := Lib.hid (bthen (bthen HBT.out HBa.out) HBb.out)
            have HSM := Lib.hid (same_keep p.A q.n p.c q.A q.c q.x.data wb (by rw [← hpq]; exact p2.below HB7b.out) (((q2.below HP2.out.bel).below HBY.out).below HB7b.out) q1 (by omega))
            clear hp hq hpq p1 p2 p3 p4 q1 q2 q3 em en
            go_upto_region 32 with fail
            rw [← hwa, ← hqP]
            have kr0 := (HBa.out.cell (p := ⟨gW, t * 4, none⟩) (HGW.out t)).trans kq0
            have kr1 := (HBa.out.cell (p := ⟨gW, t * 4 + 1, none⟩) (HGW.out t)).trans kq1
            have kr2 := (HBa.out.cell (p := ⟨gW, t * 4 + 2, none⟩) (HGW.out t)).trans kq2
            have kr3 := (HBa.out.cell (p := ⟨gW, t * 4 + 3, none⟩) (HGW.out t)).trans kq3
            clear hwa hqP kp0 kp1 kp2 kp3 kq0 kq1 kq2 kq3
            go_upto_region 33 with fail
            rw [← hwb, ← hqQ]
            clear hwb hqQ kr0 kr1 kr2 kr3
            obtain ⟨ya, y0, y1, y2, y3, -⟩ := HXab.out.cells4
            obtain ⟨yb, y4, y5, y6, y7, -⟩ := HXb.out.cells4
            go_wp2_with (go_at_call 12; (with_reducible refine HSM.out.mono ?_); rintro e w9 ⟨rfl, hb9⟩; have HB9 := Lib.hid hb9; obtain ⟨ya, y0, y1, y2, y3, -⟩ := (HXab.out.below hb9).cells4; obtain ⟨yb, y4, y5, y6, y7, -⟩ := (HXb.out.below hb9).cells4; clear hb9)
            exact ⟨⟨t + 1, by omega, by go_num, bthen HB7b.out HB9.out⟩, by simp [intOf]; omega⟩
          · have hti : ¬ (t : Int) < (nb : Int) := by omega
            go_wp2_with fail
            go_ret
            exact ⟨rfl, HBW7.out.trans (HBT.out.mono HBW7.out.size)⟩

end Go.Proofs.Ytjlnjeigoncfoaa
