/- What this text proves: the parts WhC, FW, Code of the proof, each under its own words. -/
import Derived.Test.YtegahdlfjdjcaaaW31
import Derived.Test.YtegahdlfjdjcaaaW38
import Derived.Test.YtegahdlfjdjcaaaW41
import Derived.Test.YtegahdlfjdjcaaaW00
import Derived.WalkKit
import Derived.LoopTactic
import Derived.IntWalk
import Derived.Lib.Hide
import Derived.BigQuiet
import Derived.Deep.QuietTactic
import Derived.Outline
/- What this text proves: what TakeFrames and PushFrames answer, one after the other, where packer and unpacker are in step. -/
namespace Go.Proofs.Ytegahdlfjdjcaaa
open Go.ChangeShapes Go.WideShapes Go.ChangeAt Go.RowKit
set_option linter.unusedVariables false

theorem tkF_data (c n : Int) (r : ByteArray) (l : List Int) : (tkF c n r l).2.2.2.size ≤ 24 := by
  unfold tkF
  cases tkB c n r l
  · exact Nat.zero_le _
  · show (r.extract 0 24).size ≤ 24
    rw [ByteArray.size_extract]
    omega
theorem totD_app (fs gs : List Fr4) (k : Nat) (hk : k ≤ fs.length) : totD (fs ++ gs) k = totD fs k := by
  induction k with
  | zero => rfl
  | succ k ih =>
    have hg : (fs ++ gs).getD k fr0 = fs.getD k fr0 := by rw [List.getD_eq_getElem?_getD, List.getD_eq_getElem?_getD, List.getElem?_append_left (by omega)]
    simp only [totD]
    rw [ih (by omega), hg]
theorem flT_tot (c : Int) (s : Pa3) (K : Nat) : totD (flT c s K) K ≤ 24 * K := by
  induction K with
  | zero => exact Nat.le_refl _
  | succ K ih =>
    have hlen := flT_len c s K
    have h1 := totD_app (flT c s K) [oneF c (itT c s K)] K (by omega)
    have e3 : (flT c s K ++ [oneF c (itT c s K)]).getD K fr0 = oneF c (itT c s K) := by
      have := getD_last (flT c s K) (oneF c (itT c s K)) fr0
      rwa [hlen] at this
    have h2 := tkF_data c (itT c s K).1 (itT c s K).2.1 (itT c s K).2.2
    simp only [flT, totD]
    rw [h1, e3]
    show totD (flT c s K) K + (tkF c (itT c s K).1 (itT c s K).2.1 (itT c s K).2.2).2.2.2.size ≤ _
    omega
theorem Wh.turn {n : Int} {r : ByteArray} {l : List Int} {t : Un4} {A : List Pk} (h : Wh n r l t A) (hr : r.size ≤ 4900) (hl : l.length ≤ 1000000) :
    ∃ (n' : Int) (r' : ByteArray) (l' : List Int) (t' : Un4) (A' : List Pk) (FL : List Fr) (PL : List Pk), Wh n' r' l' t' A' ∧ PL ++ realQ A' = realQ A ∧ r'.size ≤ 23 ∧ l'.length ≤ l.length ∧ (r.size % 24 = 0 → r'.size = 0) ∧
      (∀ v W b, OwnI W b v l → Calls Try.prog 29 #[paV 0 n r v] W fun e w' => ∃ A1 c1 v2, e = .returned (.tuple #[paV 0 n' r' (.slice A1 l'.length c1), v2]) ∧ OwnI w' W.heap.size (.slice A1 l'.length c1) l' ∧ OwnF w' W.heap.size v2 FL ∧ Below W.heap.size W w') ∧
      (∀ v2 W b, OwnF W b v2 FL → Calls Try.prog 30 #[unV 0 t.1 t.2.1 t.2.2.1 t.2.2.2, v2] W fun e w' => ∃ A1 c1, e = .returned (.tuple #[unV 0 t'.1 t'.2.1 t'.2.2.1 t'.2.2.2, .slice A1 PL.length c1]) ∧ OwnP w' W.heap.size (.slice A1 PL.length c1) PL ∧ Below W.heap.size W w') := by
  obtain ⟨K, hK, hK24⟩ := runs_ex 0 (n, r, l)
  have hKs : 24 * K ≤ r.size := hK24
  obtain ⟨A1, A2, hA, hpl, hW⟩ := h.frames K hK.1
  have hsz : (itT 0 (n, r, l) K).2.1.size + 24 * K = r.size := itT_size K hK.1
  have hlen := flT_len 0 (n, r, l) K
  have htot := flT_tot 0 (n, r, l) K
  have hlt : (itT 0 (n, r, l) K).2.1.size ≤ 23 := by
    by_cases h24 : 24 ≤ (itT 0 (n, r, l) K).2.1.size
    · have h1 := hK.2
      unfold oneB at h1
      rw [tkB_yes ⟨hW.pa, h24⟩] at h1
      exact absurd h1 (by simp)
    · omega
  have hll := (itT_le 0 (n, r, l) K).2
  refine ⟨_, _, _, stP 0 t (flT 0 (n, r, l) K) K, A2, flT 0 (n, r, l) K, realQ A1, hW, by rw [hA, realQ_app], hlt, hll, fun h0 => by omega, fun v W b ho => ?_, fun v2 W b ho => ?_⟩
  · obtain ⟨A1', c1', rfl⟩ := ho.form
    refine (takes_impl 0 n r A1' l c1' K (by omega) (by omega) hK (by omega) W ho.ints).mono ?_
    rintro e w' ⟨v, v2, h1, h2, h3, h4⟩
    obtain ⟨A3, c3, rfl⟩ := h2.form
    exact ⟨A3, c3, v2, h1, h2, h3, h4⟩
  · have h43 := h.rest
    have hp := pushes_impl 0 t.1 t.2.1 t.2.2.1 t.2.2.2 (flT 0 (n, r, l) K) v2 b (by rw [hlen]; omega) (by omega) W ho
    refine hp.mono ?_
    rintro e w' ⟨v, h1, h2, h3⟩
    rw [hlen] at h1 h2
    rw [hpl] at h2
    obtain ⟨A3, c3, hv⟩ := h2.form
    rw [List.length_map] at hv
    subst hv
    exact ⟨A3, c3, h1, h2, h3⟩
end Go.Proofs.Ytegahdlfjdjcaaa
/- What this text proves: the boxes of a law over a packer, an unpacker and the packets that have come out: they stay, they are written. -/
namespace Go.Proofs.Ytegahdlfjdjcaaa
open Go.ChangeShapes Go.WideShapes Go.ChangeAt Go.RowKit
set_option linter.unusedVariables false

/-- A packer's box, an unpacker's box, the Starts of the one at hand, the packets so far; what lies in b stays. -/
structure FW (b W : World) (gP gU : Nat) (p u : List Value) (vl : Value) (l : List Int) (v6 : Value) (G : List Pk) : Prop where
  below : Below b.heap.size b W
  bp : Box W gP p
  bu : Box W gU u
  oi : OwnI W (gU + 1) vl l
  og : OwnP W (gU + 1) v6 G
  o1 : b.heap.size ≤ gP
  o2 : gP < gU
theorem FW.far {b W : World} {gP gU : Nat} {p u : List Value} {vl v6 : Value} {l : List Int} {G : List Pk} (h : FW b W gP gU p u vl l v6 G) : gU + 1 ≤ W.heap.size := h.bu.lt
theorem FW.more {b W W' : World} {gP gU : Nat} {p u : List Value} {vl v6 : Value} {l : List Int} {G : List Pk} (h : FW b W gP gU p u vl l v6 G) (hb : Below W.heap.size W W') : FW b W' gP gU p u vl l v6 G :=
  ⟨h.below.trans (hb.mono h.below.size), h.bp.more hb, h.bu.more hb, h.oi.more hb, OwnR.more h.og hb, h.o1, h.o2⟩
theorem FW.fresh {b W W' : World} {gP gU : Nat} {p u : List Value} {vl v6 v' : Value} {l l' : List Int} {G : List Pk} (h : FW b W gP gU p u vl l v6 G) (hb : Below W.heap.size W W') (ho : OwnI W' W.heap.size v' l') : FW b W' gP gU p u v' l' v6 G :=
  ⟨h.below.trans (hb.mono h.below.size), h.bp.more hb, h.bu.more hb, ho.lower h.far, OwnR.more h.og hb, h.o1, h.o2⟩
theorem FW.putP {b W : World} {gP gU : Nat} {p u : List Value} {vl v6 : Value} {l : List Int} {G : List Pk} (h : FW b W gP gU p u vl l v6 G) (us : List Value) (hl : us.length = p.length) : FW b (W.setCells gP 0 us) gP gU us u vl l v6 G := by
  have o2 := h.o2
  exact ⟨below_setCells h.o1 us 0 W h.below, h.bp.all hl, Box.allOther (W := W) (by omega) us 0 _ h.bu, OwnI.cellsPast' (by omega) us 0 W h.oi, OwnR.cellsAway (fun e => by have := (OwnR.upto h.og _ e).1; omega) us 0 _ h.og, h.o1, h.o2⟩
theorem FW.putU {b W : World} {gP gU : Nat} {p u : List Value} {vl v6 : Value} {l : List Int} {G : List Pk} (h : FW b W gP gU p u vl l v6 G) (us : List Value) (hl : us.length = u.length) : FW b (W.setCells gU 0 us) gP gU p us vl l v6 G := by
  have o2 := h.o2
  have o1 := h.o1
  exact ⟨below_setCells (by omega) us 0 W h.below, Box.allOther (W := W) (by omega) us 0 _ h.bp, h.bu.all hl, OwnI.cellsPast' (by omega) us 0 W h.oi, OwnR.cellsAway (fun e => by have := (OwnR.upto h.og _ e).1; omega) us 0 _ h.og, h.o1, h.o2⟩
/-- A new slice, stored in another box. -/
theorem FW.freshPut {b W W' : World} {gP gU gx : Nat} {p u : List Value} {vl v6 v' : Value} {l l' : List Int} {G : List Pk} (h : FW b W gP gU p u vl l v6 G) (hb : Below W.heap.size W W') (ho : OwnI W' W.heap.size v' l') (hx : gU < gx) (hx2 : gx < W.heap.size) (h6 : v6.ownBlock ≠ some gx) (us : List Value) : FW b (W'.setCells gx 0 us) gP gU p u v' l' v6 G := by
  have h2 := h.fresh hb ho
  have o2 := h.o2
  have o1 := h.o1
  exact ⟨below_setCells (by omega) us 0 _ h2.below, Box.allOther (W := W') (by omega) us 0 _ h2.bp, Box.allOther (W := W') (by omega) us 0 _ h2.bu, (OwnI.cellsPast' hx2 us 0 W' ho).lower h.far, OwnR.cellsAway h6 us 0 _ h2.og, h.o1, h.o2⟩
theorem own_apartP {w : World} {b1 b2 : Nat} {v1 v2 : Value} {l1 : List Int} {l2 : List Pk} (h1 : OwnI w b1 v1 l1) (h2 : OwnP w b2 v2 l2) : v1.ownBlock = none ∨ v1.ownBlock ≠ v2.ownBlock := by
  rcases h1.2 with ⟨rfl, _⟩ | ⟨g1, cap1, cur1, rfl, _, hh1, _⟩
  · exact .inl rfl
  · rcases h2.1.2 with ⟨rfl, _⟩ | ⟨g2, cap2, cur2, rfl, _, hh2, _⟩
    · exact .inr (by intro e; cases e)
    · refine .inr fun e => ?_
      have e2 : g1 = g2 := by injection e
      subst e2
      rw [hh1] at hh2
      injection hh2 with h3
      injection h3 with _ h4
      exact absurd h4 (by decide)
theorem FW.app {b W W' : World} {gP gU : Nat} {p u : List Value} {vl v6 v3 : Value} {l : List Int} {G G' : List Pk} (h : FW b W gP gU p u vl l v6 G) (ho : OwnP W' (gU + 1) v3 G') (hg : W.grownBy W' v6.ownBlock) : FW b W' gP gU p u vl l v3 G' := by
  have o2 := h.o2
  have o1 := h.o1
  have hne : ∀ k, k < gU + 1 → v6.ownBlock ≠ some k := fun k hk e => by have := (OwnR.upto h.og k e).1; omega
  refine ⟨h.below.grown hg h.below.size (fun k hk => by have := (OwnR.upto h.og k hk).1; omega), h.bp.grown hg (hne _ (by omega)), h.bu.grown hg (hne _ (by omega)), OwnI.grown h.oi hg (fun k hk e => ?_), ho, h.o1, h.o2⟩
  rcases own_apartP h.oi h.og with h1 | h1
  · rw [hk] at h1; exact absurd h1 (by simp)
  · exact h1 (by rw [hk, e])
/-- The cells that a drawn region reads: a packer, and a packet of a list. -/
abbrev Cells7 (W : World) (gP gl o : Nat) (x0 x1 x2 x3 y0 y1 y2 : Value) : Prop :=
  W.cell? ⟨gP, 0, none⟩ = some x0 ∧ W.cell? ⟨gP, 1, none⟩ = some x1 ∧ W.cell? ⟨gP, 2, none⟩ = some x2 ∧ W.cell? ⟨gP, 3, none⟩ = some x3 ∧ W.cell? ⟨gl, o, none⟩ = some y0 ∧ W.cell? ⟨gl, o + 1, none⟩ = some y1 ∧ W.cell? ⟨gl, o + 2, none⟩ = some y2
theorem cells7_more {n : Nat} {W W' : World} {gP gl o : Nat} {x0 x1 x2 x3 y0 y1 y2 : Value} (h : Cells7 W gP gl o x0 x1 x2 x3 y0 y1 y2) (hb : Below n W W') (hP : gP < n) (hl : gl < n) : Cells7 W' gP gl o x0 x1 x2 x3 y0 y1 y2 :=
  ⟨(hb.cell (p := ⟨gP, 0, none⟩) hP).trans h.1, (hb.cell (p := ⟨gP, 1, none⟩) hP).trans h.2.1, (hb.cell (p := ⟨gP, 2, none⟩) hP).trans h.2.2.1, (hb.cell (p := ⟨gP, 3, none⟩) hP).trans h.2.2.2.1, (hb.cell (p := ⟨gl, o, none⟩) hl).trans h.2.2.2.2.1, (hb.cell (p := ⟨gl, o + 1, none⟩) hl).trans h.2.2.2.2.2.1, (hb.cell (p := ⟨gl, o + 2, none⟩) hl).trans h.2.2.2.2.2.2⟩
/-- From world b on: the seven cells, and a variable, once it has been made. -/
structure Z7 (b W : World) (gP gl o : Nat) (x0 x1 x2 x3 y0 y1 y2 : Value) (zo : Option (Nat × List Value)) : Prop where
  below : Below b.heap.size b W
  cs : Cells7 W gP gl o x0 x1 x2 x3 y0 y1 y2
  l1 : gP < b.heap.size
  l2 : gl < b.heap.size
  bz : ∀ z, zo = some z → Box W z.1 z.2 ∧ b.heap.size ≤ z.1
theorem Z7.more {b W W' : World} {gP gl o : Nat} {x0 x1 x2 x3 y0 y1 y2 : Value} {zo : Option (Nat × List Value)} (h : Z7 b W gP gl o x0 x1 x2 x3 y0 y1 y2 zo) (hb : Below W.heap.size W W') : Z7 b W' gP gl o x0 x1 x2 x3 y0 y1 y2 zo :=
  ⟨h.below.trans (hb.mono h.below.size), cells7_more h.cs hb (Nat.lt_of_lt_of_le h.l1 h.below.size) (Nat.lt_of_lt_of_le h.l2 h.below.size), h.l1, h.l2, fun z e => ⟨(h.bz z e).1.more hb, (h.bz z e).2⟩⟩
theorem Z7.drew {b W : World} {gP gl o : Nat} {x0 x1 x2 x3 y0 y1 y2 : Value} {zo : Option (Nat × List Value)} (h : Z7 b W gP gl o x0 x1 x2 x3 y0 y1 y2 zo) : Z7 b W.drew gP gl o x0 x1 x2 x3 y0 y1 y2 zo := h.more (Below.refl _ _).drew
theorem Z7.alloc {b W : World} {gP gl o : Nat} {x0 x1 x2 x3 y0 y1 y2 : Value} {zo : Option (Nat × List Value)} (h : Z7 b W gP gl o x0 x1 x2 x3 y0 y1 y2 zo) (ob : Obj) : Z7 b (W.alloc ob) gP gl o x0 x1 x2 x3 y0 y1 y2 zo := h.more ((Below.refl _ _).alloc (Nat.le_refl _) ob)
theorem Z7.new {b W : World} {gP gl o : Nat} {x0 x1 x2 x3 y0 y1 y2 : Value} {zo : Option (Nat × List Value)} (h : Z7 b W gP gl o x0 x1 x2 x3 y0 y1 y2 zo) (zs : List Value) (T : TypeId) : Z7 b (W.alloc (.cells zs.toArray T)) gP gl o x0 x1 x2 x3 y0 y1 y2 (some (W.heap.size, zs)) :=
  ⟨(h.alloc _).below, (h.alloc _).cs, h.l1, h.l2, fun z e => by
    obtain rfl : (W.heap.size, zs) = z := by injection e
    exact ⟨Box.made W zs T _ rfl, h.below.size⟩⟩
theorem Z7.put {b W : World} {gP gl o gz : Nat} {x0 x1 x2 x3 y0 y1 y2 : Value} {zs : List Value} (h : Z7 b W gP gl o x0 x1 x2 x3 y0 y1 y2 (some (gz, zs))) (us : List Value) (hl : us.length = zs.length) : Z7 b (W.setCells gz 0 us) gP gl o x0 x1 x2 x3 y0 y1 y2 (some (gz, us)) := by
  obtain ⟨hz, hf⟩ := h.bz _ rfl
  have hf' : b.heap.size ≤ gz := hf
  exact ⟨below_setCells hf' us 0 _ h.below, cells7_more h.cs (below_setCells hf' us 0 W (Below.refl _ _)) h.l1 h.l2, h.l1, h.l2, fun z e => by
    obtain rfl : (gz, us) = z := by injection e
    exact ⟨hz.all hl, hf⟩⟩
theorem Z7.box {b W : World} {gP gl o gz : Nat} {x0 x1 x2 x3 y0 y1 y2 : Value} {zs : List Value} (h : Z7 b W gP gl o x0 x1 x2 x3 y0 y1 y2 (some (gz, zs))) : Box W gz zs ∧ b.heap.size ≤ gz := h.bz _ rfl
/-- What the region leaves: an answer in a box of its own, a slice of its own in it. -/
def Kept7 (b wx : World) (zs : Value → List Value) (l : List Int) (g : Nat) (v : Value) : Prop :=
  Below b.heap.size b wx ∧ Box wx g (zs v) ∧ b.heap.size ≤ g ∧ OwnI wx b.heap.size v l
theorem Z7.fin_made {b W : World} {gP gl o n : Nat} {x0 x1 x2 x3 y0 y1 y2 : Value} {zo : Option (Nat × List Value)} (h : Z7 b W gP gl o x0 x1 x2 x3 y0 y1 y2 zo) (zs : Value → List Value) {v : Value} {l : List Int} (ho : OwnI W n v l) (hn : b.heap.size ≤ n) (T : TypeId) :
    Kept7 b (W.alloc (.cells (zs v).toArray T)) zs l W.heap.size v :=
  ⟨(h.alloc _).below, Box.made W (zs v) T _ rfl, h.below.size, (ho.lower hn).more ((Below.refl _ _).alloc (Nat.le_refl _) _)⟩
theorem Z7.fin_put {b W : World} {gP gl o gz n : Nat} {x0 x1 x2 x3 y0 y1 y2 : Value} {z0 : List Value} (h : Z7 b W gP gl o x0 x1 x2 x3 y0 y1 y2 (some (gz, z0))) (zs : Value → List Value) {v : Value} {l : List Int} (ho : OwnI W n v l) (hn : gz < n) (hl : (zs v).length = z0.length) :
    Kept7 b (W.setCells gz 0 (zs v)) zs l gz v :=
  ⟨(h.put _ hl).below, (h.put _ hl).box.1, h.box.2, (OwnI.cellsPast' hn (zs v) 0 W ho).lower (by have := h.box.2; omega)⟩
end Go.Proofs.Ytegahdlfjdjcaaa
/- What this text proves: what the laws ask of the bytes that they draw from: their length is looked at, and single ones are read. -/
namespace Go.Proofs.Ytegahdlfjdjcaaa
open Go.ChangeShapes Go.WideShapes Go.ChangeAt Go.RowKit
set_option linter.unusedVariables false

/-- The first n cells at an address below block B are bytes. -/
def CodeOk (w : World) (B : Nat) (A : Option Addr) (n : Nat) : Prop :=
  n = 0 ∨ ∃ b off, A = some ⟨b, off, none⟩ ∧ b < B ∧ ∀ j, j < n → ∃ x : Nat, x ≤ 255 ∧ w.cell? ⟨b, off + j, none⟩ = some (.int .u8 (x : Int))
theorem CodeOk.more {w w' : World} {B : Nat} {A : Option Addr} {n : Nat} (h : CodeOk w B A n) (hb : Below B w w') : CodeOk w' B A n := by
  rcases h with h | ⟨b, off, hA, hlt, hc⟩
  · exact .inl h
  · refine .inr ⟨b, off, hA, hlt, fun j hj => ?_⟩
    obtain ⟨x, hx, hcell⟩ := hc j hj
    exact ⟨x, hx, by rw [hb.cell (p := ⟨b, off + j, none⟩) hlt]; exact hcell⟩

def Small (w : World) (e : Ending) (w' : World) : Prop := ∃ x : Nat, x ≤ 255 ∧ e = .returned (.int .i64 (x : Int)) ∧ w = w'

theorem big_yes (A : Option Addr) (n c : Nat) (hn : 1048576 < n) (hm : n ≤ maxLen) (w : World) :
    Calls Try.prog 15 #[.slice A n c] w fun e w' => e = .returned (.bool true) ∧ w = w' := by
  unfold maxLen at hm
  have hd : decide ((1048576 : Int) < (n : Int)) = true := by simp; omega
  go_enter Try.func15, Try.ntmps15
  go_wp2
  go_ret
  exact ⟨rfl, rfl⟩
theorem big_no (A : Option Addr) (n c : Nat) (hn : n ≤ 1048576) (w : World) :
    Calls Try.prog 15 #[.slice A n c] w fun e w' => e = .returned (.bool false) ∧ w = w' := by
  have hd : decide ((1048576 : Int) < (n : Int)) = false := by simp; omega
  go_enter Try.func15, Try.ntmps15
  go_wp2
  go_ret
  exact ⟨rfl, rfl⟩

end Go.Proofs.Ytegahdlfjdjcaaa
