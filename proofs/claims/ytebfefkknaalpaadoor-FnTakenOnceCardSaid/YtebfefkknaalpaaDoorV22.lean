/- What this text proves: the parts Numv, Zb of the proof, each under its own words. -/
import Derived.Test.YtebfefkknaalpaaDoorV21
import Derived.Lib.ItoaLen
import Derived.Test.YtebfefkknaalpaaDoorV10
/- What this text proves: the model's text of a number is the program's: the digits of its size, the highest first, behind a '-' where it is negative. -/
namespace Go.Proofs.YtebfefkknaalpaaDoor
open Go.ChangeShapes Go.WideShapes Go.ChangeAt Go.RowKit
set_option linter.unusedVariables false

/-- What is left to write, ahead of what is written. -/
def leftB (u : Nat) (t : List UInt8) : List UInt8 := if u = 0 then t else Lib.decDigits u ++ t
theorem leftB_step {u : Nat} (h : u ≠ 0) (t : List UInt8) : leftB (u / 10) (figB (u % 10) :: t) = leftB u t := by
  have ef : figB (u % 10) = UInt8.ofNat (48 + u % 10) := by unfold figB; rw [if_pos (by omega)]
  have ed : Lib.decDigits u = if h : u < 10 then [UInt8.ofNat (48 + u)] else Lib.decDigits (u / 10) ++ [UInt8.ofNat (48 + u % 10)] := by rw [Lib.decDigits]
  unfold leftB
  rw [if_neg h, ed, ef]
  by_cases h10 : u < 10
  · rw [if_pos (by omega), dif_pos h10, show u % 10 = u by omega]; rfl
  · rw [if_neg (by omega), dif_neg h10]; simp
theorem fmtB_zero : fmtB 0 = ⟨#[48]⟩ := by
  unfold fmtB Lib.itoa
  rw [if_neg (by omega), show (0 : Int).toNat = 0 from rfl, Lib.decDigits_one (by omega)]
  rfl
theorem cat_bytes (a b : List UInt8) : (⟨a.toArray⟩ : ByteArray) ++ ⟨b.toArray⟩ = ⟨(a ++ b).toArray⟩ := by
  rw [ByteArray.mk_append_mk]
/-- One byte, made a text. -/
theorem conv_one (W : World) (b : UInt8) : (convert 22 9 (.slice (some ⟨W.heap.size, 0, none⟩) 1 1)).run Tryd.prog (W.alloc (.cells #[.int .u8 (b.toNat : Int)] 5)) = .ok (.string ⟨#[b]⟩) (W.alloc (.cells #[.int .u8 (b.toNat : Int)] 5)) := by
  refine run_convert_bytes_back _ 22 9 5 ⟨W.heap.size, 0, none⟩ 1 [b] Tryd.underlying22 Tryd.underlying5 Tryd.underlying9 fun j hj => ?_
  obtain rfl : j = 0 := by simp at hj; omega
  have hg : (W.alloc (.cells #[.int .u8 (b.toNat : Int)] 5)).heap[W.heap.size]? = some (.cells #[.int .u8 (b.toNat : Int)] 5 (0, 0)) := by
    show (W.heap.push _)[W.heap.size]? = _
    simp
  exact cell_of_row _ _ 0 _ _ _ hg
/-- A number of a sign and a size. -/
def sgn (b : Bool) (u : Nat) : Int := if b then -(u : Int) else (u : Int)
theorem fmtB_sgn (b : Bool) (u : Nat) (hu : u ≠ 0) : fmtB (sgn b u) = ⟨((if b then [45] else []) ++ leftB u []).toArray⟩ := by
  unfold fmtB Lib.itoa sgn leftB
  cases b
  · simp [hu]
  · simp [hu]
theorem sgn_of (n : Int) : n = sgn (decide (n < 0)) n.natAbs := by
  unfold sgn
  split <;> rename_i h <;> simp at h <;> omega
theorem sgn_mod (b : Bool) (u : Nat) : (sgn b u).tmod 10 = sgn b (u % 10) := by
  cases b
  · exact (Int.ofNat_tmod u 10).symm
  · show (-(u : Int)).tmod 10 = -((u % 10 : Nat) : Int)
    rw [Int.neg_tmod]
    exact congrArg _ (Int.ofNat_tmod u 10).symm
theorem sgn_div (b : Bool) (u : Nat) : (sgn b u).tdiv 10 = sgn b (u / 10) := by
  cases b
  · exact (Int.ofNat_tdiv u 10).symm
  · show (-(u : Int)).tdiv 10 = -((u / 10 : Nat) : Int)
    rw [Int.neg_tdiv]
    exact congrArg _ (Int.ofNat_tdiv u 10).symm
theorem sgn_in (b : Bool) (u : Nat) (h : (-9223372036854775808 ≤ sgn b u ∧ sgn b u ≤ 9223372036854775807)) (v : Nat) (hv : v ≤ u) : IntKind.i64.wrap (sgn b v) = sgn b v := by
  refine IntWalk.i64_in _ ?_
  unfold sgn at *
  cases b <;> simp at * <;> omega

theorem leftB_len (b : Bool) (u : Nat) (hu : u ≠ 0) (h0 : -9223372036854775808 ≤ sgn b u) (h1 : sgn b u ≤ 9223372036854775807) : (leftB u []).length ≤ 21 := by
  have h := Lib.itoa_length_le (sgn b u) h0 h1
  have e := congrArg ByteArray.size (fmtB_sgn b u hu)
  simp [fmtB, ByteArray.size] at e
  omega
theorem leftB_ge (v : Nat) (t : List UInt8) : t.length ≤ (leftB v t).length := by
  unfold leftB
  split <;> simp

set_option maxRecDepth 8000 in
set_option maxHeartbeats 4000000 in
theorem format_spec (n : Int) (h0 : -9223372036854775808 ≤ n) (h1 : n ≤ 9223372036854775807) (w : World) :
    Calls Tryd.prog 8 #[.int .i64 n] w fun e w' => e = .returned (.string (fmtB n)) ∧ Below w.heap.size w w' := by
  by_cases hz : n = 0
  · subst hz
    go_enter Tryd.func8, Tryd.ntmps8
    go_wp2
    go_ret
    exact ⟨by rw [fmtB_zero]; rfl, Below.refl _ _⟩
  · obtain ⟨b, u, hu0, rfl⟩ : ∃ b u, u ≠ 0 ∧ n = sgn b u := ⟨_, _, by omega, sgn_of n⟩
    have hd0 : (sgn b u == 0) = false := by simp; omega
    go_enter Tryd.func8, Tryd.ntmps8
    go_wp2
    go_loopw [0, 4] (fun vn vs wr => ∃ (v : Nat) (t : List UInt8), v ≤ u ∧ vn = .int .i64 (sgn b v) ∧ vs = .string ⟨t.toArray⟩ ∧ leftB v t = leftB u [] ∧ Below w.heap.size w wr) (fun vn _ _ => (intOf vn).natAbs)
    case atStart => exact ⟨u, [], by omega, rfl, rfl, rfl, Below.refl _ _⟩
    case round =>
      obtain ⟨v, t, hv, rfl, rfl, hl, hbel⟩ := hrel
      have hw0 : IntKind.i64.wrap (sgn b v) = sgn b v := sgn_in b u ⟨h0, h1⟩ v hv
      by_cases hv0 : v = 0
      · subst hv0
        have HL := Lib.hid (leftB_len b u hu0 h0 h1)
        have hf := fmtB_sgn b u hu0
        have hd : (sgn b 0 != 0) = false := by cases b <;> rfl
        have ht : t = leftB u [] := hl
        have hbel2 := Lib.hid hbel
        clear hl hbel
        subst ht
        generalize leftB u [] = T at *
        cases b
        · have hdn : decide (sgn false u < 0) = false := by simp [sgn]
          go_wp2
          go_ret
          exact ⟨by rw [hf]; rfl, hbel2.out⟩
        · have HN := Lib.hid (show sgn true u < 0 by simp [sgn]; omega)
          have HF := Lib.hid hf
          clear hf
          go_wp2
          · have := HL.out
            omega
          · go_ret
            exact ⟨by rw [HF.out]; exact congrArg (fun x => Ending.returned (.string x)) (cat_bytes [45] T), hbel2.out⟩
          · have := HN.out
            omega
      · have hd : (sgn b v != 0) = true := by cases b <;> simp [sgn] <;> omega
        have hw1 : (sgn b v).tmod 10 = sgn b (v % 10) := sgn_mod b v
        have hw2 : IntKind.i64.wrap (sgn b (v % 10)) = sgn b (v % 10) := sgn_in b u ⟨h0, h1⟩ _ (by omega)
        have hw3 : (sgn b v).tdiv 10 = sgn b (v / 10) := sgn_div b v
        have hw4 : IntKind.i64.wrap (sgn b (v / 10)) = sgn b (v / 10) := sgn_in b u ⟨h0, h1⟩ _ (by omega)
        have hw5 : IntKind.i64.wrap (-(sgn b (v % 10))) = -(sgn b (v % 10)) := by
          refine IntWalk.i64_in _ ?_
          cases b <;> simp [sgn] <;> omega
        have HL := Lib.hid hl
        have HB := Lib.hid hbel
        have HT := Lib.hid (show t.length ≤ 21 by
          have e1 := leftB_ge v t
          have e2 := leftB_len b u hu0 h0 h1
          rw [hl] at e1
          omega)
        clear hl hbel
        have c1 : ∀ W : World, Calls Tryd.prog 19 #[.int .i64 ((v : Int) % 10)] W fun e w' => e = .returned (.int .u8 ((figB (v % 10)).toNat : Int)) ∧ W = w' := fun W => by
          rw [show (v : Int) % 10 = ((v % 10 : Nat) : Int) from by omega]
          exact figure_any _ (by omega) W
        have C1 := Lib.hid c1
        clear c1
        have hcv := conv_one wr (figB (v % 10))
        by_cases hneg : sgn b (v % 10) < 0
        · have hd2 : decide (sgn b (v % 10) < 0) = true := by simp; exact hneg
          have he : -(sgn b (v % 10)) = ((v % 10 : Nat) : Int) := by cases b <;> simp [sgn] at * <;> omega
          go_wp2_with fail
          refine (C1.out _).mono ?_
          rintro e w1 ⟨rfl, rfl⟩
          go_wp2
          case isTrue => have := HT.out; omega
          case roundEnd => exact ⟨⟨v / 10, figB (v % 10) :: t, by omega, rfl, congrArg Value.string (cat_bytes [figB (v % 10)] t), (leftB_step hv0 t).trans HL.out, HB.out.alloc HB.out.size _⟩, by cases b <;> simp [intOf, sgn] <;> omega⟩
        · have hd2 : decide (sgn b (v % 10) < 0) = false := by simp; omega
          have he : sgn b (v % 10) = ((v % 10 : Nat) : Int) := by cases b <;> simp [sgn] at * <;> omega
          rw [he] at hw1 hw2 hd2
          clear hw5 hneg he
          go_wp2_with fail
          refine (C1.out _).mono ?_
          rintro e w1 ⟨rfl, rfl⟩
          go_wp2
          case isTrue => have := HT.out; omega
          case roundEnd => exact ⟨⟨v / 10, figB (v % 10) :: t, by omega, rfl, congrArg Value.string (cat_bytes [figB (v % 10)] t), (leftB_step hv0 t).trans HL.out, HB.out.alloc HB.out.size _⟩, by cases b <;> simp [intOf, sgn] <;> omega⟩
end Go.Proofs.YtebfefkknaalpaaDoor
/- What this text proves: the boxes of a region that calls with some variables and keeps the answer in a new one, in whatever order. -/
namespace Go.Proofs.YtebfefkknaalpaaDoor
open Go.ChangeShapes Go.WideShapes Go.ChangeAt Go.RowKit
set_option linter.unusedVariables false

/-- From world b on: variables of b; zo: the new one, once it has been made. -/
structure ZB (b W : World) (bs : List (Nat × List Value)) (zo : Option (Nat × List Value)) : Prop where
  below : Below b.heap.size b W
  all : ∀ z ∈ bs, Box W z.1 z.2 ∧ z.1 < b.heap.size
  bz : ∀ z, zo = some z → Box W z.1 z.2 ∧ b.heap.size ≤ z.1
theorem ZB.start1 {b : World} {g : Nat} {p : List Value} (h : Box b g p) : ZB b b [(g, p)] none :=
  ⟨Below.refl _ _, fun z hz => by obtain rfl : z = (g, p) := by simpa using hz
                                  exact ⟨h, h.lt⟩, fun z e => by cases e⟩
theorem ZB.start2 {b : World} {g k : Nat} {p x : List Value} (h : Box b g p) (h2 : Box b k x) : ZB b b [(g, p), (k, x)] none :=
  ⟨Below.refl _ _, fun z hz => by
    rcases (show z = (g, p) ∨ z = (k, x) by simpa using hz) with rfl | rfl
    · exact ⟨h, h.lt⟩
    · exact ⟨h2, h2.lt⟩, fun z e => by cases e⟩
theorem ZB.more {b W W' : World} {bs : List (Nat × List Value)} {zo : Option (Nat × List Value)} (h : ZB b W bs zo) (hb : Below W.heap.size W W') : ZB b W' bs zo :=
  ⟨h.below.trans (hb.mono h.below.size), fun z hz => ⟨(h.all z hz).1.more hb, (h.all z hz).2⟩, fun z e => ⟨(h.bz z e).1.more hb, (h.bz z e).2⟩⟩
theorem ZB.drew {b W : World} {bs : List (Nat × List Value)} {zo : Option (Nat × List Value)} (h : ZB b W bs zo) : ZB b W.drew bs zo := h.more (Below.refl _ _).drew
theorem ZB.alloc {b W : World} {bs : List (Nat × List Value)} {zo : Option (Nat × List Value)} (h : ZB b W bs zo) (o : Obj) : ZB b (W.alloc o) bs zo := h.more ((Below.refl _ _).alloc (Nat.le_refl _) o)
theorem ZB.new {b W : World} {bs : List (Nat × List Value)} {zo : Option (Nat × List Value)} (h : ZB b W bs zo) (zs : List Value) (T : TypeId) : ZB b (W.alloc (.cells zs.toArray T)) bs (some (W.heap.size, zs)) :=
  ⟨(h.alloc _).below, (h.alloc _).all, fun z e => by
    obtain rfl : (W.heap.size, zs) = z := by injection e
    exact ⟨Box.made W zs T _ rfl, h.below.size⟩⟩
theorem ZB.put {b W : World} {gz : Nat} {bs : List (Nat × List Value)} {zs : List Value} (h : ZB b W bs (some (gz, zs))) (us : List Value) (hl : us.length = zs.length) : ZB b (W.setCells gz 0 us) bs (some (gz, us)) := by
  obtain ⟨hz, hf⟩ := h.bz _ rfl
  have hf' : b.heap.size ≤ gz := hf
  exact ⟨below_setCells hf' us 0 _ h.below, fun z hm => ⟨Box.allOther (W := W) (by have := (h.all z hm).2; omega) us 0 _ (h.all z hm).1, (h.all z hm).2⟩, fun z e => by
    obtain rfl : (gz, us) = z := by injection e
    exact ⟨hz.all hl, hf⟩⟩
theorem ZB.box {b W : World} {gz : Nat} {bs : List (Nat × List Value)} {zs : List Value} (h : ZB b W bs (some (gz, zs))) : Box W gz zs ∧ b.heap.size ≤ gz := h.bz _ rfl
theorem ZB.one {b W : World} {g : Nat} {x0 x1 x2 x3 : Value} {r : List (Nat × List Value)} {zo : Option (Nat × List Value)} (h : ZB b W ((g, [x0, x1, x2, x3]) :: r) zo) : Cells4R W g x0 x1 x2 x3 := (h.all _ List.mem_cons_self).1.fourR
theorem ZB.two {b W : World} {g k : Nat} {x0 x1 x2 x3 : Value} {y0 y1 y2 : Value} {zo : Option (Nat × List Value)} (h : ZB b W [(g, [x0, x1, x2, x3]), (k, [y0, y1, y2])] zo) :
    W.cell? ⟨g, 0, none⟩ = some x0 ∧ W.cell? ⟨g, 1, none⟩ = some x1 ∧ W.cell? ⟨g, 2, none⟩ = some x2 ∧ W.cell? ⟨g, 3, none⟩ = some x3 ∧ W.cell? ⟨k, 0, none⟩ = some y0 ∧ W.cell? ⟨k, 1, none⟩ = some y1 ∧ W.cell? ⟨k, 2, none⟩ = some y2 := by
  obtain ⟨a0, a1, a2, a3⟩ := h.one
  obtain ⟨b0, b1, b2⟩ := (h.all (k, [y0, y1, y2]) (by simp)).1.threeR
  exact ⟨a0, a1, a2, a3, b0, b1, b2⟩
/-- What the region leaves: an answer in a new box. -/
def KeptB (b wx : World) (bs : List (Nat × List Value)) (us : List Value) (g : Nat) : Prop := ZB b wx bs (some (g, us))
theorem ZB.fin_made {b W : World} {bs : List (Nat × List Value)} {zo : Option (Nat × List Value)} (h : ZB b W bs zo) (us : List Value) (T : TypeId) : KeptB b (W.alloc (.cells us.toArray T)) bs us W.heap.size := h.new us T
theorem ZB.fin_put {b W : World} {gz : Nat} {bs : List (Nat × List Value)} {z0 : List Value} (h : ZB b W bs (some (gz, z0))) (us : List Value) (hl : us.length = z0.length) : KeptB b (W.setCells gz 0 us) bs us gz := h.put us hl
end Go.Proofs.YtebfefkknaalpaaDoor
