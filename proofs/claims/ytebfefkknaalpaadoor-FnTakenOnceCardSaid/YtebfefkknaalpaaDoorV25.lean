/- What this text proves: the parts LTakenLaw of the proof, each under its own words. -/
import Derived.Test.YtebfefkknaalpaaDoorV23
import Derived.Test.YtebfefkknaalpaaDoorV24
import Derived.Deep.RegionHeld3
import Derived.Deep.Cut
import Derived.Deep.CutRange
import Derived.Deep.LoopGhost
import Derived.Deep.DeepCutAuto
import Derived.ChangeKeysEq
/- What this text proves: the law that whatever blocks of commands are lost, doubled or late, each command is taken once and in its order, returns true for every bytes that it draws from. -/
namespace Go.Proofs.YtebfefkknaalpaaDoor
open Go.ChangeShapes Go.WideShapes Go.ChangeAt Go.RowKit
set_option linter.unusedVariables false

theorem TK.start {w w1 : World} (hb : Below w.heap.size w w1) {b : Int} (h : 1 ≤ b ∧ b ≤ 20) (TS TR : TypeId) :
    TK w ((((w1.alloc (.cells (seL 0 b (.slice none 0 0) 0).toArray TS)).alloc (.cells (rcL 0 false false 0).toArray TR)).alloc (.cells #[] 9)).alloc (.cells #[] 9)) w1.heap.size (w1.heap.size + 1) (.slice (some ⟨w1.heap.size + 1 + 1, 0, none⟩) 0 0) (.slice (some ⟨w1.heap.size + 1 + 1 + 1, 0, none⟩) 0 0) (.slice none 0 0) b [] [] [] 0 0 false := by
  have hz := hb.size
  have s6 := OwnS.empty ((w1.alloc (.cells (seL 0 b (.slice none 0 0) 0).toArray TS)).alloc (.cells (rcL 0 false false 0).toArray TR)) w.heap.size (by simp; omega)
  have s7 := OwnS.empty (((w1.alloc (.cells (seL 0 b (.slice none 0 0) 0).toArray TS)).alloc (.cells (rcL 0 false false 0).toArray TR)).alloc (.cells #[] 9)) w.heap.size (by simp; omega)
  have e6 : ((w1.alloc (.cells (seL 0 b (.slice none 0 0) 0).toArray TS)).alloc (.cells (rcL 0 false false 0).toArray TR)).heap.size = w1.heap.size + 1 + 1 := by simp
  have e7 : (((w1.alloc (.cells (seL 0 b (.slice none 0 0) 0).toArray TS)).alloc (.cells (rcL 0 false false 0).toArray TR)).alloc (.cells #[] 9)).heap.size = w1.heap.size + 1 + 1 + 1 := by simp
  rw [e6] at s6
  rw [e7] at s7
  exact ⟨(((hb.alloc hz _).alloc (by simp; omega) _).alloc (by simp; omega) _).alloc (by simp; omega) _,
    (((Box.made w1 (seL 0 b (.slice none 0 0) 0) TS _ rfl).alloc _).alloc _).alloc _,
    ((Box.made (w1.alloc (.cells (seL 0 b (.slice none 0 0) 0).toArray TS)) (rcL 0 false false 0) TR (w1.heap.size + 1) (by simp)).alloc _).alloc _,
    hz, by omega, by omega, OwnS.more s6 ((Below.refl _ _).alloc (Nat.le_refl _) _), s7,
    ⟨⟨none, 0, rfl⟩, fun k hk => (by cases hk), fun h0 => absurd h0 (by decide)⟩,
    by simp [Value.ownBlock] <;> omega, by simp [Value.ownBlock] <;> omega, by simp [Value.ownBlock] <;> omega, by simp [Value.ownBlock] <;> omega, by simp [Value.ownBlock], by simp [Value.ownBlock],
    fun k h1 h2 => by simp [Value.ownBlock] at h1 h2; omega, fun k h1 h2 => by simp [Value.ownBlock] at h2, fun k h1 h2 => by simp [Value.ownBlock] at h2, TI.start h⟩
/-- What offering leaves of a round. -/
def Offd (w wx : World) (g3 g5 : Nat) (v6 v7 : Value) (b : Int) (O7 : List ByteArray) (d m : Nat) (q : Bool) : Prop := ∃ (O : List ByteArray) (vq : Value), O7 = O.take m ∧ TK w wx g3 g5 v6 v7 vq b O O7 O d m q
/-- What a round of the loop begins with. -/
def Rnd (w wx : World) (g3 g5 : Nat) (v6 v7 : Value) (b : Int) : Prop := ∃ (O : List ByteArray) (d m : Nat) (q : Bool) (vq : Value), TK w wx g3 g5 v6 v7 vq b O (O.take m) O d m q

/-- The blocks of a round. -/
structure TB (W : World) (base g5 : Nat) (v7 v11 : Value) (L : List ByteArray) : Prop where
  o : OwnS W base v11 L
  a5 : v11.ownBlock ≠ some g5
  a7 : Apt v7.ownBlock v11.ownBlock
theorem TB.more {W W' : World} {base g5 : Nat} {v7 v11 : Value} {L : List ByteArray} (h : TB W base g5 v7 v11 L) (hb : Below W.heap.size W W') : TB W' base g5 v7 v11 L := ⟨h.o.more hb, h.a5, h.a7⟩
theorem TB.setR {W : World} {base g5 : Nat} {v7 v11 : Value} {L : List ByteArray} (h : TB W base g5 v7 v11 L) (us : List Value) : TB (W.setCells g5 0 us) base g5 v7 v11 L := ⟨OwnS.cellsAway h.a5 us 0 _ h.o, h.a5, h.a7⟩
theorem TB.app7 {W W' : World} {base g5 : Nat} {v7 v11 v' : Value} {L : List ByteArray} (h : TB W base g5 v7 v11 L) (hg : W.grownBy W' v7.ownBlock) (hw : v'.ownBlock = v7.ownBlock ∨ v'.ownBlock = some W.heap.size) : TB W' base g5 v' v11 L :=
  ⟨h.o.grown hg (fun k hk e => h.a7 k e hk), h.a5, by
    rcases hw with e | e
    · rw [e]; exact h.a7
    · rw [e]; intro k hk hk2; simp at hk; have := (h.o.up k hk2).2; omega⟩
theorem ZB.blk {b W : World} {g g11 i : Nat} {u x0 x1 x2 x3 : Value} {zo : Option (Nat × List Value)} (h : ZB b W [(g, [x0, x1, x2, x3])] zo) (hl : g11 < b.heap.size) (hc : b.cell? ⟨g11, i, none⟩ = some u) :
    W.cell? ⟨g, 0, none⟩ = some x0 ∧ W.cell? ⟨g, 1, none⟩ = some x1 ∧ W.cell? ⟨g, 2, none⟩ = some x2 ∧ W.cell? ⟨g, 3, none⟩ = some x3 ∧ W.cell? ⟨g11, i, none⟩ = some u := by
  obtain ⟨a0, a1, a2, a3⟩ := h.one
  exact ⟨a0, a1, a2, a3, (h.below.cell (p := ⟨g11, i, none⟩) hl).trans hc⟩

theorem OwnS.takeA {w : World} {base c : Nat} {A : Option Addr} {l : List ByteArray} (h : OwnS w base (.slice A l.length c) l) (n : Nat) (hn : n ≤ l.length) : OwnS w base (.slice A n c) (l.take n) := by
  have hlen : (l.take n).length = n := by rw [List.length_take]; omega
  refine ⟨by rw [hlen]; simp; omega, ?_⟩
  rcases h.2 with ⟨hv, h0⟩ | ⟨g', cap, cur, hv, hb, hh, h1, h2, h3, h4⟩
  · injection hv with e1 _ e3
    exact .inl ⟨by rw [e1, e3, show n = 0 by omega], by rw [hlen]; omega⟩
  · injection hv with hv1 _ hv2
    refine .inr ⟨g', cap, cur, by rw [hlen, hv1, hv2], hb, hh, by rw [hlen]; omega, h2, h3, ?_⟩
    rw [hlen, List.map_take, ← h4, List.take_take]
    congr 1
    omega
theorem OwnS.cap {w : World} {base c : Nat} {A : Option Addr} {l : List ByteArray} (h : OwnS w base (.slice A l.length c) l) : l.length ≤ c := by
  rcases h.2 with ⟨hv, h0⟩ | ⟨g', cap, cur, hv, hb, hh, h1, h2, h3, h4⟩
  · omega
  · injection hv with _ _ hv2
    omega
theorem cut_to (A : Option Addr) (n c K : Nat) (hK : K ≤ c) (W : World) : (Instr.slice 32 (.slice A n c) none (some (.int .i64 (K : Int))) none).run Tryd.prog W = .ok (.slice A K c) W := by
  have ht : Tryd.prog.underlying 32 = some (.slice 9) := Tryd.underlying32
  have he : Tryd.prog.elem 32 = 9 := by simp [Program.elem, ht]
  obtain ⟨i, hi, _, _, _⟩ := info_parts info_str
  rw [run_slice_h W 32 _ _ _ (by rw [he]; exact ht) .i64 _ (by omega) (by omega), he, run_sizeOf _ hi]
  cases A with
  | none => simp [Result.andThen, sliced]
  | some a => simp [Result.andThen, sliced, Addr.add]
theorem TK.copy {w W : World} {g3 g5 : Nat} {v6 v7 vq : Value} {b : Int} {O6 O7 O : List ByteArray} {d m : Nat} {q : Bool} (h : TK w W g3 g5 v6 v7 vq b O6 O7 O d m q) (T : TypeId) : TK w (W.alloc (.cells (seL (O.length : Int) b vq (d : Int)).toArray T)) W.heap.size g5 v6 v7 vq b O6 O7 O d m q := by
  have h1 := h.more ((Below.refl _ _).alloc (Nat.le_refl _) (.cells (seL (O.length : Int) b vq (d : Int)).toArray T))
  have h5 := h.br.lt
  exact ⟨h1.below, Box.made W _ T _ rfl, h1.br, h.below.size, h1.h5, by omega, h1.o6, h1.o7, h1.oq, fun e => by have := (h.o6.up _ e).2; omega, h1.a65, fun e => by have := (h.o7.up _ e).2; omega, h1.a75, fun e => by have := (h.oq.up _ e).2; omega, h1.aq5, h1.a67, h1.a6q, h1.a7q, h1.ti⟩

set_option maxRecDepth 8000 in
set_option maxHeartbeats 16000000 in
theorem law_takenOnce (A : Option Addr) (n c : Nat) (hm : n ≤ maxLen) (w : World) (hc : CodeOk w w.heap.size A n) (hS : ∃ a0 a1 a2, Sents w a0 a1 a2) :
    Calls Tryd.prog 3 #[.slice A n c] w fun e w' => e = .returned (.bool true) ∧ Below w.heap.size w w' := by
  obtain ⟨a0, a1, a2, hS⟩ := hS
  by_cases hbig : 1048576 < n
  · go_enter Tryd.func3, Tryd.ntmps3
    go_wp2_with (go_at_call 4; refine (big_yes _ _ _ hbig hm _).mono ?_; rintro e w' ⟨rfl, rfl⟩)
    go_ret
    exact ⟨rfl, Below.refl _ _⟩
  · have hn : n ≤ 1048576 := by omega
    have Ha := Lib.hid (fun (w1 : World) (hb : Below w.heap.size w w1) i hi => at_any w.heap.size A n c hn i hi w1 (hc.more hb))
    have HSE := Lib.hid (fun (w1 : World) (hb : Below w.heap.size w w1) => hS.more hb)
    clear hc hbig hS
    go_enter Tryd.func3, Tryd.ntmps3
    go_wp2_with (go_at_call 4; refine (big_no _ _ _ hn _).mono ?_; rintro e w' ⟨rfl, rfl⟩)
    refine (Ha.out _ (Below.refl _ _) 0 (by omega)).mono ?_
    rintro e w' ⟨x, hx, rfl, rfl⟩
    have hnew := new_impl (1 + (x : Int) % 20)
    have hb20 : 1 ≤ 1 + (x : Int) % 20 ∧ 1 + (x : Int) % 20 ≤ 20 := by omega
    rw [show nwW (1 + (x : Int) % 20) = 1 + (x : Int) % 20 from if_pos hb20, show nwB (1 + (x : Int) % 20) = true from decide_eq_true hb20] at hnew
    have HNW := Lib.hid hnew
    clear hnew
    go_wp2_with fail
    refine (HNW.out _).mono ?_
    rintro e w1 ⟨rfl, hb1⟩
    clear HNW
    have T0 := Lib.hid (TK.start hb1 hb20 26 31)
    have hz1 := hb1.size
    clear hb1
    generalize 1 + (x : Int) % 20 = b at *
    go_wp2_with fail
    obtain ⟨g5, hg5⟩ : ∃ g5, w1.heap.size + 1 = g5 := ⟨_, rfl⟩
    simp only [hg5] at T0 ⊢
    clear hg5
    generalize w1.heap.size = g3 at *
    go_loopg [6, 7, 8] 60 (fun gh v6 v7 v8 wx => ∃ k : Nat, k ≤ 60 ∧ gh = 60 - k ∧ v8 = .int .i64 (k : Int) ∧ Rnd w wx g3 g5 v6 v7 b)
    case atStart => exact ⟨0, by omega, rfl, rfl, [], 0, 0, false, _, T0.out⟩
    case round =>
      obtain ⟨k, hk, rfl, rfl, hrnd⟩ := hrel
      clear T0
      obtain ⟨O, d, m, q, vq, hT0⟩ := hrnd
      obtain ⟨A6, c6, hv6⟩ := hT0.o6.form
      obtain ⟨A7, c7, hv7⟩ := hT0.o7.form
      have hlm : (O.take m).length = m := by rw [List.length_take]; have := hT0.ti.mo; omega
      rw [hlm] at hv7
      subst hv6
      subst hv7
      have T1 := Lib.hid hT0
      clear hT0
      by_cases hlt : k < 60
      · have hd : decide (k < 60) = true := by simp; omega
        have hd' : decide ((k : Int) < 60) = true := by simp; omega
        go_upto_region 10 with fail
        go_cut [50] from 41 to 50 (fun s50 wx => ∃ z : Bool, s50 = .bool z ∧ wx = wr ∧ (z = true → O.length < 30))
        case first =>
          by_cases ho : O.length < 30
          · have hdo : decide ((O.length : Int) < 30) = true := by simp; omega
            have hdo' : decide (O.length < 30) = true := by simp; omega
            go_wp2_with fail
            refine (Ha.out _ T1.out.below k (by omega)).mono ?_
            rintro e w2 ⟨x0, hx0, rfl, rfl⟩
            by_cases he : (x0 : Int) % 2 = 0
            · have hde : ((x0 : Int) % 2 == 0) = true := beq_iff_eq.2 he
              go_wp2_with fail
              go_meet
              exact ⟨true, rfl, rfl, fun _ => ho⟩
            · have hde : ((x0 : Int) % 2 == 0) = false := beq_eq_false_iff_ne.2 he
              go_wp2_with fail
              go_meet
              exact ⟨false, rfl, rfl, fun h => by cases h⟩
          · have hdo : decide ((O.length : Int) < 30) = false := by simp; omega
            have hdo' : decide (O.length < 30) = false := by simp; omega
            go_wp2_with fail
            go_meet
            exact ⟨false, rfl, rfl, fun h => by cases h⟩
        case rest =>
          obtain ⟨z, rfl, hwc, ho⟩ := hcut
          subst hwc
          generalize wc = wr at *
          go_upto_if 50 with fail
          go_cut [6] from 52 to 64 (fun s6 wx => Offd w wx g3 g5 s6 (.slice A7 m c7) b (O.take m) d m q)
          case first =>
            cases z with
            | false =>
              go_wp2_with fail
              go_meet
              exact ⟨O, vq, rfl, T1.out⟩
            | true =>
              replace ho := ho rfl
              have hm30 := T1.out.ti.mo
              obtain ⟨bb, O', ti', hcs, hof⟩ := tk_offer T1.out.ti ho (fmt_k k hlt)
              have hfm := fun W => fmt_at k hlt W
              have hT40 := fmt_k k hlt
              generalize fmtB (k : Int) = T at *
              have HOF := Lib.hid hof
              have HFM := Lib.hid hfm
              have HTI := Lib.hid ti'
              have HCS := Lib.hid hcs
              clear hof hfm ti' hcs
              go_upto_region 11 with fail
              go_cut [9, 10] from 52 to 57 (fun s9 s10 wx => ∃ (g : Nat) (A2 : Option Addr) (c2 : Nat), s9 = .pointer (some ⟨g, 0, none⟩) ∧ s10 = .bool bb ∧ KeptH wr wx [(g3, seL (O.length : Int) b vq (d : Int))] g (.slice A2 (wtL O' d).length c2) (wtL O' d) (seL (O'.length : Int) b (.slice A2 (wtL O' d).length c2) (d : Int)))
              case first =>
                have ZS := ZB.start1 T1.out.bs
                have Z0 := ZS.drew
                have Z1 := (ZS.new (seL 0 0 (.slice none 0 0) 0) 26).drew
                have Z2 := Z0.new (seL 0 0 (.slice none 0 0) 0) 26
                have FA := Lib.hid (fun W zo (hz : ZB wr W [(g3, seL (O.length : Int) b vq (d : Int))] zo) => (HFM.out W).mono fun e w' hh => (show e = .returned (.string T) ∧ ZB wr w' [(g3, seL (O.length : Int) b vq (d : Int))] zo from ⟨hh.1, hz.more hh.2⟩))
                have FX := Lib.hid (fun W zo (hz : ZB wr W [(g3, seL (O.length : Int) b vq (d : Int))] zo) => (HOF.out W _ _ (T1.out.oq.more hz.below)).mono fun e w' hh => (show ∃ A2 c2, e = .returned (.tuple #[seV (O'.length : Int) b (.slice A2 (wtL O' d).length c2) (d : Int), .bool bb]) ∧ OwnO w' W.heap.size (.slice A2 (wtL O' d).length c2) (wtL O' d) ∧ ZB wr w' [(g3, seL (O.length : Int) b vq (d : Int))] zo ∧ wr.heap.size ≤ W.heap.size ∧ (∀ z, zo = some z → z.1 < W.heap.size) from by
                  obtain ⟨A2, c2, h1, h2, h3⟩ := hh
                  exact ⟨A2, c2, h1, h2, hz.more h3, hz.below.size, fun z e => (hz.bz z e).1.lt⟩))
                go_wp2
                go_region_held3 (fun w' => w'.cell? ⟨g3, 0, none⟩ = some (.int .i64 (O.length : Int)) ∧ w'.cell? ⟨g3, 1, none⟩ = some (.int .i64 b) ∧ w'.cell? ⟨g3, 2, none⟩ = some vq ∧ w'.cell? ⟨g3, 3, none⟩ = some (.int .i64 (d : Int)))
                  (first | with_reducible exact Z0.one | with_reducible exact Z1.one | with_reducible exact Z2.one | with_reducible exact ZA.one | with_reducible exact (ZA.alloc _).one | with_reducible exact ZF.one | with_reducible exact (ZF.alloc _).one | exact (ZF.put (seL (O'.length : Int) b (.slice A2 (wtL O' d).length c2) (d : Int)) rfl).one)
                  (first
                    | (go_at_call 8; (first
                        | (with_reducible refine (FA.out _ _ Z0).mono ?_)
                        | (with_reducible refine (FA.out _ _ Z1).mono ?_)
                        | (with_reducible refine (FA.out _ _ Z2).mono ?_)); rintro e wA ⟨rfl, ZA⟩)
                    | (go_at_call 7; (first
                        | (with_reducible refine (FX.out _ _ ZA).mono ?_)
                        | (with_reducible refine (FX.out _ _ (ZA.new (seL 0 0 (.slice none 0 0) 0) 26)).mono ?_)); rintro e wF ⟨A2, c2, rfl, OF, ZF, hbn, hzn⟩; try (have zb := ZF.box.1; obtain ⟨z0, z1, z2, z3⟩ := zb.fourS; have zi := zb.ice)))
                all_goals go_wp2_with fail
                all_goals go_meet
                all_goals (first
                  | exact ⟨_, A2, c2, rfl, rfl, ZF.finH_made OF hbn (seL (O'.length : Int) b (.slice A2 (wtL O' d).length c2) (d : Int)) _⟩
                  | exact ⟨_, A2, c2, rfl, rfl, ZF.finH_put OF hbn (hzn _ rfl) (seL (O'.length : Int) b (.slice A2 (wtL O' d).length c2) (d : Int)) rfl⟩)
              case rest =>
                obtain ⟨g9, A2, c2, rfl, rfl, ZK, OK, NK⟩ := hcut
                generalize wc = w3 at *
                have T3 := Lib.hid (T1.out.more ZK.below)
                have K3 := Lib.hid ZK.box.1
                have hzk := ZK.box.2
                have O3 := Lib.hid OK
                have L3 := T1.out.bs.lt
                have L5 := T1.out.br.lt
                have U6 := Lib.hid T1.out.o6.up
                have U7 := Lib.hid T1.out.o7.up
                have hz3 := ZK.below.size
                have hbz := T1.out.below.size
                clear ZK OK NK
                rcases HCS.out with ⟨rfl, rfl⟩ | ⟨rfl, rfl⟩
                · go_wp2_with fail
                  refine (HFM.out _).mono ?_
                  rintro e w4 ⟨rfl, hb4⟩
                  have T4 := Lib.hid (T3.out.more hb4)
                  have K4 := Lib.hid (K3.out.more hb4)
                  have O4 := Lib.hid (O3.out.more hb4)
                  have hz4 := hb4.size
                  clear hb4 T3 K3 O3
                  go_wp2_with (at_builtin; go_loud (refine app_textG _ rfl _ _ rfl w.heap.size (.slice A6 O.length c6) O T rfl T4.out.o6 _ 1 rfl (by omega) T4.out.below.size ?_))
                  intro v6 w5 ho5 hg5 hw5
                  have B4 := (Below.refl w4.heap.size w4).alloc (Nat.le_refl _) (.cells #[.string T] 9)
                  have T5 := Lib.hid ((T4.out.more B4).app6 hg5 ho5 (hw5.imp id (fun e => by rw [e]; simp)))
                  have K5 := Lib.hid ((K4.out.more B4).grown hg5 (fun e => by have := (U6.out _ e).2; have := (hzk); omega))
                  have O5 := Lib.hid ((O4.out.more B4).grown hg5 (fun j h1 h2 => by have := (U6.out j h2).2; have := (O4.out.up j h1).1; omega))
                  have A5 : Apt v6.ownBlock (Value.slice A2 (wtL (O ++ [T]) d).length c2).ownBlock := fun j h1 h2 => by
                    have h4 := O4.out.up j h2
                    rcases hw5 with e | e
                    · rw [e] at h1; have := (U6.out j h1).2; omega
                    · rw [e] at h1; simp at h1; omega
                  clear hg5 ho5 hw5 B4 T4 K4
                  have hlen6 : (O ++ [T]).length = O.length + 1 := by simp
                  obtain ⟨k0, k1, k2, k3⟩ := K5.out.fourS
                  obtain ⟨m0, m1, m2, m3⟩ := T5.out.bs.fourS
                  have mi := T5.out.bs.ice
                  have hO6 := Lib.hid (show O.take m = (O ++ [T]).take m from (List.take_append_of_le_length hm30).symm)
                  have TF := Lib.hid (T5.out.setS (O5.out.lower (by omega)) (fun e => by have := (O5.out.up _ e).1; omega) (fun e => by have := (O5.out.up _ e).1; omega) A5 (fun j h1 h2 => by have := (U7.out j h1).2; have := (O5.out.up j h2).1; omega) HTI.out)
                  obtain ⟨NN, hNN⟩ : ∃ NN : Int, (((O ++ [T]).length : Nat) : Int) = NN := ⟨_, rfl⟩
                  rw [hNN] at k0 TF
                  clear hNN
                  go_wp2_with fail
                  go_meet
                  exact ⟨O ++ [T], _, hO6.out, TF.out⟩
                · obtain ⟨k0, k1, k2, k3⟩ := K3.out.fourS
                  obtain ⟨m0, m1, m2, m3⟩ := T3.out.bs.fourS
                  have mi := T3.out.bs.ice
                  go_wp2_with fail
                  go_meet
                  exact ⟨O', _, rfl, T3.out.setS (O3.out.lower (by omega)) (fun e => by have := (O3.out.up _ e).1; omega) (fun e => by have := (O3.out.up _ e).1; omega) (fun j h1 h2 => by have := (U6.out j h1).2; have := (O3.out.up j h2).1; omega) (fun j h1 h2 => by have := (U7.out j h1).2; have := (O3.out.up j h2).1; omega) HTI.out⟩
          case rest =>
            rename_i s6
            obtain ⟨O2, vq2, hO7, hT2⟩ := hcut
            clear T1 hlm
            have hlm : (O.take m).length = m := by rw [hO7, List.length_take]; have := hT2.ti.mo; omega
            generalize O.take m = P7 at *
            subst hO7
            generalize wc = w2 at *
            have T2 := Lib.hid hT2
            have HBK := Lib.hid (tk_blocks hT2.ti w2 _ _ hT2.oq)
            clear hT2 ho
            obtain ⟨k0, k1, k2, k3⟩ := T2.out.bs.fourS
            go_wp2_with fail
            refine HBK.out.mono ?_
            rintro e w3 ⟨v11, rfl, ho3, hb3⟩
            have T3 := Lib.hid (T2.out.more hb3)
            have hz3 := hb3.size
            obtain ⟨A11, c11, rfl⟩ := ho3.form
            have B3 := Lib.hid (show TB w3 w.heap.size g5 (.slice A7 m c7) (.slice A11 (cbk (wtL O2 d)).length c11) (cbk (wtL O2 d)) from
              ⟨ho3.lower T2.out.below.size, fun e => by have := (ho3.up _ e).1; have := T2.out.br.lt; omega, fun j h1 h2 => by have := (T2.out.o7.up j h1).2; have := (ho3.up j h2).1; omega⟩)
            have hBl : (cbk (wtL O2 d)).length ≤ 30 := by rw [cbk_len]; exact T2.out.ti.short
            clear hb3 ho3 HBK k0 k1 k2 k3 T2
            go_wp2_with fail
            go_loopg [7, 12] (cbk (wtL O2 d)).length (fun gh v7 v12 wx => ∃ i : Nat, i ≤ (cbk (wtL O2 d)).length ∧ gh = (cbk (wtL O2 d)).length - i ∧ v12 = .int .i64 (i : Int) ∧ ∃ (m : Nat) (q : Bool), TK w wx g3 g5 u6 v7 vq2 b O2 (O2.take m) O2 d m q ∧ TB wx w.heap.size g5 v7 (.slice A11 (cbk (wtL O2 d)).length c11) (cbk (wtL O2 d)))
            case atStart => exact ⟨0, by omega, rfl, rfl, m, q, T3.out, B3.out⟩
            case round =>
              clear T3 B3 hlm
              obtain ⟨i, hi, rfl, rfl, m, q, hTK, hTB⟩ := hrel
              by_cases hil : i < (cbk (wtL O2 d)).length
              · have hdi : decide (i < (cbk (wtL O2 d)).length) = true := by simp; omega
                have hdi' : decide ((i : Int) < ((cbk (wtL O2 d)).length : Int)) = true := by simp; omega
                have HBT := Lib.hid (btoi_any)
                have HAi := Lib.hid (show ∀ W, Below w.heap.size w W → Calls Tryd.prog 6 #[.slice A n c, .int .i64 ((k : Int) + (i : Int) + 1)] W (Small W) from fun W hb => by
                  have h := Ha.out W hb (k + i + 1) (by omega)
                  rw [show ((k + i + 1 : Nat) : Int) = (k : Int) + (i : Int) + 1 by omega] at h
                  exact h)
                obtain ⟨g11, cap, hv11, _, hg11, hcell, _⟩ := hTB.o.rowsT (by omega)
                injection hv11 with hA11 _ hc11
                subst hA11
                subst hc11
                have hTi := Lib.hid (fun W (hb : Below w.heap.size w W) m q (ti : TI O2 m d b) => tk_take ti q i hil W a0 a1 a2 (HSE.out W hb))
                have T4 := Lib.hid hTK
                have B4 := Lib.hid hTB
                clear hTK hTB hcell hg11
                generalize hBL : cbk (wtL O2 d) = BL at *
                go_wp2_with fail
                refine (HAi.out _ T4.out.below).mono ?_
                rintro e w4 ⟨y, hy, rfl, rfl⟩
                go_wp2_with fail
                refine (HBT.out _ _).mono ?_
                rintro e w5 ⟨⟨z, hz, rfl⟩, rfl⟩
                go_wp2_with fail
                go_loopg [7, 13] (y % 3 + z) (fun gh v7 v13 wx => ∃ nn : Nat, nn = gh ∧ v13 = .int .i64 (nn : Int) ∧ nn ≤ 3 ∧ ∃ (m : Nat) (q : Bool), TK w wx g3 g5 u6 v7 vq2 b O2 (O2.take m) O2 d m q ∧ TB wx w.heap.size g5 v7 (.slice (some ⟨g11, 0, none⟩) BL.length c11) BL)
                case atStart => exact ⟨y % 3 + z, rfl, by simp, by omega, m, q, T4.out, B4.out⟩
                case round =>
                  clear T4 B4
                  obtain ⟨nn, rfl, rfl, hn3, m, q, hTK, hTB⟩ := hrel
                  by_cases h0 : 0 < nn
                  · have hd0 : decide (0 < nn) = true := by simp; omega
                    have hd0' : decide (0 < (nn : Int)) = true := by simp; omega
                    obtain ⟨m', q', data, tk, ti', hcs, _, _, htk⟩ := hTi.out wr hTK.below m q hTK.ti
                    obtain ⟨A7b, c7b, hv7⟩ := hTK.o7.form
                    have hlm : (O2.take m).length = m := by rw [List.length_take]; have := hTK.ti.mo; omega
                    rw [hlm] at hv7
                    subst hv7
                    obtain ⟨g11', cap', hv11, _, hg11, hcell, _⟩ := hTB.o.rowsT (by omega)
                    injection hv11 with hA11 _ hcc
                    injection hA11 with hA12
                    injection hA12 with hA13
                    subst hA13
                    subst hcc
                    have hc11 := hcell i hil
                    have T5 := Lib.hid hTK
                    have B5 := Lib.hid hTB
                    have HTK := Lib.hid htk
                    have HCS := Lib.hid hcs
                    have HTI := Lib.hid ti'
                    have m30 := hTK.ti.mo
                    have o30 := hTK.ti.o30
                    clear hTK hTB htk hcs ti' hcell
                    obtain ⟨blk, hblk⟩ : ∃ blk, BL[i] = blk := ⟨_, rfl⟩
                    rw [hblk] at hc11
                    simp only [hblk] at HTK
                    go_upto_region 22 with fail
                    go_cut [14, 15, 16] from 89 to 97 (fun s14 s15 s16 wx => ∃ g : Nat, s14 = .pointer (some ⟨g, 0, none⟩) ∧ s15 = .string data ∧ s16 = .bool tk ∧ KeptB wr wx [(g5, rcL (m : Int) false q (m : Int))] (rcL (m' : Int) false q' (m' : Int)) g)
                    case first =>
                      have ZS := ZB.start1 T5.out.br
                      have Z0 := ZS.drew
                      have Z1 := (ZS.new (rcL 0 false false 0) 31).drew
                      have Z2 := Z0.new (rcL 0 false false 0) 31
                      have FF := Lib.hid (fun W zo (hz : ZB wr W [(g5, rcL (m : Int) false q (m : Int))] zo) => (HTK.out W hz.below).mono fun e w' hh => (show e = .returned (.tuple #[rcV (m' : Int) false q' (m' : Int), .string data, .bool tk]) ∧ ZB wr w' [(g5, rcL (m : Int) false q (m : Int))] zo from ⟨hh.1, hz.more hh.2⟩))
                      go_wp2
                      go_region_held3 (fun w' => w'.cell? ⟨g5, 0, none⟩ = some (.int .i64 (m : Int)) ∧ w'.cell? ⟨g5, 1, none⟩ = some (.bool false) ∧ w'.cell? ⟨g5, 2, none⟩ = some (.bool q) ∧ w'.cell? ⟨g5, 3, none⟩ = some (.int .i64 (m : Int)) ∧ w'.cell? ⟨g11, i, none⟩ = some (.string blk))
                        (first | with_reducible exact Z0.blk hg11 hc11 | with_reducible exact Z1.blk hg11 hc11 | with_reducible exact Z2.blk hg11 hc11 | with_reducible exact ZF.blk hg11 hc11 | with_reducible exact (ZF.alloc _).blk hg11 hc11 | exact (ZF.put (rcL (m' : Int) false q' (m' : Int)) rfl).blk hg11 hc11)
                        (first
                          | (go_at_call 11; (first
                              | (with_reducible refine (FF.out _ _ Z0).mono ?_)
                              | (with_reducible refine (FF.out _ _ Z1).mono ?_)
                              | (with_reducible refine (FF.out _ _ Z2).mono ?_)); rintro e wF ⟨rfl, ZF⟩; try (have zb := ZF.box.1; obtain ⟨z0, z1, z2, z3⟩ := zb.fourR; have zi := zb.ice)))
                      all_goals go_wp2_with fail
                      all_goals go_meet
                      all_goals (first
                        | exact ⟨_, rfl, rfl, rfl, ZF.fin_made (rcL (m' : Int) false q' (m' : Int)) _⟩
                        | exact ⟨_, rfl, rfl, rfl, ZF.fin_put (rcL (m' : Int) false q' (m' : Int)) rfl⟩)
                    case rest =>
                      obtain ⟨g14, rfl, rfl, rfl, ZK⟩ := hcut
                      generalize wc = w6 at *
                      have T6 := Lib.hid (T5.out.more ZK.below)
                      have B6 := Lib.hid (B5.out.more ZK.below)
                      have K6 := Lib.hid ZK.box.1
                      have T7 := Lib.hid (T6.out.setR (q' := q') HTI.out)
                      have B7 := Lib.hid (B6.out.setR (rcL (m' : Int) false q' (m' : Int)))
                      clear ZK T5 B5 hc11
                      obtain ⟨k0, k1, k2, k3⟩ := K6.out.fourR
                      obtain ⟨m0, m1, m2, m3⟩ := T6.out.br.fourR
                      have mi := T6.out.br.ice
                      go_upto_region 24 with fail
                      have hW : w6.setCells g5 0 (rcL (m' : Int) false q' (m' : Int)) = (((w6.setCell ⟨g5, 0, none⟩ (.int .i64 (m' : Int))).setCell ⟨g5, 1, none⟩ (.bool false)).setCell ⟨g5, 2, none⟩ (.bool q')).setCell ⟨g5, 3, none⟩ (.int .i64 (m' : Int)) := rfl
                      rw [hW] at T7 B7
                      clear hW
                      generalize (((w6.setCell ⟨g5, 0, none⟩ (.int .i64 (m' : Int))).setCell ⟨g5, 1, none⟩ (.bool false)).setCell ⟨g5, 2, none⟩ (.bool q')).setCell ⟨g5, 3, none⟩ (.int .i64 (m' : Int)) = w7 at *
                      clear k0 k1 k2 k3 m0 m1 m2 m3 mi K6 T6 B6
                      rcases HCS.out with ⟨rfl, hO⟩ | ⟨rfl, hO⟩
                      · go_wp2_with (at_builtin; go_loud (refine app_textG _ rfl _ _ rfl w.heap.size (.slice A7b m c7b) (O2.take m) data rfl T7.out.o7 _ 1 rfl (by omega) T7.out.below.size ?_))
                        intro v7n w8 ho8 hg8 hw8
                        have BA := (Below.refl w7.heap.size w7).alloc (Nat.le_refl _) (.cells #[.string data] 9)
                        have hw9 := hw8.imp id (fun e => (by rw [e]; simp : v7n.ownBlock = some (w7.alloc (.cells #[.string data] 9)).heap.size))
                        have T8 := Lib.hid ((T7.out.more BA).app7 hg8 ho8 hw9)
                        have B8 := Lib.hid ((B7.out.more BA).app7 hg8 hw9)
                        rw [← hO] at T8
                        clear ho8 hg8 hw8 hw9 BA T7 B7
                        go_wp2_with fail
                        go_roundg (nn - 1)
                        case measure => omega
                        case rel => exact ⟨nn - 1, rfl, by congr 1; omega, by omega, m', q', T8.out, B8.out⟩
                      · rw [← hO] at T7
                        go_wp2_with fail
                        go_roundg (nn - 1)
                        case measure => omega
                        case rel => exact ⟨nn - 1, rfl, by congr 1; omega, by omega, m', q', T7.out, B7.out⟩
                  · have hd0 : decide (0 < nn) = false := by simp; omega
                    have hd0' : decide (0 < (nn : Int)) = false := by simp; omega
                    obtain rfl : nn = 0 := by omega
                    have T9 := Lib.hid hTK
                    have B9 := Lib.hid hTB
                    clear hTK hTB
                    go_wp2_with fail
                    go_roundg (BL.length - (i + 1))
                    case measure => omega
                    case rel => exact ⟨i + 1, by omega, rfl, by go_num, m, q, T9.out, B9.out⟩
              · have hdi : decide (i < (cbk (wtL O2 d)).length) = false := by simp; omega
                have hdi' : decide ((i : Int) < ((cbk (wtL O2 d)).length : Int)) = false := by simp; omega
                obtain ⟨A7b, c7b, hv7⟩ := hTK.o7.form
                have hlm : (O2.take m).length = m := by rw [List.length_take]; have := hTK.ti.mo; omega
                rw [hlm] at hv7
                subst hv7
                have T6 := Lib.hid hTK
                have HA7 := Lib.hid (show ∀ W, Below w.heap.size w W → Calls Tryd.prog 6 #[.slice A n c, .int .i64 ((k : Int) + 7)] W (Small W) from fun W hb => by
                  have h := Ha.out W hb (k + 7) (by omega)
                  rw [show ((k + 7 : Nat) : Int) = (k : Int) + 7 by omega] at h
                  exact h)
                clear hTK hTB
                go_upto_region 26 with fail
                go_cut [113] from 104 to 113 (fun s113 wx => ∃ z : Bool, s113 = .bool z ∧ wx = wr)
                case first =>
                  go_wp2_with fail
                  refine (HA7.out _ T6.out.below).mono ?_
                  rintro e w4 ⟨y, hy, rfl, rfl⟩
                  by_cases he : (y : Int) % 2 = 0
                  · have hde : ((y : Int) % 2 == 0) = true := beq_iff_eq.2 he
                    go_wp2_with fail
                    go_meet
                    exact ⟨true, rfl, rfl⟩
                  · have hde : ((y : Int) % 2 == 0) = false := beq_eq_false_iff_ne.2 he
                    by_cases h45 : 45 < k
                    · have h45d : decide (45 < k) = true := by simp; omega
                      have h45d' : decide (45 < (k : Int)) = true := by simp; omega
                      go_wp2_with fail
                      go_meet
                      exact ⟨true, rfl, rfl⟩
                    · have h45d : decide (45 < k) = false := by simp; omega
                      have h45d' : decide (45 < (k : Int)) = false := by simp; omega
                      go_wp2_with fail
                      go_meet
                      exact ⟨false, rfl, rfl⟩
                case rest =>
                  obtain ⟨z, rfl, hwc⟩ := hcut
                  subst hwc
                  generalize wc = wr at *
                  go_upto_if 113 with fail
                  go_cut [114] from 114 to 117 (fun s114 wx => ∃ (vq' : Value) (d' : Nat), TK w wx g3 g5 u6 (.slice A7b m c7b) vq' b O2 (O2.take m) O2 d' m q)
                  case first =>
                    cases z with
                    | false =>
                      go_wp2_with fail
                      go_meet
                      exact ⟨vq2, d, T6.out⟩
                    | true =>
                      have HNO := Lib.hid (fun W (hb : Below wr.heap.size wr W) => (no_impl (m : Int) false q (m : Int) W).mono fun e w' h => (show e = .returned (ntV (m : Int) false q) ∧ Below wr.heap.size wr w' ∧ Cells4S w' g3 (.int .i64 (O2.length : Int)) (.int .i64 b) vq2 (.int .i64 (d : Int)) from
                        ⟨h.1, hb.trans (h.2.mono hb.size), ((T6.out.bs.more hb).more h.2).fourS⟩))
                      have HHE := Lib.hid (fun W (hb : Below wr.heap.size wr W) => (tk_hear T6.out.ti false q W _ _ (T6.out.oq.more hb)).mono fun e w' h => (show ∃ A2 c2, e = .returned (seV (O2.length : Int) b (.slice A2 (wtL O2 m).length c2) (m : Int)) ∧ OwnO w' wr.heap.size (.slice A2 (wtL O2 m).length c2) (wtL O2 m) ∧ Below wr.heap.size wr w' ∧ Cells4S w' g3 (.int .i64 (O2.length : Int)) (.int .i64 b) vq2 (.int .i64 (d : Int)) ∧ (∀ j, w'.frozen? ⟨g3, j, none⟩ = false) from by
                        obtain ⟨A2, c2, h1, h2, h3⟩ := h
                        have hB := (T6.out.bs.more hb).more h3
                        exact ⟨A2, c2, h1, h2.lower hb.size, hb.trans (h3.mono hb.size), hB.fourS, hB.ice⟩))
                      obtain ⟨k0, k1, k2, k3⟩ := T6.out.bs.fourS
                      obtain ⟨m0, m1, m2, m3⟩ := T6.out.br.fourR
                      have BD := (Below.refl wr.heap.size wr).drew
                      go_upto_region 27 with fail
                      go_region_law ((first
                        | (go_simp; go_at_call 13; (with_reducible refine (HNO.out _ BD).mono ?_); rintro e wN ⟨rfl, BN, n0, n1, n2, n3⟩)
                        | (go_simp; go_at_call 12; (with_reducible refine (HHE.out _ BN).mono ?_); rintro e wF ⟨A2, c2, rfl, OF, BF, ⟨f0, f1, f2, f3⟩, fi⟩)))
                      all_goals go_wp2_with fail
                      all_goals go_meet
                      all_goals exact ⟨_, m, (T6.out.more BF).setS (OF.lower T6.out.below.size) (fun e => by have := (OF.up _ e).1; have := T6.out.bs.lt; omega) (fun e => by have := (OF.up _ e).1; have := T6.out.br.lt; omega) (fun j h1 h2 => by have := (T6.out.o6.up j h1).2; have := (OF.up j h2).1; omega) (fun j h1 h2 => by have := (T6.out.o7.up j h1).2; have := (OF.up j h2).1; omega) T6.out.ti.heard⟩
                  case rest =>
                    obtain ⟨vq3, d3, hT⟩ := hcut
                    generalize wc = w9 at *
                    obtain ⟨A6, c6, hv6⟩ := hT.o6.form
                    subst hv6
                    have T9 := Lib.hid hT
                    have hmo := hT.ti.mo
                    have hdm := hT.ti.dm
                    have ho30 := hT.ti.o30
                    have HSL := Lib.hid (cut_to A6 O2.length c6 m (Nat.le_trans hmo hT.o6.cap))
                    have HSM := Lib.hid (same_any w9 _ _ _ _ (O2.take m) (by rw [hlm]; omega) hT.o7 (hT.o6.takeA m hmo))
                    clear hT T6
                    have hq1 : decide ((O2.length : Int) < (m : Int)) = false := by simp; omega
                    have hq1' : decide (O2.length < m) = false := by simp; omega
                    have hq2 : decide ((m : Int) < (d3 : Int)) = false := by simp; omega
                    have hq2' : decide (m < d3) = false := by simp; omega
                    have hsl := HSL.out
                    go_wp2_with fail
                    refine HSM.out.mono ?_
                    rintro e w10 ⟨rfl, dd, rfl⟩
                    have T10 := Lib.hid (T9.out.more (below_draws (Below.refl _ _) dd))
                    clear T9 HSM
                    generalize w9.drewN dd = w10 at *
                    obtain ⟨k0, k1, k2, k3⟩ := T10.out.bs.fourS
                    go_wp2_with fail
                    refine (tk_sok T10.out.ti _ _ _ T10.out.oq).mono ?_
                    rintro e w11 ⟨rfl, hb11⟩
                    have T11 := Lib.hid (T10.out.more hb11)
                    clear hb11 k0 k1 k2 k3 T10
                    obtain ⟨m0, m1, m2, m3⟩ := T11.out.br.fourR
                    go_wp2_with fail
                    refine (tk_rok T11.out.ti q _).mono ?_
                    rintro e w12 ⟨rfl, hb12⟩
                    have T12 := Lib.hid (T11.out.more hb12)
                    clear hb12 m0 m1 m2 m3 T11
                    obtain ⟨m0, m1, m2, m3⟩ := T12.out.br.fourR
                    go_wp2_with fail
                    go_roundg (60 - (k + 1))
                    case measure => omega
                    case rel => exact ⟨k + 1, by omega, rfl, by go_num, O2, d3, m, q, vq3, T12.out⟩
      · have hd : decide (k < 60) = false := by simp; omega
        have hd' : decide ((k : Int) < 60) = false := by simp; omega
        obtain rfl : k = 60 := by omega
        obtain ⟨Aq, cq, hvq⟩ := T1.out.oq.form
        generalize (wtL O d).length = lq at hvq
        subst hvq
        have X1 := Lib.hid (T1.out.copy 26)
        obtain ⟨k0, k1, k2, k3⟩ := T1.out.bs.fourS
        clear Ha
        go_wp2_with fail
        clear k0 k1 k2 k3 T1 hd hd' hlt
        have hD0 := X1.out.ti.dm
        generalize wr.alloc (.cells #[.int .i64 (O.length : Int), .int .i64 b, .slice Aq lq cq, .int .i64 (d : Int)] 26) = w2 at *
        generalize wr.heap.size = g17 at *
        go_loopg [7, 18] 3 (fun gh v7 v18 wx => ∃ j : Nat, j ≤ 3 ∧ gh = 3 - j ∧ v18 = .int .i64 (j : Int) ∧ ∃ (d m : Nat) (q : Bool) (vq : Value), TK w wx g17 g5 (.slice A6 O.length c6) v7 vq b O (O.take m) O d m q ∧ (0 < j → m = O.length ∧ d = O.length))
        case atStart => exact ⟨0, by omega, rfl, rfl, d, m, q, _, X1.out, fun h => absurd h (Nat.lt_irrefl 0)⟩
        case round =>
          clear X1 hD0 hlm
          obtain ⟨j, hj, rfl, rfl, d, m, q, vq, hTK, hlast⟩ := hrel
          by_cases hlt : j < 3
          · have hd : decide (j < 3) = true := by simp; omega
            have hd' : decide ((j : Int) < 3) = true := by simp; omega
            have T2 := Lib.hid hTK
            have HBK := Lib.hid (tk_blocks hTK.ti wr _ _ hTK.oq)
            have hmd := hTK.ti.dm
            clear hTK hlast
            obtain ⟨k0, k1, k2, k3⟩ := T2.out.bs.fourS
            go_wp2_with fail
            refine HBK.out.mono ?_
            rintro e w3 ⟨v11, rfl, ho3, hb3⟩
            obtain ⟨A7, c7, hv7⟩ := T2.out.o7.form
            subst hv7
            have T3 := Lib.hid (T2.out.more hb3)
            have hz3 := hb3.size
            obtain ⟨A11, c11, rfl⟩ := ho3.form
            have B3 := Lib.hid (show TB w3 w.heap.size g5 (.slice A7 (O.take m).length c7) (.slice A11 (cbk (wtL O d)).length c11) (cbk (wtL O d)) from
              ⟨ho3.lower T2.out.below.size, fun e => by have := (ho3.up _ e).1; have := T2.out.br.lt; omega, fun j h1 h2 => by have := (T2.out.o7.up j h1).2; have := (ho3.up j h2).1; omega⟩)
            have hBl : (cbk (wtL O d)).length ≤ 30 := by rw [cbk_len]; exact T2.out.ti.short
            have HBL0 := Lib.hid (show (cbk (wtL O d)).length = O.length - d by rw [cbk_len, wtL_len])
            have hlm : (O.take m).length = m := by rw [List.length_take]; have := T2.out.ti.mo; omega
            rw [hlm] at T3 B3
            clear hb3 ho3 HBK k0 k1 k2 k3 T2
            go_wp2_with fail
            go_loopg [7, 20] (cbk (wtL O d)).length (fun gh v7 v20 wx => ∃ i : Nat, i ≤ (cbk (wtL O d)).length ∧ gh = (cbk (wtL O d)).length - i ∧ v20 = .int .i64 (i : Int) ∧ ∃ (m : Nat) (q : Bool), TK w wx g17 g5 (.slice A6 O.length c6) v7 vq b O (O.take m) O d m q ∧ TB wx w.heap.size g5 v7 (.slice A11 (cbk (wtL O d)).length c11) (cbk (wtL O d)) ∧ d + i ≤ m)
            case atStart => exact ⟨0, by omega, rfl, rfl, m, q, T3.out, B3.out, by omega⟩
            case round =>
              clear T3 B3 hlm
              obtain ⟨i, hi, rfl, rfl, m, q, hTK, hTB, hdi⟩ := hrel
              by_cases hil : i < (cbk (wtL O d)).length
              · have hdl : decide (i < (cbk (wtL O d)).length) = true := by simp; omega
                have hdl' : decide ((i : Int) < ((cbk (wtL O d)).length : Int)) = true := by simp; omega
                obtain ⟨g11, cap, hv11, _, hg11, hcell, _⟩ := hTB.o.rowsT (by omega)
                injection hv11 with hA11 _ hc11
                subst hA11
                subst hc11
                have hTi := Lib.hid (fun W (hb : Below w.heap.size w W) m q (ti : TI O m d b) => tk_take ti q i hil W a0 a1 a2 (HSE.out W hb))
                clear hcell hg11
                generalize hBL : cbk (wtL O d) = BL at *
                obtain ⟨m', q', data, tk, ti', hcs, hmm, hdm, htk⟩ := hTi.out wr hTK.below m q hTK.ti
                obtain ⟨A7b, c7b, hv7⟩ := hTK.o7.form
                have hlm : (O.take m).length = m := by rw [List.length_take]; have := hTK.ti.mo; omega
                rw [hlm] at hv7
                subst hv7
                obtain ⟨g11', cap', hv11, _, hg11, hcell, _⟩ := hTB.o.rowsT (by omega)
                injection hv11 with hA11 _ hcc
                injection hA11 with hA12
                injection hA12 with hA13
                subst hA13
                subst hcc
                have hc11 := hcell i hil
                have T5 := Lib.hid hTK
                have B5 := Lib.hid hTB
                have HTK := Lib.hid htk
                have HCS := Lib.hid hcs
                have HTI := Lib.hid ti'
                have m30 := hTK.ti.mo
                have o30 := hTK.ti.o30
                clear hTK hTB htk hcs ti' hcell
                obtain ⟨blk, hblk⟩ : ∃ blk, BL[i] = blk := ⟨_, rfl⟩
                rw [hblk] at hc11
                simp only [hblk] at HTK
                go_upto_region 38 with fail
                go_cut [21, 22, 23] from 166 to 175 (fun s14 s15 s16 wx => ∃ g : Nat, s14 = .pointer (some ⟨g, 0, none⟩) ∧ s15 = .string data ∧ s16 = .bool tk ∧ KeptB wr wx [(g5, rcL (m : Int) false q (m : Int))] (rcL (m' : Int) false q' (m' : Int)) g)
                case first =>
                  have ZS := ZB.start1 T5.out.br
                  have Z0 := ZS.drew
                  have Z1 := (ZS.new (rcL 0 false false 0) 31).drew
                  have Z2 := Z0.new (rcL 0 false false 0) 31
                  have FF := Lib.hid (fun W zo (hz : ZB wr W [(g5, rcL (m : Int) false q (m : Int))] zo) => (HTK.out W hz.below).mono fun e w' hh => (show e = .returned (.tuple #[rcV (m' : Int) false q' (m' : Int), .string data, .bool tk]) ∧ ZB wr w' [(g5, rcL (m : Int) false q (m : Int))] zo from ⟨hh.1, hz.more hh.2⟩))
                  go_wp2
                  go_region_held3 (fun w' => w'.cell? ⟨g5, 0, none⟩ = some (.int .i64 (m : Int)) ∧ w'.cell? ⟨g5, 1, none⟩ = some (.bool false) ∧ w'.cell? ⟨g5, 2, none⟩ = some (.bool q) ∧ w'.cell? ⟨g5, 3, none⟩ = some (.int .i64 (m : Int)) ∧ w'.cell? ⟨g11, i, none⟩ = some (.string blk))
                    (first | with_reducible exact Z0.blk hg11 hc11 | with_reducible exact Z1.blk hg11 hc11 | with_reducible exact Z2.blk hg11 hc11 | with_reducible exact ZF.blk hg11 hc11 | with_reducible exact (ZF.alloc _).blk hg11 hc11 | exact (ZF.put (rcL (m' : Int) false q' (m' : Int)) rfl).blk hg11 hc11)
                    (first
                      | (go_at_call 11; (first
                          | (with_reducible refine (FF.out _ _ Z0).mono ?_)
                          | (with_reducible refine (FF.out _ _ Z1).mono ?_)
                          | (with_reducible refine (FF.out _ _ Z2).mono ?_)); rintro e wF ⟨rfl, ZF⟩; try (have zb := ZF.box.1; obtain ⟨z0, z1, z2, z3⟩ := zb.fourR; have zi := zb.ice)))
                  all_goals go_wp2_with fail
                  all_goals go_meet
                  all_goals (first
                    | exact ⟨_, rfl, rfl, rfl, ZF.fin_made (rcL (m' : Int) false q' (m' : Int)) _⟩
                    | exact ⟨_, rfl, rfl, rfl, ZF.fin_put (rcL (m' : Int) false q' (m' : Int)) rfl⟩)
                case rest =>
                  obtain ⟨g14, rfl, rfl, rfl, ZK⟩ := hcut
                  generalize wc = w6 at *
                  have T6 := Lib.hid (T5.out.more ZK.below)
                  have B6 := Lib.hid (B5.out.more ZK.below)
                  have K6 := Lib.hid ZK.box.1
                  have T7 := Lib.hid (T6.out.setR (q' := q') HTI.out)
                  have B7 := Lib.hid (B6.out.setR (rcL (m' : Int) false q' (m' : Int)))
                  clear ZK T5 B5 hc11
                  obtain ⟨k0, k1, k2, k3⟩ := K6.out.fourR
                  obtain ⟨m0, m1, m2, m3⟩ := T6.out.br.fourR
                  have mi := T6.out.br.ice
                  go_upto_region 40 with fail
                  have hW : w6.setCells g5 0 (rcL (m' : Int) false q' (m' : Int)) = (((w6.setCell ⟨g5, 0, none⟩ (.int .i64 (m' : Int))).setCell ⟨g5, 1, none⟩ (.bool false)).setCell ⟨g5, 2, none⟩ (.bool q')).setCell ⟨g5, 3, none⟩ (.int .i64 (m' : Int)) := rfl
                  rw [hW] at T7 B7
                  clear hW
                  generalize (((w6.setCell ⟨g5, 0, none⟩ (.int .i64 (m' : Int))).setCell ⟨g5, 1, none⟩ (.bool false)).setCell ⟨g5, 2, none⟩ (.bool q')).setCell ⟨g5, 3, none⟩ (.int .i64 (m' : Int)) = w7 at *
                  clear k0 k1 k2 k3 m0 m1 m2 m3 mi K6 T6 B6
                  rcases HCS.out with ⟨rfl, hO⟩ | ⟨rfl, hO⟩
                  · go_wp2_with (at_builtin; go_loud (refine app_textG _ rfl _ _ rfl w.heap.size (.slice A7b m c7b) (O.take m) data rfl T7.out.o7 _ 1 rfl (by omega) T7.out.below.size ?_))
                    intro v7n w8 ho8 hg8 hw8
                    have BA := (Below.refl w7.heap.size w7).alloc (Nat.le_refl _) (.cells #[.string data] 9)
                    have hw9 := hw8.imp id (fun e => (by rw [e]; simp : v7n.ownBlock = some (w7.alloc (.cells #[.string data] 9)).heap.size))
                    have T8 := Lib.hid ((T7.out.more BA).app7 hg8 ho8 hw9)
                    have B8 := Lib.hid ((B7.out.more BA).app7 hg8 hw9)
                    rw [← hO] at T8
                    clear ho8 hg8 hw8 hw9 BA T7 B7
                    go_wp2_with fail
                    go_roundg (BL.length - (i + 1))
                    case measure => omega
                    case rel => exact ⟨i + 1, by omega, rfl, by go_num, m', q', T8.out, B8.out, by omega⟩
                  · rw [← hO] at T7
                    go_wp2_with fail
                    go_roundg (BL.length - (i + 1))
                    case measure => omega
                    case rel => exact ⟨i + 1, by omega, rfl, by go_num, m', q', T7.out, B7.out, by omega⟩
              · have hdl : decide (i < (cbk (wtL O d)).length) = false := by simp; omega
                have hdl' : decide ((i : Int) < ((cbk (wtL O d)).length : Int)) = false := by simp; omega
                have hBe := HBL0.out
                have hme : m = O.length := by have := hTK.ti.mo; have := hTK.ti.dm; omega
                have T6 := Lib.hid hTK
                have HME := Lib.hid hme
                clear hTK hTB hBe hme
                have HNO := Lib.hid (fun W (hb : Below wr.heap.size wr W) => (no_impl (m : Int) false q (m : Int) W).mono fun e w' h => (show e = .returned (ntV (m : Int) false q) ∧ Below wr.heap.size wr w' ∧ Cells4S w' g17 (.int .i64 (O.length : Int)) (.int .i64 b) vq (.int .i64 (d : Int)) from
                  ⟨h.1, hb.trans (h.2.mono hb.size), ((T6.out.bs.more hb).more h.2).fourS⟩))
                have HHE := Lib.hid (fun W (hb : Below wr.heap.size wr W) => (tk_hear T6.out.ti false q W _ _ (T6.out.oq.more hb)).mono fun e w' h => (show ∃ A2 c2, e = .returned (seV (O.length : Int) b (.slice A2 (wtL O m).length c2) (m : Int)) ∧ OwnO w' wr.heap.size (.slice A2 (wtL O m).length c2) (wtL O m) ∧ Below wr.heap.size wr w' ∧ Cells4S w' g17 (.int .i64 (O.length : Int)) (.int .i64 b) vq (.int .i64 (d : Int)) ∧ (∀ j, w'.frozen? ⟨g17, j, none⟩ = false) from by
                  obtain ⟨A2, c2, h1, h2, h3⟩ := h
                  have hB := (T6.out.bs.more hb).more h3
                  exact ⟨A2, c2, h1, h2.lower hb.size, hb.trans (h3.mono hb.size), hB.fourS, hB.ice⟩))
                obtain ⟨k0, k1, k2, k3⟩ := T6.out.bs.fourS
                obtain ⟨m0, m1, m2, m3⟩ := T6.out.br.fourR
                have BD := (Below.refl wr.heap.size wr).drew
                obtain ⟨A7, c7, hv7⟩ := T6.out.o7.form
                have hlm : (O.take m).length = m := by rw [List.length_take]; have := T6.out.ti.mo; omega
                rw [hlm] at hv7
                subst hv7
                go_upto_region 42 with fail
                go_region_law ((first
                  | (go_simp; go_at_call 13; (with_reducible refine (HNO.out _ BD).mono ?_); rintro e wN ⟨rfl, BN, n0, n1, n2, n3⟩)
                  | (go_simp; go_at_call 12; (with_reducible refine (HHE.out _ BN).mono ?_); rintro e wF ⟨A2, c2, rfl, OF, BF, ⟨f0, f1, f2, f3⟩, fi⟩)))
                all_goals
                  have T7 := Lib.hid ((T6.out.more BF).setS (OF.lower T6.out.below.size) (fun e => by have := (OF.up _ e).1; have := T6.out.bs.lt; omega) (fun e => by have := (OF.up _ e).1; have := T6.out.br.lt; omega) (fun j h1 h2 => by have := (T6.out.o6.up j h1).2; have := (OF.up j h2).1; omega) (fun j h1 h2 => by have := (T6.out.o7.up j h1).2; have := (OF.up j h2).1; omega) T6.out.ti.heard)
                  have hW : World.setCells wF g17 0 (seL (O.length : Int) b (.slice A2 (wtL O m).length c2) (m : Int)) = (((wF.setCell ⟨g17, 0, none⟩ (.int .i64 (O.length : Int))).setCell ⟨g17, 1, none⟩ (.int .i64 b)).setCell ⟨g17, 2, none⟩ (.slice A2 (wtL O m).length c2)).setCell ⟨g17, 3, none⟩ (.int .i64 (m : Int)) := rfl
                  rw [hW] at T7
                  clear hW
                  go_wp2_with fail
                  generalize (((wF.setCell ⟨g17, 0, none⟩ (.int .i64 (O.length : Int))).setCell ⟨g17, 1, none⟩ (.int .i64 b)).setCell ⟨g17, 2, none⟩ (.slice A2 (wtL O m).length c2)).setCell ⟨g17, 3, none⟩ (.int .i64 (m : Int)) = w8 at *
                  go_roundg (3 - (j + 1))
                  case measure => omega
                  case rel => exact ⟨j + 1, by omega, rfl, by go_num, m, m, q, _, T7.out, fun _ => ⟨HME.out, HME.out⟩⟩
          · have hd : decide (j < 3) = false := by simp; omega
            have hd' : decide ((j : Int) < 3) = false := by simp; omega
            obtain rfl : j = 3 := by omega
            obtain ⟨rfl, rfl⟩ := hlast (by omega)
            obtain ⟨A7, c7, hv7⟩ := hTK.o7.form
            have hlm : (O.take O.length).length = O.length := by rw [List.length_take]; omega
            rw [hlm] at hv7
            subst hv7
            obtain ⟨Aq, cq, hvq⟩ := hTK.oq.form
            have hlq : (wtL O O.length).length = 0 := by rw [wtL_len]; omega
            rw [hlq] at hvq
            subst hvq
            have T9 := Lib.hid hTK
            have ho30 := hTK.ti.o30
            have HSM := Lib.hid (same_any wr _ _ _ _ O (by omega) (by have h := hTK.o7; rw [List.take_length] at h; exact h) hTK.o6)
            clear hTK
            have hee : ((O.length : Int) == (O.length : Int)) = true := beq_self_eq_true _
            obtain ⟨k0, k1, k2, k3⟩ := T9.out.bs.fourS
            go_wp2_with fail
            refine HSM.out.mono ?_
            rintro e w10 ⟨rfl, dd, rfl⟩
            have T10 := Lib.hid (T9.out.more (below_draws (Below.refl _ _) dd))
            clear T9 HSM k0 k1 k2 k3
            generalize wr.drewN dd = w10 at *
            obtain ⟨k0, k1, k2, k3⟩ := T10.out.bs.fourS
            obtain ⟨m0, m1, m2, m3⟩ := T10.out.br.fourR
            go_wp2_with fail
            go_ret
            exact ⟨rfl, T10.out.below⟩
end Go.Proofs.YtebfefkknaalpaaDoor
