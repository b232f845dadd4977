/- What this text proves: the parts TkoC, At, Snd, Sno, SnQO of the proof, each under its own words. -/
import Derived.Test.YtebfefkknaalpaaDoorV16
import Derived.Test.YtebfefkknaalpaaDoorV17
import Derived.Test.YtebfefkknaalpaaDoorV18
import Derived.Test.YtebfefkknaalpaaDoorV20
import Derived.Test.YtebfefkknaalpaaDoorV21
import Derived.Test.YtebfefkknaalpaaDoorV22
import Derived.Test.YtebfefkknaalpaaDoorV00
import Derived.Test.YtebfefkknaalpaaDoorV09
import Derived.Test.YtebfefkknaalpaaDoorV05
import Derived.Test.YtebfefkknaalpaaDoorV06
/- What this text proves: the contracts of sender and receiver where they are in step. -/
namespace Go.Proofs.YtebfefkknaalpaaDoor
open Go.ChangeShapes Go.WideShapes Go.ChangeAt Go.RowKit
set_option linter.unusedVariables false

theorem fmt_small : ∀ k : Fin 60, 1 ≤ (fmtB ((k.val : Nat) : Int)).size ∧ (fmtB ((k.val : Nat) : Int)).size ≤ 40 := by decide +kernel
theorem fmt_k (k : Nat) (hk : k < 60) : 1 ≤ (fmtB (k : Int)).size ∧ (fmtB (k : Int)).size ≤ 40 := fmt_small ⟨k, hk⟩
theorem fmt_at (k : Nat) (hk : k < 60) (w : World) : Calls Tryd.prog 8 #[.int .i64 (k : Int)] w fun e w' => e = .returned (.string (fmtB (k : Int))) ∧ Below w.heap.size w w' := format_spec (k : Int) (by omega) (by omega) w
theorem btoi_any (p : Bool) (w : World) : Calls Tryd.prog 10 #[.bool p] w fun e w' => (∃ z : Nat, z ≤ 1 ∧ e = .returned (.int .i64 (z : Int))) ∧ w = w' := by
  cases p with
  | true =>
    go_enter Tryd.func10, Tryd.ntmps10
    go_wp2
    go_ret
    exact ⟨⟨1, by omega, rfl⟩, rfl⟩
  | false =>
    go_enter Tryd.func10, Tryd.ntmps10
    go_wp2
    go_ret
    exact ⟨⟨0, by omega, rfl⟩, rfl⟩
theorem TI.sizes {O : List ByteArray} {m d : Nat} {b : Int} (h : TI O m d b) : ∀ j (hj : j < (wtL O d).length), (wtL O d)[j].2.size ≤ 1100000 := fun j hj => by
  have hl := wtL_len O d
  rw [wtL_at O d j hj (by omega)]
  have := h.sz _ (List.getElem_mem (show d + j < O.length by omega))
  show O[d + j].size ≤ 1100000
  omega
theorem TI.short {O : List ByteArray} {m d : Nat} {b : Int} (h : TI O m d b) : (wtL O d).length ≤ 30 := by have := wtL_len O d; have := h.o30; omega
theorem tk_offer {O : List ByteArray} {m d : Nat} {b : Int} {x : ByteArray} (h : TI O m d b) (ho : O.length < 30) (hx : 1 ≤ x.size ∧ x.size ≤ 40) :
    ∃ (bb : Bool) (O' : List ByteArray), TI O' m d b ∧ ((bb = true ∧ O' = O ++ [x]) ∨ (bb = false ∧ O' = O)) ∧ ∀ W base vq, OwnO W base vq (wtL O d) →
      Calls Tryd.prog 7 #[seV (O.length : Int) b vq (d : Int), .string x] W fun e w' => ∃ A2 c2, e = .returned (.tuple #[seV (O'.length : Int) b (.slice A2 (wtL O' d).length c2) (d : Int), .bool bb]) ∧ OwnO w' W.heap.size (.slice A2 (wtL O' d).length c2) (wtL O' d) ∧ Below W.heap.size W w' := by
  have h3 := h.o30
  have hs := h.short
  have key : ∀ (bb : Bool) (O' : List ByteArray), ofB (O.length : Int) b (wtL O d) (d : Int) x = bb → ofN (O.length : Int) b (wtL O d) (d : Int) x = (O'.length : Int) → ofL (O.length : Int) b (wtL O d) (d : Int) x = wtL O' d → ∀ W base vq, OwnO W base vq (wtL O d) →
      Calls Tryd.prog 7 #[seV (O.length : Int) b vq (d : Int), .string x] W fun e w' => ∃ A2 c2, e = .returned (.tuple #[seV (O'.length : Int) b (.slice A2 (wtL O' d).length c2) (d : Int), .bool bb]) ∧ OwnO w' W.heap.size (.slice A2 (wtL O' d).length c2) (wtL O' d) ∧ Below W.heap.size W w' := by
    intro bb O' r1 r2 r3 W base vq ho
    obtain ⟨A, c, rfl⟩ := ho.form
    have := offer_impl (O.length : Int) b (d : Int) (by omega) A (wtL O d) c x (by omega) h.sizes (by omega) W ho.ats
    rw [r1, r2, r3] at this
    exact this.mono fun e w' ⟨A1, c1, h1, h2, h3⟩ => ⟨A1, c1, h1, OwnN.toO h2, h3⟩
  by_cases hw : (O.length : Int) + 1 - d ≤ b
  · obtain ⟨r1, r2, r3⟩ := h.offer_yes ho hx hw
    exact ⟨true, O ++ [x], h.app ho hx hw, .inl ⟨rfl, rfl⟩, key _ _ r1 r2 r3⟩
  · obtain ⟨r1, r2, r3⟩ := h.offer_no (x := x) hw
    exact ⟨false, O, h, .inr ⟨rfl, rfl⟩, key _ _ r1 r2 r3⟩
theorem tk_blocks {O : List ByteArray} {m d : Nat} {b : Int} (h : TI O m d b) (W : World) (base : Nat) (vq : Value) (ho : OwnO W base vq (wtL O d)) :
    Calls Tryd.prog 9 #[seV (O.length : Int) b vq (d : Int)] W fun e w' => ∃ v, e = .returned v ∧ OwnS w' W.heap.size v (cbk (wtL O d)) ∧ Below W.heap.size W w' := by
  have hs := h.short
  obtain ⟨A, c, rfl⟩ := ho.form
  have := cb_impl (O.length : Int) b (d : Int) A (wtL O d) c (by omega) h.sizes W ho.ats
  rw [h.blocks] at this
  exact this
theorem tk_take {O : List ByteArray} {m d : Nat} {b : Int} (h : TI O m d b) (q : Bool) (i : Nat) (hi : i < (cbk (wtL O d)).length) (w : World) (a0 a1 a2 : Addr) (hS : Sents w a0 a1 a2) :
    ∃ (m' : Nat) (q' : Bool) (data : ByteArray) (tk : Bool), TI O m' d b ∧ ((tk = true ∧ O.take m' = O.take m ++ [data]) ∨ (tk = false ∧ O.take m' = O.take m)) ∧ m ≤ m' ∧ (d + i ≤ m → d + i + 1 ≤ m') ∧ ∀ W, Below w.heap.size w W →
      Calls Tryd.prog 11 #[rcV (m : Int) false q (m : Int), .string (cbk (wtL O d))[i]] W fun e w' => e = .returned (.tuple #[rcV (m' : Int) false q' (m' : Int), .string data, .bool tk]) ∧ Below W.heap.size W w' := by
  have hl := wtL_len O d
  have hd : d + i < O.length := by rw [cbk_len] at hi; omega
  have hat := cbk_at O d i hi hd
  have hsz := (h.sz _ (List.getElem_mem hd)).2
  have hc := cmT_le 0 ((d + i : Nat) : Int) O[d + i] hsz
  rcases h.take q i hd with ⟨he, ht⟩ | ⟨hne, q', ht⟩
  · refine ⟨m + 1, false, O[d + i], true, h.took (by omega), .inl ⟨rfl, ?_⟩, by omega, by omega, fun W hb => ?_⟩
    · rw [List.take_succ_eq_append_getElem (by omega)]
      simp only [he]
    · have := take_impl (m : Int) false q (m : Int) (cmT 0 ((d + i : Nat) : Int) O[d + i]) (by omega) W a0 a1 a2 (hS.more hb)
      rw [ht] at this
      rw [hat]
      exact this
  · refine ⟨m, q', ⟨#[]⟩, false, h, .inr ⟨rfl, rfl⟩, Nat.le_refl _, by omega, fun W hb => ?_⟩
    have := take_impl (m : Int) false q (m : Int) (cmT 0 ((d + i : Nat) : Int) O[d + i]) (by omega) W a0 a1 a2 (hS.more hb)
    rw [ht] at this
    rw [hat]
    exact this
theorem tk_hear {O : List ByteArray} {m d : Nat} {b : Int} (h : TI O m d b) (p q : Bool) (W : World) (base : Nat) (vq : Value) (ho : OwnO W base vq (wtL O d)) :
    Calls Tryd.prog 12 #[seV (O.length : Int) b vq (d : Int), ntV (m : Int) p q] W fun e w' => ∃ A2 c2, e = .returned (seV (O.length : Int) b (.slice A2 (wtL O m).length c2) (m : Int)) ∧ OwnO w' W.heap.size (.slice A2 (wtL O m).length c2) (wtL O m) ∧ Below W.heap.size W w' := by
  have hs := h.short
  obtain ⟨A, c, rfl⟩ := ho.form
  obtain ⟨r1, r2⟩ := h.hear
  have := hear_impl (O.length : Int) b (d : Int) A (wtL O d) c (m : Int) p q (by omega) h.sizes W ho.ats
  rw [r1, r2] at this
  exact this
theorem tk_sok {O : List ByteArray} {m d : Nat} {b : Int} (h : TI O m d b) (W : World) (base : Nat) (vq : Value) (ho : OwnO W base vq (wtL O d)) :
    Calls Tryd.prog 15 #[seV (O.length : Int) b vq (d : Int)] W fun e w' => e = .returned (.bool true) ∧ Below W.heap.size W w' := by
  have hs := h.short
  obtain ⟨A, c, rfl⟩ := ho.form
  have := so_impl (O.length : Int) b (d : Int) A (wtL O d) c (by omega) h.sizes W ho.ats
  rw [h.okB] at this
  exact this
theorem tk_rok {O : List ByteArray} {m d : Nat} {b : Int} (h : TI O m d b) (q : Bool) (W : World) :
    Calls Tryd.prog 16 #[rcV (m : Int) false q (m : Int)] W fun e w' => e = .returned (.bool true) ∧ Below W.heap.size W w' := by
  have := ro_impl (m : Int) false q (m : Int) W
  rw [decide_eq_true h.rok] at this
  exact this
end Go.Proofs.YtebfefkknaalpaaDoor
/- What this text proves: the laws' own reading of one byte returns a number from 0 to 255, whatever the place. -/
namespace Go.Proofs.YtebfefkknaalpaaDoor
open Go.ChangeShapes Go.WideShapes Go.ChangeAt Go.RowKit
set_option linter.unusedVariables false

set_option maxHeartbeats 400000 in
theorem at_any (B : Nat) (A : Option Addr) (n c : Nat) (hn : n ≤ 1048576) (i : Nat) (hi : i ≤ 1000000) (w : World) (hc : CodeOk w B A n) :
    Calls Tryd.prog 6 #[.slice A n c, .int .i64 i] w (Small w) := by
  by_cases h0 : n = 0
  · subst h0
    go_enter Tryd.func6, Tryd.ntmps6
    go_wp2
    go_ret
    exact ⟨0, by omega, rfl, rfl⟩
  · rcases hc with hc | ⟨b, off, rfl, hlt, hcell⟩
    · exact absurd hc h0
    · have hd : ((n : Int) == 0) = false := by simp; omega
      have hd2 : 0 < n := by omega
      obtain ⟨x, hx, hxc⟩ := hcell ((i * 5 + 1) % n) (Nat.mod_lt _ hd2)
      have hlt2 : (i * 5 + 1) % n < n := Nat.mod_lt _ hd2
      have hm0 : (0 : Int) ≤ ((i : Int) * 5 + 1) % (n : Int) := Int.emod_nonneg _ (by omega)
      have hm1 : ((i : Int) * 5 + 1) % (n : Int) < (n : Int) := Int.emod_lt_of_pos _ (by omega)
      clear hcell h0
      go_enter Tryd.func6, Tryd.ntmps6
      go_wp2
      go_ret
      exact ⟨x, hx, rfl, rfl⟩
end Go.Proofs.YtebfefkknaalpaaDoor
/- What this text proves: the contracts of the laws' own functions over senders: their sizes, copies, comparisons and marks. -/
namespace Go.Proofs.YtebfefkknaalpaaDoor
open Go.ChangeShapes Go.WideShapes Go.ChangeAt Go.RowKit
set_option linter.unusedVariables false

end Go.Proofs.YtebfefkknaalpaaDoor
/- What this text proves: the laws' own comparison, marks and their reading over senders whose list lies somewhere in a block. -/
namespace Go.Proofs.YtebfefkknaalpaaDoor
open Go.ChangeShapes Go.WideShapes Go.ChangeAt Go.RowKit
set_option linter.unusedVariables false

end Go.Proofs.YtebfefkknaalpaaDoor
/- What this text proves: the boxes of a law over senders whose answer's list lies somewhere in a block. -/
namespace Go.Proofs.YtebfefkknaalpaaDoor
open Go.ChangeShapes Go.WideShapes Go.ChangeAt Go.RowKit
set_option linter.unusedVariables false

structure SO (w W : World) (n0 n1 n2 gw gx gg : Nat) (zw zx zg : List Value) (vw vx vg : Value) (lw lx lg : List Sn) : Prop where
  below : Below w.heap.size w W
  n : w.heap.size ≤ n0
  bw : Box W gw zw
  bx : Box W gx zx
  bg : Box W gg zg
  ow : OwnO W n0 vw lw
  uw : ∀ k, vw.ownBlock = some k → k < n1
  ox : OwnN W n1 vx lx
  ux : ∀ k, vx.ownBlock = some k → k < n2
  og : OwnO W n2 vg lg
  w0 : n0 ≤ gw
  w1 : gw < n1
  x1 : n1 ≤ gx
  x2 : gx < n2
  g1 : n2 ≤ gg
  nx : vx.ownBlock ≠ some gx
  ng : vg.ownBlock ≠ some gg
  nz : n2 ≤ W.heap.size
theorem SO.more {w W W' : World} {n0 n1 n2 gw gx gg : Nat} {zw zx zg : List Value} {vw vx vg : Value} {lw lx lg : List Sn} (h : SO w W n0 n1 n2 gw gx gg zw zx zg vw vx vg lw lx lg) (hb : Below W.heap.size W W') : SO w W' n0 n1 n2 gw gx gg zw zx zg vw vx vg lw lx lg :=
  ⟨h.below.trans (hb.mono h.below.size), h.n, h.bw.more hb, h.bx.more hb, h.bg.more hb, OwnO.more h.ow hb, h.uw, OwnR.more h.ox hb, h.ux, OwnO.more h.og hb, h.w0, h.w1, h.x1, h.x2, h.g1, h.nx, h.ng, Nat.le_trans h.nz hb.size⟩
theorem SO.nzx {w W : World} {n0 n1 n2 gw gx gg : Nat} {zw zx zg : List Value} {vw vx vg : Value} {lw lx lg : List Sn} (h : SO w W n0 n1 n2 gw gx gg zw zx zg vw vx vg lw lx lg) : n1 ≤ W.heap.size := by
  have := h.x1
  have := h.x2
  have := h.nz
  omega
/-- The same, the argument's copy left out. -/
structure SO2 (w W : World) (n0 n1 n2 gw gg : Nat) (zw zg : List Value) (vw vg : Value) (lw lg : List Sn) : Prop where
  below : Below w.heap.size w W
  n : w.heap.size ≤ n0
  bw : Box W gw zw
  bg : Box W gg zg
  ow : OwnO W n0 vw lw
  uw : ∀ k, vw.ownBlock = some k → k < n1
  og : OwnO W n2 vg lg
  w0 : n0 ≤ gw
  w1 : gw < n1
  x : n1 < n2
  g1 : n2 ≤ gg
  ng : vg.ownBlock ≠ some gg
  nz : n2 ≤ W.heap.size
theorem SO2.more {w W W' : World} {n0 n1 n2 gw gg : Nat} {zw zg : List Value} {vw vg : Value} {lw lg : List Sn} (h : SO2 w W n0 n1 n2 gw gg zw zg vw vg lw lg) (hb : Below W.heap.size W W') : SO2 w W' n0 n1 n2 gw gg zw zg vw vg lw lg :=
  ⟨h.below.trans (hb.mono h.below.size), h.n, h.bw.more hb, h.bg.more hb, OwnO.more h.ow hb, h.uw, OwnO.more h.og hb, h.w0, h.w1, h.x, h.g1, h.ng, Nat.le_trans h.nz hb.size⟩
theorem SO.neX {w W : World} {n0 n1 n2 gw gx gg : Nat} {zw zx zg : List Value} {vw vx vg : Value} {lw lx lg : List Sn} (h : SO w W n0 n1 n2 gw gx gg zw zx zg vw vx vg lw lx lg) (k : Nat) (hk : k < n1 ∨ n2 ≤ k) : vx.ownBlock ≠ some k := fun e => by
  have h1 := (OwnR.upto h.ox k e).1
  have h2 := h.ux k e
  omega
theorem SO.markX {w W W' : World} {n0 n1 n2 gw gx gg : Nat} {zw zx zg : List Value} {vw vx vg : Value} {lw lx lg : List Sn} (h : SO w W n0 n1 n2 gw gx gg zw zx zg vw vx vg lw lx lg) (hg : W.grownBy W' vx.ownBlock) : SO2 w W' n0 n1 n2 gw gg zw zg vw vg lw lg := by
  have a0 := h.n
  have aw := h.w0
  have a1 := h.w1
  have a2 := h.x1
  have a3 := h.x2
  have a4 := h.g1
  have hne := h.neX
  exact ⟨h.below.grown hg h.below.size (fun k hk => by have := (OwnR.upto h.ox k hk).1; omega), a0, h.bw.grown hg (hne _ (by omega)), h.bg.grown hg (hne _ (by omega)),
    OwnO.grown h.ow hg (fun k hk => hne _ (by have := h.uw k hk; omega)), h.uw, OwnO.grown h.og hg (fun k hk => hne _ (by have := (OwnO.up h.og k hk).1; omega)), aw, a1, by omega, a4, h.ng, Nat.le_trans h.nz hg.size⟩
theorem SO.argX {w W W' : World} {n0 n1 n2 gw gx gg g : Nat} {zw zx zg p : List Value} {vw vx vg : Value} {lw lx lg : List Sn} (h : SO w W n0 n1 n2 gw gx gg zw zx zg vw vx vg lw lx lg) (hp : Box W g p) (hl : g < n0) (hg : W.grownBy W' vx.ownBlock) : Box W' g p :=
  hp.grown hg (h.neX _ (by have := h.w0; have := h.w1; omega))
theorem SO2.neG {w W : World} {n0 n1 n2 gw gg : Nat} {zw zg : List Value} {vw vg : Value} {lw lg : List Sn} (h : SO2 w W n0 n1 n2 gw gg zw zg vw vg lw lg) (k : Nat) (hk : k < n2) : vg.ownBlock ≠ some k := fun e => by
  have h1 := (OwnO.up h.og k e).1
  omega
/-- The model's answer alone, and the program's as a box. -/
structure SO3 (w W : World) (n0 gw gg : Nat) (zw zg : List Value) (vw : Value) (lw : List Sn) : Prop where
  below : Below w.heap.size w W
  bw : Box W gw zw
  bg : Box W gg zg
  ow : OwnO W n0 vw lw
theorem SO3.more {w W W' : World} {n0 gw gg : Nat} {zw zg : List Value} {vw : Value} {lw : List Sn} (h : SO3 w W n0 gw gg zw zg vw lw) (hb : Below W.heap.size W W') : SO3 w W' n0 gw gg zw zg vw lw :=
  ⟨h.below.trans (hb.mono h.below.size), h.bw.more hb, h.bg.more hb, OwnO.more h.ow hb⟩
theorem SO2.markG {w W W' : World} {n0 n1 n2 gw gg : Nat} {zw zg : List Value} {vw vg : Value} {lw lg : List Sn} (h : SO2 w W n0 n1 n2 gw gg zw zg vw vg lw lg) (hg : W.grownBy W' vg.ownBlock) : SO3 w W' n0 gw gg zw zg vw lw := by
  have a0 := h.n
  have aw := h.w0
  have a1 := h.w1
  have a2 := h.x
  have hne := h.neG
  exact ⟨h.below.grown hg h.below.size (fun k hk => by have := (OwnO.up h.og k hk).1; omega), h.bw.grown hg (hne _ (by omega)), h.bg.grown hg h.ng, OwnO.grown h.ow hg (fun k hk => hne _ (by have := h.uw k hk; omega))⟩
theorem SO2.argG {w W W' : World} {n0 n1 n2 gw gg g : Nat} {zw zg p : List Value} {vw vg : Value} {lw lg : List Sn} (h : SO2 w W n0 n1 n2 gw gg zw zg vw vg lw lg) (hp : Box W g p) (hl : g < n0) (hg : W.grownBy W' vg.ownBlock) : Box W' g p :=
  hp.grown hg (h.neG _ (by have := h.w0; have := h.w1; have := h.x; omega))
end Go.Proofs.YtebfefkknaalpaaDoor
