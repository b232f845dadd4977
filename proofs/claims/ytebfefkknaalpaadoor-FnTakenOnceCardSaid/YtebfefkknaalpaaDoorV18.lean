/- What this text proves: the parts ICb, NwS, Sents of the proof, each under its own words. -/
import Derived.Test.YtebfefkknaalpaaDoorV13
import Derived.Test.YtebfefkknaalpaaDoorV06
import Derived.Test.YtebfefkknaalpaaDoorV05
import Derived.Test.YtebfefkknaalpaaDoorV00
import Derived.Stop.LaidErr
import Derived.Stop.LaidTwo
import Derived.LaidLaws
/- What this text proves: the contract of the program's CommandBlocks. -/
namespace Go.Proofs.YtebfefkknaalpaaDoor
open Go.ChangeShapes Go.WideShapes Go.ChangeAt Go.RowKit
set_option linter.unusedVariables false

set_option maxHeartbeats 4000000 in
theorem cb_impl (n b d : Int) (A : Option Addr) (l : List Sn) (c : Nat) (hl : l.length ≤ 1100000) (hs : ∀ j (hj : j < l.length), l[j].2.size ≤ 1100000) (w : World) (h : SnsAt w w.heap.size A l) :
    Calls Tryd.prog 9 #[seV n b (.slice A l.length c) d] w fun e w' => ∃ v, e = .returned v ∧ OwnS w' w.heap.size v (cbL n b l d) ∧ Below w.heap.size w w' := by
  have HI := Lib.hid (fun W (hb : Below w.heap.size w W) => h.more hb)
  have BW := ((Below.refl _ w).alloc (Nat.le_refl _) (.cells (seL n b (.slice A l.length c) d).toArray 26))
  have HS := Lib.hid (so_impl n b d A l c hl hs _ ((h.more BW).raise BW.size))
  have BX := (Box.made w (seL n b (.slice A l.length c) d) 26 _ rfl)
  have HZ := Lib.hid hs
  clear h hs
  cases hsb : snB n b l d with
  | true =>
    rw [hsb] at HS
    have HV := Lib.hid (cbL_yes hsb)
    have HT := Lib.hid (cbk_take l)
    have HE := Lib.hid (show ∀ k (hk : k < l.length), _ from fun k hk W => encC_impl 0 l[k].1 l[k].2 (HZ.out k hk) W)
    clear hsb
    go_enter Tryd.func9, Tryd.ntmps9
    go_wp2_with fail
    refine HS.out.mono ?_
    rintro e w1 ⟨rfl, hb1⟩
    have BX1 := (BX.more hb1)
    have BW1 := Lib.hid ((BW.trans (hb1.mono BW.size)).alloc (BW.trans (hb1.mono BW.size)).size (.cells #[] 9))
    have BO1 := Lib.hid (OwnS.empty w1 (w.heap.size + 1) BX1.lt)
    obtain ⟨b0, b1, b2, b3⟩ := BX1.fourS
    have hlt1 := BX1.lt
    clear hb1 BX BW
    go_wp2
    have HLT := Lib.hid hlt1
    clear BX1 b0 b1 b2 b3 hlt1
    go_loopg [3, 13] l.length (fun gh v3 v4 wx => ∃ k : Nat, k ≤ l.length ∧ gh = l.length - k ∧ v4 = .int .i64 (k : Int) ∧ OwnS wx (w.heap.size + 1) v3 (cbk (l.take k)) ∧ w.heap.size + 1 ≤ wx.heap.size ∧ Below w.heap.size w wx)
    case atStart => exact ⟨0, by omega, rfl, rfl, by simpa [cbk] using BO1.out, by have := HLT.out; simp; omega, BW1.out⟩
    case round =>
      obtain ⟨k, hk, rfl, rfl, hown, hsz, hbel⟩ := hrel
      have HO := Lib.hid hown
      have HB := Lib.hid hbel
      by_cases hlt : k < l.length
      · have hd : decide (k < l.length) = true := by simp; omega
        have hd' : decide ((k : Int) < (l.length : Int)) = true := by simp; omega
        rcases HI.out _ hbel with h0 | ⟨bb, off, rfl, hb, hc⟩
        · omega
        · obtain ⟨c0, c1⟩ := hc k hlt
          have HEK := Lib.hid (HE.out k hlt)
          have HTK := Lib.hid (HT.out k hlt)
          have hlen : (cbk (l.take k)).length ≤ 1100000 := by unfold cbk; rw [List.length_map, List.length_take]; omega
          generalize cmT 0 l[k].1 l[k].2 = E at *
          generalize l[k].1 = x at *
          generalize l[k].2 = y at *
          clear hc hown hbel
          go_wp2_with fail
          refine (HEK.out _).mono ?_
          rintro e w2 ⟨rfl, hb2⟩
          have hsz2 : w.heap.size + 1 ≤ w2.heap.size := by have := hb2.size; simp at this; omega
          have HO2 := Lib.hid (OwnS.more (OwnS.more HO.out ((Below.refl _ _).alloc (Nat.le_refl _) (.cells #[.int .i64 x, .string y] 48))) hb2)
          have HB2 := Lib.hid ((HB.out.alloc HB.out.size (.cells #[.int .i64 x, .string y] 48)).trans (hb2.mono (HB.out.alloc HB.out.size _).size))
          clear hb2 c0 c1 HO HB
          go_wp2_with (at_builtin; go_loud (refine app_text w2 rfl _ _ rfl (w.heap.size + 1) u3 (cbk (l.take k)) E rfl HO2.out _ 1 rfl (by omega) hsz2 ?_))
          intro v3 w3 ho3 hb3 hz3
          have HB3 := Lib.hid (HB2.out.trans (hb3.mono (by omega)))
          have HO3 := Lib.hid (show OwnS w3 (w.heap.size + 1) v3 (cbk (l.take (k + 1))) from by rw [HTK.out]; exact ho3)
          have hsz3 : w.heap.size + 1 ≤ w3.heap.size := by omega
          clear hb3 hz3 ho3 HB2 HO2
          go_wp2
          go_roundg (l.length - (k + 1))
          case measure => omega
          case rel => exact ⟨k + 1, by omega, rfl, by go_num, HO3.out, hsz3, HB3.out⟩
      · obtain rfl : k = l.length := by omega
        have hd : decide (l.length < l.length) = false := by simp
        have hd' : decide ((l.length : Int) < (l.length : Int)) = false := by simp
        rw [List.take_of_length_le (Nat.le_refl _)] at hown
        have HO2 := Lib.hid (show OwnS wr w.heap.size u3 (cbL n b l d) from by rw [HV.out]; exact OwnS.lower hown (Nat.le_succ _))
        clear hown hbel HO
        go_wp2
        go_ret
        exact ⟨_, rfl, HO2.out, HB.out⟩
  | false =>
    rw [hsb] at HS
    have HO2 := Lib.hid (show ∀ W, OwnS W w.heap.size (.slice none 0 0) (cbL n b l d) from fun W => by rw [cbL_no hsb]; exact OwnS.nil _ _)
    clear hsb
    go_enter Tryd.func9, Tryd.ntmps9
    go_wp2_with fail
    refine HS.out.mono ?_
    rintro e w1 ⟨rfl, hb1⟩
    have HB1 := Lib.hid (BW.trans (hb1.mono BW.size))
    clear hb1 BW
    go_wp2
    go_ret
    exact ⟨_, rfl, HO2.out _, HB1.out⟩
end Go.Proofs.YtebfefkknaalpaaDoor
/- What this text proves: the contracts of the model's NewSender and of the program's. -/
namespace Go.Proofs.YtebfefkknaalpaaDoor
open Go.ChangeShapes Go.WideShapes Go.ChangeAt Go.RowKit
set_option linter.unusedVariables false

def nwW (b : Int) : Int := if 1 ≤ b ∧ b ≤ 20 then b else 0
def nwB (b : Int) : Bool := decide (1 ≤ b ∧ b ≤ 20)
theorem snB_new (b : Int) : snB 0 b [] 0 = nwB b := by
  by_cases h : 1 ≤ b ∧ b ≤ 20
  · rw [snB_yes ⟨⟨by omega, h, by omega, by simp; omega⟩, fun i hi => absurd hi (Nat.not_lt_zero _)⟩]
    exact (decide_eq_true h).symm
  · rw [snB_no (fun h1 => h h1.1.2.1)]
    exact (decide_eq_false h).symm

set_option maxHeartbeats 1000000 in
theorem new_impl (b : Int) (w : World) :
    Calls Tryd.prog 5 #[.int .i64 b] w fun e w' => e = .returned (.tuple #[seV 0 (nwW b) (.slice none 0 0) 0, .bool (nwB b)]) ∧ Below w.heap.size w w' := by
  have HS := Lib.hid (fun W => (show Calls Tryd.prog 15 #[seV 0 b (.slice none 0 0) 0] W fun e w' => e = .returned (.bool (nwB b)) ∧ Below W.heap.size W w' from by
    have h := so_impl 0 b 0 none [] 0 (by simp) (fun j hj => absurd hj (Nat.not_lt_zero _)) W (.inl rfl)
    rw [snB_new] at h
    exact h))
  have BR := (Box.made w (seL 0 0 (.slice none 0 0) 0) 26 w.heap.size rfl).alloc (.cells (seL 0 b (.slice none 0 0) 0).toArray 26)
  have BO := Box.made (w.alloc (.cells (seL 0 0 (.slice none 0 0) 0).toArray 26)) (seL 0 b (.slice none 0 0) 0) 26 (w.heap.size + 1) (by simp)
  have BB := ((Below.refl _ w).alloc (Nat.le_refl _) (.cells (seL 0 0 (.slice none 0 0) 0).toArray 26)).alloc (by simp) (.cells (seL 0 b (.slice none 0 0) 0).toArray 26)
  by_cases hb : 1 ≤ b ∧ b ≤ 20
  · have HW := Lib.hid (show nwW b = b from if_pos hb)
    have HB := Lib.hid (show nwB b = true from decide_eq_true hb)
    rw [HB.out] at HS
    rw [HW.out, HB.out]
    clear hb
    go_enter Tryd.func5, Tryd.ntmps5
    go_wp2_with fail
    refine (HS.out _).mono ?_
    rintro e w1 ⟨rfl, hb1⟩
    have BR1 := BR.more hb1
    have BO1 := BO.more hb1
    have BW := Lib.hid (below_setCells (B := w.heap.size) (Nat.le_refl _) (seL 0 b (.slice none 0 0) 0) 0 _ (BB.trans (hb1.mono BB.size)))
    have BF := Lib.hid (BR1.all (us := seL 0 b (.slice none 0 0) 0) rfl)
    obtain ⟨k0, k1, k2, k3⟩ := BO1.fourS
    obtain ⟨r0, r1, r2, r3⟩ := BR1.fourS
    have ri := BR1.ice
    clear BR BO BB hb1 BO1 BR1
    go_wp2
    show bodyPost Tryd.prog Tryd.f5 _ Exit.ret _ (w1.setCells w.heap.size 0 (seL 0 b (.slice none 0 0) 0))
    generalize w1.setCells w.heap.size 0 (seL 0 b (.slice none 0 0) 0) = WE at *
    obtain ⟨c0, c1, c3, c4⟩ := BF.out.fourS
    refine bodyPost_ret_by (v := .tuple #[seV 0 b (.slice none 0 0) 0, .bool true]) ?_ rfl ⟨rfl, BW.out⟩
    simp [results, Tryd.f5, go_sem, c0, c1, c3, c4]
  · have HW := Lib.hid (show nwW b = 0 from if_neg hb)
    have HB := Lib.hid (show nwB b = false from decide_eq_false hb)
    rw [HB.out] at HS
    rw [HW.out, HB.out]
    clear hb
    go_enter Tryd.func5, Tryd.ntmps5
    go_wp2_with fail
    refine (HS.out _).mono ?_
    rintro e w1 ⟨rfl, hb1⟩
    have BR1 := BR.more hb1
    have BW := Lib.hid (below_setCells (B := w.heap.size) (Nat.le_refl _) (seL 0 0 (.slice none 0 0) 0) 0 _ (BB.trans (hb1.mono BB.size)))
    have BF := Lib.hid (BR1.all (us := seL 0 0 (.slice none 0 0) 0) rfl)
    obtain ⟨r0, r1, r2, r3⟩ := BR1.fourS
    have ri := BR1.ice
    clear BR BO BB hb1 BR1
    go_wp2
    show bodyPost Tryd.prog Tryd.f5 _ Exit.ret _ (w1.setCells w.heap.size 0 (seL 0 0 (.slice none 0 0) 0))
    generalize w1.setCells w.heap.size 0 (seL 0 0 (.slice none 0 0) 0) = WE at *
    obtain ⟨c0, c1, c3, c4⟩ := BF.out.fourS
    refine bodyPost_ret_by (v := .tuple #[seV 0 0 (.slice none 0 0) 0, .bool false]) ?_ rfl ⟨rfl, BW.out⟩
    simp [results, Tryd.f5, go_sem, c0, c1, c3, c4]
end Go.Proofs.YtebfefkknaalpaaDoor
/- What this text proves: the three errors of the program's own, as they lie when a call begins: three different ones, which stay. -/
namespace Go.Proofs.YtebfefkknaalpaaDoor
open Go.ChangeShapes Go.WideShapes Go.ChangeAt Go.RowKit
set_option linter.unusedVariables false

abbrev erV (a : Addr) : Value := .iface 89 (.pointer (some a))
/-- The errors: a0: one is missing; a1: it locks; a2: nothing changes. -/
structure Sents (W : World) (a0 a1 a2 : Addr) : Prop where
  c0 : W.cell? ⟨0, 0, none⟩ = some (erV a0)
  c1 : W.cell? ⟨1, 0, none⟩ = some (erV a1)
  c2 : W.cell? ⟨2, 0, none⟩ = some (erV a2)
  n01 : a0 ≠ a1
  n02 : a0 ≠ a2
  n12 : a1 ≠ a2
  h0 : ∃ c t, W.heap[a0.block]? = some (.cells c t (0, 0))
  h1 : ∃ c t, W.heap[a1.block]? = some (.cells c t (0, 0))
  h2 : ∃ c t, W.heap[a2.block]? = some (.cells c t (0, 0))
theorem lt_of_cellE {W : World} {p : Addr} {v : Value} (h : W.cell? p = some v) : p.block < W.heap.size := by
  rcases Nat.lt_or_ge p.block W.heap.size with h1 | h1
  · exact h1
  · simp [World.cell?, Array.getElem?_eq_none h1] at h
theorem heap_more {W W' : World} (hb : Below W.heap.size W W') {k : Nat} {o : Obj} (h : W.heap[k]? = some o) : W'.heap[k]? = some o := by
  have hk : k < W.heap.size := by
    rcases Nat.lt_or_ge k W.heap.size with h1 | h1
    · exact h1
    · rw [Array.getElem?_eq_none h1] at h; cases h
  rw [hb.block k hk]
  exact h
theorem Sents.more {W W' : World} {a0 a1 a2 : Addr} (h : Sents W a0 a1 a2) (hb : Below W.heap.size W W') : Sents W' a0 a1 a2 := by
  obtain ⟨c0, c1, c2, n01, n02, n12, ⟨x0, t0, h0⟩, ⟨x1, t1, h1⟩, ⟨x2, t2, h2⟩⟩ := h
  exact ⟨(hb.cell (lt_of_cellE c0)).trans c0, (hb.cell (lt_of_cellE c1)).trans c1, (hb.cell (lt_of_cellE c2)).trans c2, n01, n02, n12, ⟨x0, t0, heap_more hb h0⟩, ⟨x1, t1, heap_more hb h1⟩, ⟨x2, t2, heap_more hb h2⟩⟩
theorem starE : "*" ++ "errors.errorString" = "*errors.errorString" := by decide
theorem row_errE (u : TypeId) (h : Tryd.prog.typeName? 3 u = some "*errors.errorString") : u = 89 :=
  typeName_ptr_named (nm := "errors.errorString") (by rw [starE]; kernel_rfl) (by kernel_rfl) (by decide) u (by rw [starE]; exact h)
theorem laidMet.drop2 {P : Program} {x y : String × DataW Unit} {r : List (String × DataW Unit)} {w : World} (h : laidMet P (x :: y :: r) w) : laidMet P (x :: r) w := by
  obtain ⟨ps, hv, hnd, hrows⟩ := h
  obtain ⟨n, d⟩ := x
  obtain ⟨n', d'⟩ := y
  obtain ⟨g, t, cs, fuel, p, q, e1, e2, e3, e4, ⟨g', t', cs', fuel', p', q', _, _, _, _, hq, rfl⟩, rfl⟩ := hv
  have hsub : List.Sublist (MemPlace.row ⟨g, 0, none⟩ cs.size ++ p ++ q') (MemPlace.row ⟨g, 0, none⟩ cs.size ++ p ++ (MemPlace.row ⟨g', 0, none⟩ cs'.size ++ p' ++ q')) :=
    List.Sublist.append (List.Sublist.refl _) (List.sublist_append_right _ _)
  exact ⟨_, ⟨g, t, cs, fuel, p, q', e1, e2, e3, e4, hq, rfl⟩, List.Nodup.sublist hsub hnd, fun b off hm => hrows b off (hsub.subset hm)⟩
theorem sents_laid {w : World} (h : laidMet Tryd.prog [("loop.example/g03316/impl.errAsksAgain", Rows.laid_loop_example_g03316_impl_errAsksAgain), ("loop.example/g03316/impl.errLocks", Rows.laid_loop_example_g03316_impl_errLocks), ("loop.example/g03316/impl.errIgnores", Rows.laid_loop_example_g03316_impl_errIgnores)] w) : ∃ a0 a1 a2, Sents w a0 a1 a2 := by
  have two := fun {n0 n1 : String} {t0 t1 : List UInt8} {r : List (String × DataW Unit)} {g0 g1 : Nat} (h : laidMet Tryd.prog ((n0, .iface "*errors.errorString" (.ptr (.agg [.lit (.string t0)]))) :: (n1, .iface "*errors.errorString" (.ptr (.agg [.lit (.string t1)]))) :: r) w) (e0 : Tryd.prog.globalNamed n0 = some g0) (e1 : (Tryd.prog.globals[g0]?).map (·.type) = some 55) (e2 : Tryd.prog.globalNamed n1 = some g1) (e3 : (Tryd.prog.globals[g1]?).map (·.type) = some 55) =>
    laid_sentinels2 h e0 e1 e2 e3 Tryd.underlying55 row_errE Tryd.underlying89 Tryd.underlying115 rfl rfl Tryd.underlying9 (by kernel_rfl) (by kernel_rfl)
  have k0 : Tryd.prog.globalNamed "loop.example/g03316/impl.errAsksAgain" = some 0 := by kernel_rfl
  have k1 : Tryd.prog.globalNamed "loop.example/g03316/impl.errLocks" = some 1 := by kernel_rfl
  have k2 : Tryd.prog.globalNamed "loop.example/g03316/impl.errIgnores" = some 2 := by kernel_rfl
  have m0 : (Tryd.prog.globals[0]?).map (·.type) = some 55 := by kernel_rfl
  have m1 : (Tryd.prog.globals[1]?).map (·.type) = some 55 := by kernel_rfl
  have m2 : (Tryd.prog.globals[2]?).map (·.type) = some 55 := by kernel_rfl
  obtain ⟨a0, a1, _, _, _, _, _, _, v0, v1, _, _, _, _, _, _, n01, h0, h1⟩ := two h k0 m0 k1 m1
  obtain ⟨b1, a2, _, _, _, _, _, _, u1, v2, _, _, _, _, _, _, n12, _, h2⟩ := two h.tail k1 m1 k2 m2
  obtain ⟨b0, b2, _, _, _, _, _, _, u0, u2, _, _, _, _, _, _, n02, _, _⟩ := two (laidMet.drop2 h) k0 m0 k2 m2
  obtain rfl : a1 = b1 := by rw [v1] at u1; simpa using u1
  obtain rfl : a0 = b0 := by rw [v0] at u0; simpa using u0
  obtain rfl : a2 = b2 := by rw [v2] at u2; simpa using u2
  exact ⟨a0, a1, a2, by simpa using World.var?_cell k0 v0 0, by simpa using World.var?_cell k1 v1 0, by simpa using World.var?_cell k2 v2 0, n01, n02, n12, ⟨_, _, h0⟩, ⟨_, _, h1⟩, ⟨_, _, h2⟩⟩
theorem trodVars_three {H : Type} {enc : TypeId × Value → H} {P : Program} {w : World} {sp : Nat → Bool} {n0 n1 n2 : String} {gs : List (DataW H)} {ps : List MemPlace} (h : DataW.TrodVars enc P w sp [n0, n1, n2] gs ps) : ∃ g1 g2 g3, gs = [g1, g2, g3] := by
  cases gs with
  | nil => cases h
  | cons g1 gs =>
    obtain ⟨_, _, _, _, _, _, _, _, _, _, h, _⟩ := h
    cases gs with
    | nil => cases h
    | cons g2 gs =>
      obtain ⟨_, _, _, _, _, _, _, _, _, _, h, _⟩ := h
      cases gs with
      | nil => cases h
      | cons g3 gs =>
        obtain ⟨_, _, _, _, _, _, _, _, _, _, h, _⟩ := h
        cases gs with
        | nil => exact ⟨g1, g2, g3, rfl⟩
        | cons _ _ => cases h
end Go.Proofs.YtebfefkknaalpaaDoor
