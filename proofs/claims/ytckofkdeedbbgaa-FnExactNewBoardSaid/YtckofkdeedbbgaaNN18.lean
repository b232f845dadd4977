/- What this text proves: the parts RoC of the proof, each under its own words. -/
import Derived.Test.YtckofkdeedbbgaaNN11
import Derived.Test.YtckofkdeedbbgaaNN17
/- What this text proves: the contracts of the model's own copy of a recorder and of the program's: its lists lie in memory of their own. -/
namespace Go.Proofs.Ytckofkdeedbbgaa
open Go.ChangeShapes Go.WideShapes Go.ChangeAt Go.RowKit
set_option linter.unusedVariables false


/-- A recorder of the call's own that may be appended to. -/
structure OwnRr (w : World) (base : Nat) (v : Value) (r : Int) (l : List Rc) (d : List Int) : Prop where
  form : ∃ A c A2 c2, v = roV r (.slice A l.length c) (.slice A2 d.length c2) ∧ OwnR 50 4 w base (.slice A l.length c) (l.map rcC) ∧ OwnR 3 1 w base (.slice A2 d.length c2) (d.map inC) ∧ Apart (.slice A l.length c) (.slice A2 d.length c2)
theorem OwnRr.toO {w : World} {base : Nat} {v : Value} {r : Int} {l : List Rc} {d : List Int} (h : OwnRr w base v r l d) : OwnRo w base v r l d := by
  obtain ⟨A, c, A2, c2, rfl, h1, h2, h3⟩ := h.form
  exact ⟨A, c, A2, c2, rfl, OwnR.toO h1, OwnR.toO h2, h3⟩
theorem OwnRr.more {w w' : World} {base : Nat} {v : Value} {r : Int} {l : List Rc} {d : List Int} (h : OwnRr w base v r l d) (hb : Below w.heap.size w w') : OwnRr w' base v r l d := by
  obtain ⟨A, c, A2, c2, rfl, h1, h2, h3⟩ := h.form
  exact ⟨A, c, A2, c2, rfl, OwnR.more h1 hb, OwnR.more h2 hb, h3⟩
theorem OwnRr.lower {w : World} {base base' : Nat} {v : Value} {r : Int} {l : List Rc} {d : List Int} (h : OwnRr w base v r l d) (hb : base' ≤ base) : OwnRr w base' v r l d := by
  obtain ⟨A, c, A2, c2, rfl, h1, h2, h3⟩ := h.form
  exact ⟨A, c, A2, c2, rfl, OwnR.lower h1 hb, OwnR.lower h2 hb, h3⟩
theorem OwnR.pastA {E : TypeId} {sz : Nat} {W : World} {b g j : Nat} {v : Value} {l : List (List Value)} (h : OwnR E sz W b v l) (hg : g < b) (u : Value) : OwnR E sz (W.setCell ⟨g, j, none⟩ u) b v l :=
  h.away (fun e => by have := (OwnR.upto h _ e).1; omega) u
theorem OwnR.cellsPastA {E : TypeId} {sz : Nat} {b g : Nat} {v : Value} {l : List (List Value)} (hg : g < b) (us : List Value) (o : Nat) (W : World) (h : OwnR E sz W b v l) : OwnR E sz (W.setCells g o us) b v l :=
  OwnR.cellsAway (fun e => by have := (OwnR.upto h _ e).1; omega) us o W h

set_option maxHeartbeats 2000000 in
theorem rocopy_impl (r : Int) (A A2 : Option Addr) (l : List Rc) (d : List Int) (c c2 : Nat) (hl : l.length ≤ 1099511) (hd : d.length ≤ 1099511) (w : World) (h1 : LsI 4 w w.heap.size A (l.map rcC)) (h2 : LsI 1 w w.heap.size A2 (d.map inC)) :
    Calls Try.prog 67 #[roV r (.slice A l.length c) (.slice A2 d.length c2)] w fun e w' => ∃ v, e = .returned v ∧ OwnRr w' w.heap.size v r l d ∧ Below w.heap.size w w' := by
  have HC1 := Lib.hid (fun W (hb : Below w.heap.size w W) => clone_rcs A l c hl W (h1.full hb))
  have HC2 := Lib.hid (fun W (hb : Below w.heap.size w W) => clone_ins A2 d c2 hd W (h2.full hb))
  have BO := (Box.made w (roL r (.slice A l.length c) (.slice A2 d.length c2)) 30 _ rfl).alloc (.cells (roL 0 (.slice none 0 0) (.slice none 0 0)).toArray 30)
  have BR := Box.made (w.alloc (.cells (roL r (.slice A l.length c) (.slice A2 d.length c2)).toArray 30)) (roL 0 (.slice none 0 0) (.slice none 0 0)) 30 (w.heap.size + 1) (by simp)
  have BB : Below w.heap.size w ((w.alloc (.cells (roL r (.slice A l.length c) (.slice A2 d.length c2)).toArray 30)).alloc (.cells (roL 0 (.slice none 0 0) (.slice none 0 0)).toArray 30)) := ((Below.refl _ w).alloc (Nat.le_refl _) _).alloc (by simp) _
  have hz : ((w.alloc (.cells (roL r (.slice A l.length c) (.slice A2 d.length c2)).toArray 30)).alloc (.cells (roL 0 (.slice none 0 0) (.slice none 0 0)).toArray 30)).heap.size = w.heap.size + 2 := by simp
  have BO := Lib.hid BO
  have BR := Lib.hid BR
  have BB := Lib.hid BB
  have HZ := Lib.hid hz
  clear h1 h2 hz
  go_enter Try.func67, Try.ntmps67
  go_wp2_with fail
  refine (HC1.out _ BB.out).mono ?_
  rintro e w3 ⟨A3, c3, rfl, hown, hb⟩
  have BO3 := BO.out.more hb
  have BR3 := BR.out.more hb
  have BB3 := BB.out.trans (hb.mono (by rw [HZ.out]; omega))
  rw [HZ.out] at hown
  have hsz := hb.size
  rw [HZ.out] at hsz
  obtain ⟨m0, m1, m2⟩ := BO3.threeQ
  have mi := BO3.ice
  have BO4 := BO3.set 1 (by simp) (.slice A3 l.length c3)
  obtain ⟨n0, n1, n2⟩ := (show Box _ _ (roL r (.slice A3 l.length c3) (.slice A2 d.length c2)) from BO4).threeQ
  have BO5 := Lib.hid (show Box _ _ (roL r (.slice A3 l.length c3) (.slice A2 d.length c2)) from BO4)
  have BR5 := Lib.hid (BR3.other (ga := w.heap.size) (by omega) 1 (.slice A3 l.length c3))
  have HO5 := Lib.hid (hown.pastA (g := w.heap.size) (j := 1) (by omega) (.slice A3 l.length c3))
  have BB5 := Lib.hid (BB3.setCell (p := ⟨w.heap.size, 1, none⟩) (by simp) (.slice A3 l.length c3))
  have HZ5 := Lib.hid (show w.heap.size + 2 ≤ (w3.setCell ⟨w.heap.size, 1, none⟩ (.slice A3 l.length c3)).heap.size by simpa using hsz)
  clear BO BR BB HC1 BO3 BR3 BB3 BO4 hown hb hsz
  go_wp2_with fail
  refine (HC2.out _ BB5.out).mono ?_
  rintro e w6 ⟨A4, c4, rfl, hown2, hb⟩
  have hsz := hb.size
  have BO6 := BO5.out.more hb
  have BR6 := BR5.out.more hb
  have HO6 := OwnR.more HO5.out hb
  have BB6 := BB5.out.trans (hb.mono (by have := HZ5.out; omega))
  have HAP := Lib.hid (Apart.of HO5.out.toO hown2.toO (Nat.le_refl _))
  have HOI := OwnR.lower hown2 (base' := w.heap.size + 2) HZ5.out
  obtain ⟨m0, m1, m2⟩ := BO6.threeQ
  have mi := BO6.ice
  have BO7 := BO6.set 2 (by simp) (.slice A4 d.length c4)
  have BR7 := BR6.other (ga := w.heap.size) (by omega) 2 (.slice A4 d.length c4)
  have HO7 := HO6.pastA (g := w.heap.size) (j := 2) (by omega) (.slice A4 d.length c4)
  have HI7 := HOI.pastA (g := w.heap.size) (j := 2) (by omega) (.slice A4 d.length c4)
  have BB7 := BB6.setCell (p := ⟨w.heap.size, 2, none⟩) (by simp) (.slice A4 d.length c4)
  obtain ⟨k0, k1, k2⟩ := (show Box _ _ (roL r (.slice A3 l.length c3) (.slice A4 d.length c4)) from BO7).threeQ
  obtain ⟨r0, r1, r2⟩ := BR7.threeQ
  have ri := BR7.ice
  have BF := Lib.hid (BR7.all (us := roL r (.slice A3 l.length c3) (.slice A4 d.length c4)) rfl)
  have HBF := Lib.hid (below_setCells (B := w.heap.size) (ga := w.heap.size + 1) (by omega) (roL r (.slice A3 l.length c3) (.slice A4 d.length c4)) 0 _ BB7)
  have HOF := Lib.hid (OwnR.cellsPastA (g := w.heap.size + 1) (by omega) (roL r (.slice A3 l.length c3) (.slice A4 d.length c4)) 0 _ HO7)
  have HIF := Lib.hid (OwnR.cellsPastA (g := w.heap.size + 1) (by omega) (roL r (.slice A3 l.length c3) (.slice A4 d.length c4)) 0 _ HI7)
  clear BO6 BR6 HO6 BB6 HOI BO7 BR7 HO7 HI7 BB7 hown2 hb hsz n0 n1 n2
  go_wp2
  show bodyPost Try.prog Try.f67 _ Exit.ret _ ((w6.setCell ⟨w.heap.size, 2, none⟩ (.slice A4 d.length c4)).setCells (w.heap.size + 1) 0 (roL r (.slice A3 l.length c3) (.slice A4 d.length c4)))
  generalize (w6.setCell ⟨w.heap.size, 2, none⟩ (.slice A4 d.length c4)).setCells (w.heap.size + 1) 0 (roL r (.slice A3 l.length c3) (.slice A4 d.length c4)) = WE at *
  obtain ⟨q0, q1, q2⟩ := BF.out.threeQ
  refine bodyPost_ret_by (v := roV r (.slice A3 l.length c3) (.slice A4 d.length c4)) ?_ rfl ⟨_, rfl, ⟨_, _, _, _, rfl, OwnR.lower HOF.out (by omega), OwnR.lower HIF.out (by omega), HAP.out⟩, HBF.out⟩
  simp [results, Try.f67, go_sem, q0, q1, q2]

set_option maxRecDepth 20000 in
set_option maxHeartbeats 2000000 in
theorem rocopy_spec (r : Int) (A A2 : Option Addr) (l : List Rc) (d : List Int) (c c2 : Nat) (hl : l.length ≤ 1099511) (hd : d.length ≤ 1099511) (w : World) (h1 : LsI 4 w w.heap.size A (l.map rcC)) (h2 : LsI 1 w w.heap.size A2 (d.map inC)) :
    Calls Try.prog 96 #[roV r (.slice A l.length c) (.slice A2 d.length c2)] w fun e w' => ∃ v, e = .returned v ∧ OwnRr w' w.heap.size v r l d ∧ Below w.heap.size w w' := by
  have BO := ((Box.made w (roL r (.slice A l.length c) (.slice A2 d.length c2)) 30 _ rfl).alloc (.cells (roL 0 (.slice none 0 0) (.slice none 0 0)).toArray 30)).alloc (.cells #[] 50)
  have BR := (Box.made (w.alloc (.cells (roL r (.slice A l.length c) (.slice A2 d.length c2)).toArray 30)) (roL 0 (.slice none 0 0) (.slice none 0 0)) 30 (w.heap.size + 1) (by simp)).alloc (.cells #[] 50)
  have BB : Below w.heap.size w (((w.alloc (.cells (roL r (.slice A l.length c) (.slice A2 d.length c2)).toArray 30)).alloc (.cells (roL 0 (.slice none 0 0) (.slice none 0 0)).toArray 30)).alloc (.cells #[] 50)) := (((Below.refl _ w).alloc (Nat.le_refl _) _).alloc (by simp) _).alloc (by simp; omega) _
  have BO := Lib.hid BO
  have BR := Lib.hid BR
  have BB := Lib.hid BB
  have HI := Lib.hid ((h1.more BB.out).rows (rc_len l))
  have HI2 := Lib.hid (fun W (hb : Below w.heap.size w W) => (h2.more hb).rows (in_len d))
  have HE : Hid (OwnR 50 4 (((w.alloc (.cells (roL r (.slice A l.length c) (.slice A2 d.length c2)).toArray 30)).alloc (.cells (roL 0 (.slice none 0 0) (.slice none 0 0)).toArray 30)).alloc (.cells #[] 50)) (w.heap.size + 2) (.slice (some ⟨w.heap.size + 1 + 1, 0, none⟩) 0 0) []) := Lib.hid (by
    have h0 := OwnR.empty (E := 50) (sz := 4) ((w.alloc (.cells (roL r (.slice A l.length c) (.slice A2 d.length c2)).toArray 30)).alloc (.cells (roL 0 (.slice none 0 0) (.slice none 0 0)).toArray 30)) (w.heap.size + 2) (by simp)
    rw [show ((w.alloc (.cells (roL r (.slice A l.length c) (.slice A2 d.length c2)).toArray 30)).alloc (.cells (roL 0 (.slice none 0 0) (.slice none 0 0)).toArray 30)).heap.size = w.heap.size + 1 + 1 by simp] at h0
    exact h0)
  obtain ⟨i, hi, hz0, hz1, hz2⟩ := info_parts info_rc
  have Hi := Lib.hid hi
  have Hz0 := Lib.hid hz0
  have Hz1 := Lib.hid hz1
  have Hz2 := Lib.hid hz2
  obtain ⟨i2, hi2, hy0, hy1, hy2⟩ := info_parts info_int
  have Hi2 := Lib.hid hi2
  have Hy0 := Lib.hid hy0
  have Hy1 := Lib.hid hy1
  have Hy2 := Lib.hid hy2
  clear h1 h2 hi hz0 hz1 hz2 hi2 hy0 hy1 hy2
  go_enter Try.func96, Try.ntmps96
  go_wp2_with (at_builtin; go_loud (refine app_rows 50 28 4 40 (rdV 0 0 0 ⟨#[]⟩) i _ rfl _ _ rfl Try.underlying28 Hi.out Hz0.out Hz1.out Hz2.out rfl (by decide) (by decide) (w.heap.size + 2) (.slice (some ⟨w.heap.size + 1 + 1, 0, none⟩) 0 0) [] rfl HE.out A (l.map rcC) c (by rw [List.length_map]; rfl) (rc_len l) (rc_one l) HI.out (by simpa using hl) (by simp) ?_))
  intro v3 w3 hown hg _
  replace hown : OwnR 50 4 w3 (w.heap.size + 2) v3 (l.map rcC) := hown
  obtain ⟨A3, c3, hv3⟩ := hown.form
  rw [List.length_map] at hv3
  subst hv3
  have hb : Below (w.heap.size + 2) (((w.alloc (.cells (roL r (.slice A l.length c) (.slice A2 d.length c2)).toArray 30)).alloc (.cells (roL 0 (.slice none 0 0) (.slice none 0 0)).toArray 30)).alloc (.cells #[] 50)) w3 := (Below.refl (w.heap.size + 2) _).grown hg (by simp) fun k hk => (World.ownsRow.lt HE.out.1 k hk).1
  have hgs := hg.size
  have BO3 := BO.out.moreAt hb (by omega) hgs
  have BR3 := BR.out.moreAt hb (by omega) hgs
  have BB3 := BB.out.trans (hb.mono (by omega))
  have hsz : w.heap.size + 2 ≤ w3.heap.size := Nat.le_trans (by simp) hgs
  obtain ⟨m0, m1, m2⟩ := BO3.threeQ
  have mi := BO3.ice
  have BO4 := BO3.set 1 (by simp) (.slice A3 l.length c3)
  obtain ⟨n0, n1, n2⟩ := (show Box _ _ (roL r (.slice A3 l.length c3) (.slice A2 d.length c2)) from BO4).threeQ
  have BO5 := Lib.hid ((show Box _ _ (roL r (.slice A3 l.length c3) (.slice A2 d.length c2)) from BO4).alloc (.cells #[] 3))
  obtain ⟨p0, p1, p2⟩ := BO5.out.threeQ
  have BR5 := Lib.hid ((BR3.other (ga := w.heap.size) (by omega) 1 (.slice A3 l.length c3)).alloc (.cells #[] 3))
  have HO5 := Lib.hid (OwnR.more (hown.pastA (g := w.heap.size) (j := 1) (by omega) (.slice A3 l.length c3)) ((Below.refl _ _).alloc (Nat.le_refl _) (.cells #[] 3)))
  have BBX := BB3.setCell (p := ⟨w.heap.size, 1, none⟩) (by simp) (.slice A3 l.length c3)
  have BB5 := Lib.hid (BBX.alloc BBX.size (.cells #[] 3))
  have HZ5 := Lib.hid (show w.heap.size + 2 ≤ (w3.setCell ⟨w.heap.size, 1, none⟩ (.slice A3 l.length c3)).heap.size by simpa using hsz)
  have HE2 : Hid (OwnR 3 1 ((w3.setCell ⟨w.heap.size, 1, none⟩ (.slice A3 l.length c3)).alloc (.cells #[] 3)) w3.heap.size (.slice (some ⟨w3.heap.size, 0, none⟩) 0 0) []) := Lib.hid (by
    have h0 := OwnR.empty (E := 3) (sz := 1) (w3.setCell ⟨w.heap.size, 1, none⟩ (.slice A3 l.length c3)) w3.heap.size (by simp)
    simpa using h0)
  have HZ6 := Lib.hid hsz
  have HUP := Lib.hid (fun k (hk : (Value.slice A3 l.length c3).ownBlock = some k) => (OwnR.upto hown k hk).2)
  clear BO BR BB HE BO3 BR3 BB3 BBX BO4 hown hb hsz hg hgs HI
  go_wp2_with (at_builtin; go_loud (refine app_rows 3 24 1 8 (.int .i64 0) i2 _ rfl _ _ rfl Try.underlying24 Hi2.out Hy0.out Hy1.out Hy2.out rfl (by decide) (by decide) w3.heap.size (.slice (some ⟨w3.heap.size, 0, none⟩) 0 0) [] rfl HE2.out A2 (d.map inC) c2 (by rw [List.length_map]; rfl) (in_len d) (in_one d) (HI2.out _ BB5.out) (by simpa using hd) (by simp) ?_))
  intro v4 w6 hown2 hg _
  replace hown2 : OwnR 3 1 w6 w3.heap.size v4 (d.map inC) := hown2
  obtain ⟨A4, c4, hv4⟩ := hown2.form
  rw [List.length_map] at hv4
  subst hv4
  have hsz := hg.size
  have hb : Below w3.heap.size ((w3.setCell ⟨w.heap.size, 1, none⟩ (.slice A3 l.length c3)).alloc (.cells #[] 3)) w6 := (Below.refl w3.heap.size _).grown hg (by simp) fun k hk => (World.ownsRow.lt HE2.out.1 k hk).1
  have h6 := HZ6.out
  have BO6 := BO5.out.moreAt hb (by omega) hsz
  have BR6 := BR5.out.moreAt hb (by omega) hsz
  have HO6 := OwnR.grown HO5.out hg (fun k hk e => by
    have h8 := HUP.out k hk
    have h10 : (some w3.heap.size : Option Nat) = some k := e
    injection h10 with h11
    omega)
  have BB6 := BB5.out.trans (hb.mono (by omega))
  have HAP := Lib.hid (show Apart (.slice A3 l.length c3) (.slice A4 d.length c4) from fun k hk hu => by
    have h1 := HUP.out k hk
    have h2 := (OwnR.upto hown2 k hu).1
    omega)
  have HOI := OwnR.lower hown2 (base' := w.heap.size + 2) h6
  obtain ⟨m0, m1, m2⟩ := BO6.threeQ
  have mi := BO6.ice
  have BO7 := BO6.set 2 (by simp) (.slice A4 d.length c4)
  have BR7 := BR6.other (ga := w.heap.size) (by omega) 2 (.slice A4 d.length c4)
  have HO7 := HO6.pastA (g := w.heap.size) (j := 2) (by omega) (.slice A4 d.length c4)
  have HI7 := HOI.pastA (g := w.heap.size) (j := 2) (by omega) (.slice A4 d.length c4)
  have BB7 := BB6.setCell (p := ⟨w.heap.size, 2, none⟩) (by simp) (.slice A4 d.length c4)
  obtain ⟨k0, k1, k2⟩ := (show Box _ _ (roL r (.slice A3 l.length c3) (.slice A4 d.length c4)) from BO7).threeQ
  obtain ⟨r0, r1, r2⟩ := BR7.threeQ
  have ri := BR7.ice
  have BF := Lib.hid (BR7.all (us := roL r (.slice A3 l.length c3) (.slice A4 d.length c4)) rfl)
  have HBF := Lib.hid (below_setCells (B := w.heap.size) (ga := w.heap.size + 1) (by omega) (roL r (.slice A3 l.length c3) (.slice A4 d.length c4)) 0 _ BB7)
  have HOF := Lib.hid (OwnR.cellsPastA (g := w.heap.size + 1) (by omega) (roL r (.slice A3 l.length c3) (.slice A4 d.length c4)) 0 _ HO7)
  have HIF := Lib.hid (OwnR.cellsPastA (g := w.heap.size + 1) (by omega) (roL r (.slice A3 l.length c3) (.slice A4 d.length c4)) 0 _ HI7)
  clear BO6 BR6 HO6 BB6 HOI BO7 BR7 HO7 HI7 BB7 hown2 hb hsz hg n0 n1 n2 p0 p1 p2
  go_wp2
  show bodyPost Try.prog Try.f96 _ Exit.ret _ ((w6.setCell ⟨w.heap.size, 2, none⟩ (.slice A4 d.length c4)).setCells (w.heap.size + 1) 0 (roL r (.slice A3 l.length c3) (.slice A4 d.length c4)))
  generalize (w6.setCell ⟨w.heap.size, 2, none⟩ (.slice A4 d.length c4)).setCells (w.heap.size + 1) 0 (roL r (.slice A3 l.length c3) (.slice A4 d.length c4)) = WE at *
  obtain ⟨q0, q1, q2⟩ := BF.out.threeQ
  refine bodyPost_ret_by (v := roV r (.slice A3 l.length c3) (.slice A4 d.length c4)) ?_ rfl ⟨_, rfl, ⟨_, _, _, _, rfl, OwnR.lower HOF.out (by omega), OwnR.lower HIF.out (by omega), HAP.out⟩, HBF.out⟩
  simp [results, Try.f96, go_sem, q0, q1, q2]

end Go.Proofs.Ytckofkdeedbbgaa
