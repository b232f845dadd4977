/- What this text proves: senders of files as things that lie apart: their list; the laws' own functions over them. -/
import Derived.Test.YtjcdekonidekcagInS
import Derived.Test.YtjcdekonidekcagInM
import Derived.Test.YtjcdekonidekcagInT
import Derived.Test.YtjcdekonidekcagSt
import Derived.Test.YtjcdekonidekcagPktE
namespace Go.Proofs.Ytjcdekonidekcag
open Go.ChangeShapes Go.WideShapes Go.ChangeAt Go.RowKit
set_option linter.unusedVariables false

abbrev foV (f : Int) (d : ByteArray) (b : Bool) (v : Value) : Value := .agg #[.int .i64 f, .string d, v, .bool b]
abbrev foL (f : Int) (d : ByteArray) (b : Bool) (v : Value) : List Value := [.int .i64 f, .string d, v, .bool b]
abbrev Cells4Fo (W : World) (g : Nat) (x y z u : Value) : Prop := W.cell? ⟨g, 0, none⟩ = some x ∧ W.cell? ⟨g, 1, none⟩ = some y ∧ W.cell? ⟨g, 2, none⟩ = some z ∧ W.cell? ⟨g, 3, none⟩ = some u
theorem Box.fourFo {W : World} {g : Nat} {x y z u : Value} (h : Box W g [x, y, z, u]) : Cells4Fo W g x y z u := ⟨h.cell 0 (by simp), h.cell 1 (by simp), h.cell 2 (by simp), h.cell 3 (by simp)⟩
/-- The blocks of its list. -/
def blkFo (v : Value) (k : Nat) : Prop := ∃ f d b u, v = foV f d b u ∧ u.ownBlock = some k
theorem blkFo_iff {f : Int} {d : ByteArray} {b : Bool} {u : Value} {k : Nat} : blkFo (foV f d b u) k ↔ u.ownBlock = some k := by
  constructor
  · rintro ⟨f', d', b', u', e, h⟩
    simp only [foV, Value.agg.injEq, Array.mk.injEq, List.cons.injEq, and_true] at e
    obtain ⟨e0, e1, e2, e3⟩ := e
    subst e2
    exact h
  · intro h
    exact ⟨f, d, b, u, rfl, h⟩
/-- A struct with a list of its own. -/
def foT (v : Value) (f : Int) (d : ByteArray) (b : Bool) (l : List Int) : Thing where
  F := blkFo v
  P := fun W => ∃ A q, v = foV f d b (.slice A l.length q) ∧ LsO 1 W 0 (.slice A l.length q) (l.map inC)
  lt := fun W h k hk => by
    obtain ⟨A, q, rfl, h1⟩ := h
    exact (h1.up k (blkFo_iff.1 hk)).2
  keep := fun W W' S h ht hne => by
    obtain ⟨A, q, rfl, h1⟩ := h
    exact ⟨A, q, rfl, LsO.touch h1 ht (fun k hk => hne k (blkFo_iff.2 hk))⟩
/-- A struct whose list bears n marks from M on. -/
def foM (v : Value) (M n : Nat) : Thing where
  F := blkFo v
  P := fun W => ∃ f d b A q, v = foV f d b (.slice A n q) ∧ LsO 1 W 0 (.slice A n q) ((List.range n).map (mkIn M))
  lt := fun W h k hk => by
    obtain ⟨f, d, b, A, q, rfl, h1⟩ := h
    exact (h1.up k (blkFo_iff.1 hk)).2
  keep := fun W W' S h ht hne => by
    obtain ⟨f, d, b, A, q, rfl, h1⟩ := h
    exact ⟨f, d, b, A, q, rfl, LsO.touch h1 ht (fun k hk => hne k (blkFo_iff.2 hk))⟩
/-- What is left of a limit. -/
def szW (n L : Nat) : Int := if n ≤ L then ((L - n : Nat) : Int) else -1
theorem szW_yes {n L : Nat} (h : n ≤ L) : szW n L = ((L - n : Nat) : Int) := if_pos h
theorem szW_no {n L : Nat} (h : ¬ n ≤ L) : szW n L = -1 := if_neg h

set_option maxHeartbeats 1000000 in
theorem to_fo (f : Int) (d : ByteArray) (b : Bool) (A : Option Addr) (l : List Int) (q : Nat) (hl : l.length ≤ 1048576) (w : World) (h : LsI 1 w w.heap.size A (l.map inC)) :
    Calls Try.prog 13 #[foV f d b (.slice A l.length q)] w (Gives w fun v => foT v f d b l) := by
  have S0 := ((((St.start w).made (foL f d b (.slice A l.length q)) 30).made [.int .i64 0, .string ⟨#[]⟩, .slice none 0 0, .bool false] 24).made [.int .i64 f, .string d, .slice none 0 0, .bool false] 24)
  have S1 := Lib.hid (show St w (((w.alloc (.cells (foL f d b (.slice A l.length q)).toArray 30)).alloc (.cells [.int .i64 0, .string ⟨#[]⟩, .slice none 0 0, .bool false].toArray 24)).alloc (.cells [.int .i64 f, .string d, .slice none 0 0, .bool false].toArray 24)) [boxT (w.heap.size + 1 + 1) [.int .i64 f, .string d, .slice none 0 0, .bool false], boxT (w.heap.size + 1) [.int .i64 0, .string ⟨#[]⟩, .slice none 0 0, .bool false], boxT w.heap.size (foL f d b (.slice A l.length q))] from by simpa using S0)
  have HT := Lib.hid (to_ins A l q (by omega) (((w.alloc (.cells (foL f d b (.slice A l.length q)).toArray 30)).alloc (.cells [.int .i64 0, .string ⟨#[]⟩, .slice none 0 0, .bool false].toArray 24)).alloc (.cells [.int .i64 f, .string d, .slice none 0 0, .bool false].toArray 24)) (h.full S1.out.below))
  clear S0 h
  go_enter Try.func13, Try.ntmps13
  go_wp2_with fail
  refine HT.out.mono ?_
  rintro e w4 ⟨u, rfl, hu, hb⟩
  obtain ⟨A1, q1, hq⟩ := hu.form
  rw [List.length_map] at hq
  subst hq
  have S2 := S1.out.add (lsT 1 (.slice A1 l.length q1) (l.map inC)) hb (LsO.lower hu (Nat.zero_le _)) (fun k hk => (hu.up k hk).1)
  have S3 : St w (w4.setCell ⟨w.heap.size + 1 + 1, 2, none⟩ (.slice A1 l.length q1)) [lsT 1 (.slice A1 l.length q1) (l.map inC), boxT (w.heap.size + 1 + 1) [.int .i64 f, .string d, .slice A1 l.length q1, .bool false], boxT (w.heap.size + 1) [.int .i64 0, .string ⟨#[]⟩, .slice none 0 0, .bool false], boxT w.heap.size (foL f d b (.slice A l.length q))] := S2.setBox 1 _ _ rfl 2 (by simp) (.slice A1 l.length q1)
  obtain ⟨y0, y1, y2, y3⟩ := (S3.box 3 _ _ rfl).fourFo
  obtain ⟨x0, x1, x2, x3⟩ := (S3.box 1 _ _ rfl).fourFo
  have xi := (S3.box 1 _ _ rfl).ice
  have S4 : St w ((w4.setCell ⟨w.heap.size + 1 + 1, 2, none⟩ (.slice A1 l.length q1)).setCell ⟨w.heap.size + 1 + 1, 3, none⟩ (.bool b)) [lsT 1 (.slice A1 l.length q1) (l.map inC), boxT (w.heap.size + 1 + 1) [.int .i64 f, .string d, .slice A1 l.length q1, .bool b], boxT (w.heap.size + 1) [.int .i64 0, .string ⟨#[]⟩, .slice none 0 0, .bool false], boxT w.heap.size (foL f d b (.slice A l.length q))] := S3.setBox 1 _ _ rfl 3 (by simp) (.bool b)
  obtain ⟨p0, p1, p2, p3⟩ := (S4.box 1 _ _ rfl).fourFo
  obtain ⟨r0, r1, r2, r3⟩ := (S4.box 2 _ _ rfl).fourFo
  have ri := (S4.box 2 _ _ rfl).ice
  obtain ⟨m0, m1, m2, m3⟩ := (S2.box 1 _ _ rfl).fourFo
  have mi := (S2.box 1 _ _ rfl).ice
  obtain ⟨n0, n1, n2, n3⟩ := (S2.box 3 _ _ rfl).fourFo
  have S5 := Lib.hid (show St w (((w4.setCell ⟨w.heap.size + 1 + 1, 2, none⟩ (.slice A1 l.length q1)).setCell ⟨w.heap.size + 1 + 1, 3, none⟩ (.bool b)).setCells (w.heap.size + 1) 0 (foL f d b (.slice A1 l.length q1))) [lsT 1 (.slice A1 l.length q1) (l.map inC), boxT (w.heap.size + 1 + 1) [.int .i64 f, .string d, .slice A1 l.length q1, .bool b], boxT (w.heap.size + 1) (foL f d b (.slice A1 l.length q1)), boxT w.heap.size (foL f d b (.slice A l.length q))] from S4.setAll 2 _ _ rfl (foL f d b (.slice A1 l.length q1)) rfl)
  have HQ := Lib.hid (fun k hk => (hu.up k hk).1)
  have HZ := Lib.hid (show w.heap.size ≤ (((w.alloc (.cells (foL f d b (.slice A l.length q)).toArray 30)).alloc (.cells [.int .i64 0, .string ⟨#[]⟩, .slice none 0 0, .bool false].toArray 24)).alloc (.cells [.int .i64 f, .string d, .slice none 0 0, .bool false].toArray 24)).heap.size from S1.out.below.size)
  clear S2 S3 S4 hb hu HT
  go_wp2
  show bodyPost Try.prog Try.f13 _ Exit.ret _ (((w4.setCell ⟨w.heap.size + 1 + 1, 2, none⟩ (.slice A1 l.length q1)).setCell ⟨w.heap.size + 1 + 1, 3, none⟩ (.bool b)).setCells (w.heap.size + 1) 0 (foL f d b (.slice A1 l.length q1)))
  generalize (((w4.setCell ⟨w.heap.size + 1 + 1, 2, none⟩ (.slice A1 l.length q1)).setCell ⟨w.heap.size + 1 + 1, 3, none⟩ (.bool b)).setCells (w.heap.size + 1) 0 (foL f d b (.slice A1 l.length q1))) = WE at *
  obtain ⟨c0, c1, c2, c3⟩ := (S5.out.box 2 _ _ rfl).fourFo
  refine bodyPost_ret_by (v := foV f d b (.slice A1 l.length q1)) ?_ rfl ⟨_, rfl, ⟨A1, q1, rfl, S5.out.ls 0 _ _ _ rfl⟩, fun k hk => ?_, S5.out.below⟩
  · simp [results, Try.f13, go_sem, c0, c1, c2, c3]
  · have h1 := HQ.out k (blkFo_iff.1 hk)
    have h2 := HZ.out
    omega

set_option maxHeartbeats 1000000 in
theorem eq_fo (f : Int) (d : ByteArray) (b : Bool) (l : List Int) (hl : l.length ≤ 2000000) (v1 v2 : Value) (w : World) (h1 : (foT v1 f d b l).P w) (h2 : (foT v2 f d b l).P w) :
    Calls Try.prog 8 #[v1, v2] w fun e w' => e = .returned (.bool true) ∧ Below w.heap.size w w' := by
  obtain ⟨A1, q1, rfl, o1⟩ := h1
  obtain ⟨A2, q2, rfl, o2⟩ := h2
  have S0 := (((St.start w).made (foL f d b (.slice A1 l.length q1)) 24).made (foL f d b (.slice A2 l.length q2)) 24)
  have S1 := Lib.hid (show St w ((w.alloc (.cells (foL f d b (.slice A1 l.length q1)).toArray 24)).alloc (.cells (foL f d b (.slice A2 l.length q2)).toArray 24)) [boxT (w.heap.size + 1) (foL f d b (.slice A2 l.length q2)), boxT w.heap.size (foL f d b (.slice A1 l.length q1))] from by simpa using S0)
  have HE := Lib.hid (eqIn_any ((w.alloc (.cells (foL f d b (.slice A1 l.length q1)).toArray 24)).alloc (.cells (foL f d b (.slice A2 l.length q2)).toArray 24)) 0 0 _ _ l hl (LsO.more o1 S1.out.below) (LsO.more o2 S1.out.below))
  have hselff : (f != f) = false := by simp
  have hselfd : (d.toList == d.toList) = true := beq_self_eq_true _
  have hselfb : (b != b) = false := by simp
  clear S0 o1 o2
  go_enter Try.func8, Try.ntmps8
  go_wp2_with fail
  refine HE.out.mono ?_
  rintro e w4 ⟨rfl, hb⟩
  have S2 := Lib.hid (S1.out.more hb)
  obtain ⟨p0, p1, p2, p3⟩ := (S2.out.box 0 _ _ rfl).fourFo
  obtain ⟨r0, r1, r2, r3⟩ := (S2.out.box 1 _ _ rfl).fourFo
  clear hb
  go_wp2
  go_ret
  exact ⟨rfl, S2.out.below⟩

set_option maxHeartbeats 1000000 in
theorem mark_fo (f : Int) (d : ByteArray) (b : Bool) (l : List Int) (hl : l.length ≤ 1100000) (v : Value) (M : Nat) (hM1 : 1 ≤ M) (hM : M ≤ 10000000) (w : World) (h : (foT v f d b l).P w) :
    Calls Try.prog 9 #[v, .int .i64 (M : Int)] w fun e w' => e = .returned (.int .i64 ((M + l.length : Nat) : Int)) ∧ Touch w w' (blkFo v) ∧ (foM v M l.length).P w' := by
  obtain ⟨A1, q1, rfl, o1⟩ := h
  have HF := Lib.hid (Fit.made w (foL f d b (.slice A1 l.length q1)) 24)
  have HE := Lib.hid ((markIn_any _ 0 (.slice A1 l.length q1) (l.map inC) (by rw [List.length_map]; exact hl) M hM1 hM (LsO.more o1 HF.out.below)).mono fun e w' hh => (show e = .returned (.int .i64 ((M + l.length : Nat) : Int)) ∧ Touch (w.alloc (.cells (foL f d b (.slice A1 l.length q1)).toArray 24)) w' (fun k => (Value.slice A1 l.length q1).ownBlock = some k) ∧ LsO 1 w' 0 (.slice A1 l.length q1) ((List.range l.length).map (mkIn M)) from by
    rw [List.length_map] at hh
    exact ⟨by rw [hh.1]; congr 2, Touch.of_grown hh.2.1, hh.2.2⟩))
  generalize hV : ((M + l.length : Nat) : Int) = V at *
  clear o1
  go_enter Try.func9, Try.ntmps9
  go_wp2_with fail
  refine HE.out.mono ?_
  rintro e w1 ⟨rfl, ht1, hm1⟩
  have HT1 := Lib.hid ((Touch.of_below (HF.out.below) (blkFo (foV f d b (.slice A1 l.length q1)))).trans (ht1.mono (fun k hk => blkFo_iff.2 hk)))
  have HM1 := Lib.hid hm1
  clear ht1 hm1 hV
  go_wp2
  go_ret
  exact ⟨rfl, HT1.out, ⟨f, d, b, A1, q1, rfl, HM1.out⟩⟩

set_option maxHeartbeats 1000000 in
theorem held_fo (n : Nat) (hn : n ≤ 1100000) (v : Value) (M : Nat) (hM1 : 1 ≤ M) (hM : M ≤ 10000000) (w : World) (h : (foM v M n).P w) :
    Calls Try.prog 10 #[v, .int .i64 (M : Int)] w fun e w' => e = .returned (.int .i64 ((M + n : Nat) : Int)) ∧ Below w.heap.size w w' := by
  obtain ⟨f, d, b, A1, q1, rfl, o1⟩ := h
  have HF := Lib.hid (Fit.made w (foL f d b (.slice A1 n q1)) 24)
  have HE := Lib.hid ((heldIn_any _ 0 M (.slice A1 n q1) n hn (LsO.more o1 HF.out.below) hM1 hM).mono fun e w' hh => (show e = .returned (.int .i64 ((M + n : Nat) : Int)) ∧ Fit w w' w.heap.size (foL f d b (.slice A1 n q1)) from ⟨by rw [hh.1]; congr 2, HF.out.more hh.2⟩))
  have hd1 : decide (((M + n : Nat) : Int) < 0) = false := decide_eq_false (by omega)
  generalize ((M + n : Nat) : Int) = V at *
  clear o1
  go_enter Try.func10, Try.ntmps10
  go_wp2_with fail
  refine HE.out.mono ?_
  rintro e w1 ⟨rfl, hf1⟩
  have F1 := Lib.hid hf1
  clear hf1
  go_wp2
  go_ret
  exact ⟨rfl, F1.out.below⟩

set_option maxHeartbeats 1000000 in
theorem sz_fo (f : Int) (d : ByteArray) (b : Bool) (A : Option Addr) (l : List Int) (q L : Nat) (hl : l.length ≤ maxLen) (hd : d.size ≤ maxLen) (hL : L ≤ 1048576) (w : World) :
    Calls Try.prog 11 #[foV f d b (.slice A l.length q), .int .i64 (L : Int)] w fun e w' => e = .returned (.int .i64 (szW (d.size + l.length) L)) ∧ Fit w w' w.heap.size (foL f d b (.slice A l.length q)) := by
  have HF := Lib.hid (Fit.made w (foL f d b (.slice A l.length q)) 30)
  obtain ⟨k0, k1, k2, k3⟩ := HF.out.box.fourFo
  have hd' : d.size ≤ 9223372036854775807 := by unfold maxLen at hd; omega
  by_cases h1 : d.size ≤ L
  · have e1 : (L : Int) - (d.size : Int) = ((L - d.size : Nat) : Int) := by omega
    have d1 : decide ((L : Int) - (d.size : Int) < 0) = false := decide_eq_false (by omega)
    have d1' : decide (((L - d.size : Nat) : Int) < 0) = false := decide_eq_false (by omega)
    have HE := szI_any A l.length q (L - d.size) hl (by omega)
    by_cases h2 : l.length ≤ L - d.size
    · simp only [if_pos h2] at HE
      have HV := Lib.hid (show szW (d.size + l.length) L = ((L - d.size : Nat) : Int) - (l.length : Int) by rw [szW_yes (by omega)]; omega)
      have d2 : decide (((L - d.size : Nat) : Int) - (l.length : Int) < 0) = false := decide_eq_false (by omega)
      obtain ⟨V, hV⟩ : ∃ V, ((L - d.size : Nat) : Int) - (l.length : Int) = V := ⟨_, rfl⟩
      rw [hV] at HV d2
      simp only [hV] at HE
      have HE := Lib.hid HE
      clear hV h1 h2
      go_enter Try.func11, Try.ntmps11
      go_wp2_with fail
      refine (HE.out _).mono ?_
      rintro e w1 ⟨rfl, rfl⟩
      go_wp2
      go_ret
      exact ⟨by rw [HV.out]; rfl, HF.out⟩
    · simp only [if_neg h2] at HE
      have HV := Lib.hid (szW_no (n := d.size + l.length) (L := L) (by omega))
      have HE := Lib.hid HE
      clear h1 h2
      go_enter Try.func11, Try.ntmps11
      go_wp2_with fail
      refine (HE.out _).mono ?_
      rintro e w1 ⟨rfl, rfl⟩
      go_wp2
      go_ret
      exact ⟨by rw [HV.out]; rfl, HF.out⟩
  · have d1 : decide ((L : Int) - (d.size : Int) < 0) = true := decide_eq_true (by omega)
    have HV := Lib.hid (szW_no (n := d.size + l.length) (L := L) (by omega))
    clear h1
    go_enter Try.func11, Try.ntmps11
    go_wp2
    go_ret
    exact ⟨by rw [HV.out]; rfl, HF.out⟩
end Go.Proofs.Ytjcdekonidekcag
