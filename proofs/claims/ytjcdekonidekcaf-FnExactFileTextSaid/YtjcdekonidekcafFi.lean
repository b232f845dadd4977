/- What this text proves: receivers of files as things that lie apart: their list; the laws' own functions over them. -/
import Derived.Test.YtjcdekonidekcafTxS
import Derived.Test.YtjcdekonidekcafTxM
import Derived.Test.YtjcdekonidekcafTxT
import Derived.Test.YtjcdekonidekcafSt
import Derived.Test.YtjcdekonidekcafPktE
namespace Go.Proofs.Ytjcdekonidekcaf
open Go.ChangeShapes Go.WideShapes Go.ChangeAt Go.RowKit
set_option linter.unusedVariables false

abbrev fiV (f : Int) (s : Int) (c : Int) (v : Value) : Value := .agg #[.int .i64 f, .int .i64 s, .int .i64 c, v]
abbrev fiL (f : Int) (s : Int) (c : Int) (v : Value) : List Value := [.int .i64 f, .int .i64 s, .int .i64 c, v]
abbrev Cells4Fi (W : World) (g : Nat) (x y z u : Value) : Prop := W.cell? ⟨g, 0, none⟩ = some x ∧ W.cell? ⟨g, 1, none⟩ = some y ∧ W.cell? ⟨g, 2, none⟩ = some z ∧ W.cell? ⟨g, 3, none⟩ = some u
theorem Box.fourFi {W : World} {g : Nat} {x y z u : Value} (h : Box W g [x, y, z, u]) : Cells4Fi W g x y z u := ⟨h.cell 0 (by simp), h.cell 1 (by simp), h.cell 2 (by simp), h.cell 3 (by simp)⟩
/-- The blocks of its list. -/
def blkFi (v : Value) (k : Nat) : Prop := ∃ f s c u, v = fiV f s c u ∧ u.ownBlock = some k
theorem blkFi_iff {f : Int} {s : Int} {c : Int} {u : Value} {k : Nat} : blkFi (fiV f s c u) k ↔ u.ownBlock = some k := by
  constructor
  · rintro ⟨f', s', c', u', e, h⟩
    simp only [fiV, Value.agg.injEq, Array.mk.injEq, List.cons.injEq, and_true] at e
    obtain ⟨e0, e1, e2, e3⟩ := e
    subst e3
    exact h
  · intro h
    exact ⟨f, s, c, u, rfl, h⟩
/-- A struct with a list of its own. -/
def fiT (v : Value) (f : Int) (s : Int) (c : Int) (l : List ByteArray) : Thing where
  F := blkFi v
  P := fun W => ∃ A q, v = fiV f s c (.slice A l.length q) ∧ LsO 1 W 0 (.slice A l.length q) (l.map txC)
  lt := fun W h k hk => by
    obtain ⟨A, q, rfl, h1⟩ := h
    exact (h1.up k (blkFi_iff.1 hk)).2
  keep := fun W W' S h ht hne => by
    obtain ⟨A, q, rfl, h1⟩ := h
    exact ⟨A, q, rfl, LsO.touch h1 ht (fun k hk => hne k (blkFi_iff.2 hk))⟩
/-- A struct whose list bears n marks from M on. -/
def fiM (v : Value) (M n : Nat) : Thing where
  F := blkFi v
  P := fun W => ∃ f s c A q, v = fiV f s c (.slice A n q) ∧ LsO 1 W 0 (.slice A n q) ((List.range n).map (mkTx M))
  lt := fun W h k hk => by
    obtain ⟨f, s, c, A, q, rfl, h1⟩ := h
    exact (h1.up k (blkFi_iff.1 hk)).2
  keep := fun W W' S h ht hne => by
    obtain ⟨f, s, c, A, q, rfl, h1⟩ := h
    exact ⟨f, s, c, A, q, rfl, LsO.touch h1 ht (fun k hk => hne k (blkFi_iff.2 hk))⟩

set_option maxHeartbeats 1000000 in
theorem to_fi (f : Int) (s : Int) (c : Int) (A : Option Addr) (l : List ByteArray) (q : Nat) (hl : l.length ≤ 1048576) (w : World) (h : LsI 1 w w.heap.size A (l.map txC)) :
    Calls Try.prog 11 #[fiV f s c (.slice A l.length q)] w (Gives w fun v => fiT v f s c l) := by
  have S0 := ((((St.start w).made (fiL f s c (.slice A l.length q)) 24).made [.int .i64 0, .int .i64 0, .int .i64 0, .slice none 0 0] 27).made [.int .i64 f, .int .i64 s, .int .i64 c, .slice none 0 0] 27)
  have S1 := Lib.hid (show St w (((w.alloc (.cells (fiL f s c (.slice A l.length q)).toArray 24)).alloc (.cells [.int .i64 0, .int .i64 0, .int .i64 0, .slice none 0 0].toArray 27)).alloc (.cells [.int .i64 f, .int .i64 s, .int .i64 c, .slice none 0 0].toArray 27)) [boxT (w.heap.size + 1 + 1) [.int .i64 f, .int .i64 s, .int .i64 c, .slice none 0 0], boxT (w.heap.size + 1) [.int .i64 0, .int .i64 0, .int .i64 0, .slice none 0 0], boxT w.heap.size (fiL f s c (.slice A l.length q))] from by simpa using S0)
  have HT := Lib.hid (to_txs A l q (by omega) (((w.alloc (.cells (fiL f s c (.slice A l.length q)).toArray 24)).alloc (.cells [.int .i64 0, .int .i64 0, .int .i64 0, .slice none 0 0].toArray 27)).alloc (.cells [.int .i64 f, .int .i64 s, .int .i64 c, .slice none 0 0].toArray 27)) (h.full S1.out.below))
  clear S0 h
  go_enter Try.func11, Try.ntmps11
  go_wp2_with fail
  refine HT.out.mono ?_
  rintro e w4 ⟨u, rfl, hu, hb⟩
  have hu := hu.toO
  obtain ⟨A1, q1, hq⟩ := hu.form
  rw [List.length_map] at hq
  subst hq
  have S2 := S1.out.add (lsT 1 (.slice A1 l.length q1) (l.map txC)) hb (LsO.lower hu (Nat.zero_le _)) (fun k hk => (hu.up k hk).1)
  have S3 : St w (w4.setCell ⟨w.heap.size + 1 + 1, 3, none⟩ (.slice A1 l.length q1)) [lsT 1 (.slice A1 l.length q1) (l.map txC), boxT (w.heap.size + 1 + 1) [.int .i64 f, .int .i64 s, .int .i64 c, .slice A1 l.length q1], boxT (w.heap.size + 1) [.int .i64 0, .int .i64 0, .int .i64 0, .slice none 0 0], boxT w.heap.size (fiL f s c (.slice A l.length q))] := S2.setBox 1 _ _ rfl 3 (by simp) (.slice A1 l.length q1)
  obtain ⟨p0, p1, p2, p3⟩ := (S3.box 1 _ _ rfl).fourFi
  obtain ⟨r0, r1, r2, r3⟩ := (S3.box 2 _ _ rfl).fourFi
  have ri := (S3.box 2 _ _ rfl).ice
  obtain ⟨m0, m1, m2, m3⟩ := (S2.box 1 _ _ rfl).fourFi
  have mi := (S2.box 1 _ _ rfl).ice
  obtain ⟨n0, n1, n2, n3⟩ := (S2.box 3 _ _ rfl).fourFi
  have S5 := Lib.hid (show St w ((w4.setCell ⟨w.heap.size + 1 + 1, 3, none⟩ (.slice A1 l.length q1)).setCells (w.heap.size + 1) 0 (fiL f s c (.slice A1 l.length q1))) [lsT 1 (.slice A1 l.length q1) (l.map txC), boxT (w.heap.size + 1 + 1) [.int .i64 f, .int .i64 s, .int .i64 c, .slice A1 l.length q1], boxT (w.heap.size + 1) (fiL f s c (.slice A1 l.length q1)), boxT w.heap.size (fiL f s c (.slice A l.length q))] from S3.setAll 2 _ _ rfl (fiL f s c (.slice A1 l.length q1)) rfl)
  have HQ := Lib.hid (fun k hk => (hu.up k hk).1)
  have HZ := Lib.hid (show w.heap.size ≤ (((w.alloc (.cells (fiL f s c (.slice A l.length q)).toArray 24)).alloc (.cells [.int .i64 0, .int .i64 0, .int .i64 0, .slice none 0 0].toArray 27)).alloc (.cells [.int .i64 f, .int .i64 s, .int .i64 c, .slice none 0 0].toArray 27)).heap.size from S1.out.below.size)
  clear S2 S3 hb hu HT
  go_wp2
  show bodyPost Try.prog Try.f11 _ Exit.ret _ ((w4.setCell ⟨w.heap.size + 1 + 1, 3, none⟩ (.slice A1 l.length q1)).setCells (w.heap.size + 1) 0 (fiL f s c (.slice A1 l.length q1)))
  generalize ((w4.setCell ⟨w.heap.size + 1 + 1, 3, none⟩ (.slice A1 l.length q1)).setCells (w.heap.size + 1) 0 (fiL f s c (.slice A1 l.length q1))) = WE at *
  obtain ⟨c0, c1, c2, c3⟩ := (S5.out.box 2 _ _ rfl).fourFi
  refine bodyPost_ret_by (v := fiV f s c (.slice A1 l.length q1)) ?_ rfl ⟨_, rfl, ⟨A1, q1, rfl, S5.out.ls 0 _ _ _ rfl⟩, fun k hk => ?_, S5.out.below⟩
  · simp [results, Try.f11, go_sem, c0, c1, c2, c3]
  · have h1 := HQ.out k (blkFi_iff.1 hk)
    have h2 := HZ.out
    omega

set_option maxHeartbeats 1000000 in
theorem eq_fi (f : Int) (s : Int) (c : Int) (l : List ByteArray) (hl : l.length ≤ 2000000) (v1 v2 : Value) (w : World) (h1 : (fiT v1 f s c l).P w) (h2 : (fiT v2 f s c l).P w) :
    Calls Try.prog 13 #[v1, v2] w fun e w' => e = .returned (.bool true) ∧ Below w.heap.size w w' := by
  obtain ⟨A1, q1, rfl, o1⟩ := h1
  obtain ⟨A2, q2, rfl, o2⟩ := h2
  have S0 := (((St.start w).made (fiL f s c (.slice A1 l.length q1)) 27).made (fiL f s c (.slice A2 l.length q2)) 27)
  have S1 := Lib.hid (show St w ((w.alloc (.cells (fiL f s c (.slice A1 l.length q1)).toArray 27)).alloc (.cells (fiL f s c (.slice A2 l.length q2)).toArray 27)) [boxT (w.heap.size + 1) (fiL f s c (.slice A2 l.length q2)), boxT w.heap.size (fiL f s c (.slice A1 l.length q1))] from by simpa using S0)
  have HE := Lib.hid (eqTx_any ((w.alloc (.cells (fiL f s c (.slice A1 l.length q1)).toArray 27)).alloc (.cells (fiL f s c (.slice A2 l.length q2)).toArray 27)) 0 0 _ _ l hl (LsO.more o1 S1.out.below) (LsO.more o2 S1.out.below))
  have hselff : (f != f) = false := by simp
  have hselfs : (s != s) = false := by simp
  have hselfc : (c != c) = false := by simp
  clear S0 o1 o2
  go_enter Try.func13, Try.ntmps13
  go_wp2_with fail
  refine HE.out.mono ?_
  rintro e w4 ⟨rfl, hb⟩
  have S2 := Lib.hid (S1.out.more hb)
  obtain ⟨p0, p1, p2, p3⟩ := (S2.out.box 0 _ _ rfl).fourFi
  obtain ⟨r0, r1, r2, r3⟩ := (S2.out.box 1 _ _ rfl).fourFi
  clear hb
  go_wp2
  go_ret
  exact ⟨rfl, S2.out.below⟩

set_option maxHeartbeats 1000000 in
theorem mark_fi (f : Int) (s : Int) (c : Int) (l : List ByteArray) (hl : l.length ≤ 1100000) (v : Value) (M : Nat) (hM1 : 1 ≤ M) (hM : M ≤ 10000000) (w : World) (h : (fiT v f s c l).P w) :
    Calls Try.prog 16 #[v, .int .i64 (M : Int)] w fun e w' => e = .returned (.int .i64 ((M + l.length : Nat) : Int)) ∧ Touch w w' (blkFi v) ∧ (fiM v M l.length).P w' := by
  obtain ⟨A1, q1, rfl, o1⟩ := h
  have HF := Lib.hid (Fit.made w (fiL f s c (.slice A1 l.length q1)) 27)
  have HE := Lib.hid ((markTx_any _ 0 (.slice A1 l.length q1) (l.map txC) (by rw [List.length_map]; exact hl) M hM1 hM (LsO.more o1 HF.out.below)).mono fun e w' hh => (show e = .returned (.int .i64 ((M + l.length : Nat) : Int)) ∧ Touch (w.alloc (.cells (fiL f s c (.slice A1 l.length q1)).toArray 27)) w' (fun k => (Value.slice A1 l.length q1).ownBlock = some k) ∧ LsO 1 w' 0 (.slice A1 l.length q1) ((List.range l.length).map (mkTx M)) from by
    rw [List.length_map] at hh
    exact ⟨by rw [hh.1]; congr 2, Touch.of_grown hh.2.1, hh.2.2⟩))
  generalize hV : ((M + l.length : Nat) : Int) = V at *
  clear o1
  go_enter Try.func16, Try.ntmps16
  go_wp2_with fail
  refine HE.out.mono ?_
  rintro e w1 ⟨rfl, ht1, hm1⟩
  have HT1 := Lib.hid ((Touch.of_below (HF.out.below) (blkFi (fiV f s c (.slice A1 l.length q1)))).trans (ht1.mono (fun k hk => blkFi_iff.2 hk)))
  have HM1 := Lib.hid hm1
  clear ht1 hm1 hV
  go_wp2
  go_ret
  exact ⟨rfl, HT1.out, ⟨f, s, c, A1, q1, rfl, HM1.out⟩⟩

set_option maxHeartbeats 1000000 in
theorem held_fi (n : Nat) (hn : n ≤ 1100000) (v : Value) (M : Nat) (hM1 : 1 ≤ M) (hM : M ≤ 10000000) (w : World) (h : (fiM v M n).P w) :
    Calls Try.prog 17 #[v, .int .i64 (M : Int)] w fun e w' => e = .returned (.int .i64 ((M + n : Nat) : Int)) ∧ Below w.heap.size w w' := by
  obtain ⟨f, s, c, A1, q1, rfl, o1⟩ := h
  have HF := Lib.hid (Fit.made w (fiL f s c (.slice A1 n q1)) 27)
  have HE := Lib.hid ((heldTx_any _ 0 M (.slice A1 n q1) n hn (LsO.more o1 HF.out.below) hM1 hM).mono fun e w' hh => (show e = .returned (.int .i64 ((M + n : Nat) : Int)) ∧ Fit w w' w.heap.size (fiL f s c (.slice A1 n q1)) from ⟨by rw [hh.1]; congr 2, HF.out.more hh.2⟩))
  have hd1 : decide (((M + n : Nat) : Int) < 0) = false := decide_eq_false (by omega)
  generalize ((M + n : Nat) : Int) = V at *
  clear o1
  go_enter Try.func17, Try.ntmps17
  go_wp2_with fail
  refine HE.out.mono ?_
  rintro e w1 ⟨rfl, hf1⟩
  have F1 := Lib.hid hf1
  clear hf1
  go_wp2
  go_ret
  exact ⟨rfl, F1.out.below⟩

set_option maxHeartbeats 1000000 in
theorem sz_fi (f : Int) (s : Int) (c : Int) (A : Option Addr) (l : List ByteArray) (q L : Nat) (hl : l.length ≤ maxLen) (hs : ∀ j (hj : j < l.length), l[j].size ≤ maxLen) (hL : L ≤ 1048576) (w : World) (h : LsI 1 w w.heap.size A (l.map txC)) :
    Calls Try.prog 9 #[fiV f s c (.slice A l.length q), .int .i64 (L : Int)] w fun e w' => e = .returned (.int .i64 (szV (l.length + totTx l l.length) L)) ∧ Fit w w' w.heap.size (fiL f s c (.slice A l.length q)) := by
  have HF := Lib.hid (Fit.made w (fiL f s c (.slice A l.length q)) 24)
  obtain ⟨k0, k1, k2, k3⟩ := HF.out.box.fourFi
  have HE := Lib.hid (sz_txs A l q L hl hs hL _ (h.full HF.out.below))
  obtain ⟨N, hN⟩ : ∃ N, l.length + totTx l l.length = N := ⟨_, rfl⟩
  rw [hN] at HE ⊢
  clear h hN
  by_cases hL2 : N ≤ L
  · rw [szV_yes hL2] at HE ⊢
    have hd : decide (((L - N : Nat) : Int) < 0) = false := decide_eq_false (by omega)
    generalize ((L - N : Nat) : Int) = V at *
    clear hL2
    go_enter Try.func9, Try.ntmps9
    go_wp2_with fail
    refine HE.out.mono ?_
    rintro e w1 ⟨rfl, rfl⟩
    go_wp2
    go_ret
    exact ⟨rfl, HF.out⟩
  · rw [szV_no hL2] at HE ⊢
    clear hL2
    go_enter Try.func9, Try.ntmps9
    go_wp2_with fail
    refine HE.out.mono ?_
    rintro e w1 ⟨rfl, rfl⟩
    go_wp2
    go_ret
    exact ⟨rfl, HF.out⟩
end Go.Proofs.Ytjcdekonidekcaf
