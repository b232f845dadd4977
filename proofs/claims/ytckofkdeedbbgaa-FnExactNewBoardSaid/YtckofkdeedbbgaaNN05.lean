/- What this text proves: the parts LmS, OpenB, LmO, OpenL, Rcd of the proof, each under its own words. -/
import Derived.Test.YtckofkdeedbbgaaNN02
import Derived.Test.YtckofkdeedbbgaaNN04
import Derived.Laws.Concat
import Derived.Deep.RegionLaw
import Derived.Deep.LoopGhost
import Derived.BigRegion
import Derived.Outline
import Derived.Test.YtckofkdeedbbgaaNN00
import Derived.Lib.SmallJoins
import Derived.ChangeSlices
import Derived.Deep.SlicePairs
import Derived.Test.YtckofkdeedbbgaaNN01
import Derived.Test.YtckofkdeedbbgaaNN03
/- What this text proves: lists of limits somewhere in a block of the call's own: their cells; the laws' own comparison finds equal ones equal. -/
namespace Go.Proofs.Ytckofkdeedbbgaa
open Go.ChangeShapes Go.WideShapes Go.ChangeAt Go.RowKit
set_option linter.unusedVariables false


abbrev Lm := Int × Int × Int
abbrev lmC (p : Lm) : List Value := [.int .i64 p.1, .int .i64 p.2.1, .int .i64 p.2.2]
abbrev OwnLm (w : World) (base : Nat) (v : Value) (l : List Lm) : Prop := LsO 3 w base v (l.map lmC)
theorem info_lm : (Try.prog.info? 57).map (fun i => (i.zero, i.size, i.bytes)) = some (some (.agg #[.int .i64 0, .int .i64 0, .int .i64 0]), 3, 24) := by kernel_rfl
theorem lm_len (l : List Lm) : ∀ x ∈ l.map lmC, x.length = 3 := fun x hx => by obtain ⟨q, _, rfl⟩ := List.mem_map.1 hx; rfl
theorem lm_one (l : List Lm) : ∀ x ∈ l.map lmC, ∀ u ∈ x, u.oneCell' = true := fun x hx u hu => by
  obtain ⟨q, _, rfl⟩ := List.mem_map.1 hx
  simp only [lmC, List.mem_cons, List.not_mem_nil, or_false] at hu
  rcases hu with rfl | rfl | rfl <;> rfl
theorem lmCells {w : World} {base g off N c : Nat} {l : List Lm} (h : OwnLm w base (.slice (some ⟨g, off, none⟩) N c) l) (k : Nat) (hk : k < l.length) : w.cell? ⟨g, off + k * 3, none⟩ = some (.int .i64 l[k].1) ∧ w.cell? ⟨g, off + k * 3 + 1, none⟩ = some (.int .i64 l[k].2.1) ∧ w.cell? ⟨g, off + k * 3 + 2, none⟩ = some (.int .i64 l[k].2.2) := by
  have hc := (h.at rfl (by rw [List.length_map]; omega)).1
  have h0 := hc k (by rw [List.length_map]; exact hk) 0 (by decide)
  have h1 := hc k (by rw [List.length_map]; exact hk) 1 (by decide)
  have h2 := hc k (by rw [List.length_map]; exact hk) 2 (by decide)
  simp only [List.getElem_map] at h0 h1 h2
  exact ⟨h0, h1, h2⟩
theorem lmCellsI {w : World} {B b off : Nat} {A : Option Addr} {l : List Lm} (h : LsI 3 w B A (l.map lmC)) (h0 : 0 < l.length) : ∃ b off, A = some ⟨b, off, none⟩ ∧ b < B ∧ ∀ k (hk : k < l.length), w.cell? ⟨b, off + k * 3, none⟩ = some (.int .i64 l[k].1) ∧ w.cell? ⟨b, off + k * 3 + 1, none⟩ = some (.int .i64 l[k].2.1) ∧ w.cell? ⟨b, off + k * 3 + 2, none⟩ = some (.int .i64 l[k].2.2) := by
  rcases h with h | ⟨b, off, hA, hb, hc⟩
  · rw [List.length_map] at h; omega
  · refine ⟨b, off, hA, hb, fun k hk => ?_⟩
    have h0 := hc k (by rw [List.length_map]; exact hk) 0 (by decide)
    have h1 := hc k (by rw [List.length_map]; exact hk) 1 (by decide)
    have h2 := hc k (by rw [List.length_map]; exact hk) 2 (by decide)
    simp only [List.getElem_map] at h0 h1 h2
    exact ⟨h0, h1, h2⟩
theorem OwnLm.nform {w : World} {base : Nat} {v : Value} {l : List Lm} (h : OwnLm w base v l) : ∃ A c, v = .slice A l.length c := by
  obtain ⟨A, c, h1⟩ := LsO.form h
  exact ⟨A, c, by rw [h1, List.length_map]⟩

set_option maxHeartbeats 2000000 in
theorem eqLm_any (w : World) (b1 b2 : Nat) (v1 v2 : Value) (l : List Lm) (hl : l.length ≤ 2000000) (h1 : OwnLm w b1 v1 l) (h2 : OwnLm w b2 v2 l) :
    Calls Try.prog 47 #[v1, v2] w fun e w' => e = .returned (.bool true) ∧ Below w.heap.size w w' := by
  obtain ⟨A1, c1, rfl⟩ := OwnLm.nform h1
  obtain ⟨A2, c2, rfl⟩ := OwnLm.nform h2
  rcases Nat.eq_zero_or_pos l.length with h0 | h0
  · rw [h0]
    go_enter Try.func47, Try.ntmps47
    go_wp2
    refine wp_loop_rounds 1 ?_
    rw [rounds_succ]
    go_wp2
    go_ret
    exact ⟨rfl, Below.refl _ _⟩
  · obtain ⟨g1, o1, ⟨d1, e1⟩, _, _⟩ := h1.rows (by rw [List.length_map]; exact h0)
    obtain ⟨g2, o2, ⟨d2, e2⟩, _, _⟩ := h2.rows (by rw [List.length_map]; exact h0)
    injection e1 with e1 e1b e1c
    injection e2 with e2 e2b e2c
    clear e1b e1c e2b e2c
    subst e1 e2
    have hg1 := (h1.block rfl).2
    have hg2 := (h2.block rfl).2
    have H1 := Lib.hid (fun k hk => lmCells h1 k hk)
    have H2 := Lib.hid (fun k hk => lmCells h2 k hk)
    have HE := Lib.hid (fun x0 x1 x2 W => eq_lm x0 x1 x2 W)
    clear h1 h2
    go_enter Try.func47, Try.ntmps47
    go_wp2
    go_loopg [5] l.length (fun g v5 wx => ∃ k : Nat, k ≤ l.length ∧ g = l.length - k ∧ v5 = .int .i64 (k : Int) ∧ Below w.heap.size w wx)
    case atStart => exact ⟨0, by omega, rfl, rfl, Below.refl _ _⟩
    case round =>
      obtain ⟨k, hk, rfl, rfl, hbel⟩ := hrel
      have HB := Lib.hid hbel
      by_cases hlt : k < l.length
      · have hd : decide (k < l.length) = true := by simp; omega
        obtain ⟨x0, x1, x2⟩ := H1.out k hlt
        obtain ⟨y0, y1, y2⟩ := H2.out k hlt
        have cx0 := (hbel.cell (p := ⟨g1, o1 + k * 3, none⟩) hg1).trans x0
        have cx1 := (hbel.cell (p := ⟨g1, o1 + k * 3 + 1, none⟩) hg1).trans x1
        have cx2 := (hbel.cell (p := ⟨g1, o1 + k * 3 + 2, none⟩) hg1).trans x2
        have cy0 := (hbel.cell (p := ⟨g2, o2 + k * 3, none⟩) hg2).trans y0
        have cy1 := (hbel.cell (p := ⟨g2, o2 + k * 3 + 1, none⟩) hg2).trans y1
        have cy2 := (hbel.cell (p := ⟨g2, o2 + k * 3 + 2, none⟩) hg2).trans y2
        clear x0 x1 x2 y0 y1 y2 hbel
        generalize l[k].1 = a0 at *
        generalize l[k].2.1 = a1 at *
        generalize l[k].2.2 = a2 at *
        go_wp2
        go_region_law ((go_simp; go_at_call 113; (with_reducible refine (HE.out _ _ _ _).mono ?_); rintro e w2 ⟨rfl, hb2⟩))
        all_goals go_wp2
        all_goals
          go_roundg (l.length - (k + 1))
          case measure => omega
          case rel => exact ⟨k + 1, by omega, rfl, by go_num, HB.out.drew.trans (hb2.mono HB.out.drew.size)⟩
      · have hd : decide (k < l.length) = false := by simp; omega
        clear hlt
        go_wp2
        go_ret
        exact ⟨rfl, HB.out⟩
end Go.Proofs.Ytckofkdeedbbgaa
/- What this text proves: a cell that is there lies in a block that is there. -/
namespace Go.Proofs.Ytckofkdeedbbgaa
open Go.ChangeShapes Go.WideShapes Go.ChangeAt Go.RowKit
theorem lt_of_cellB {W : World} {p : Addr} {v : Value} (h : W.cell? p = some v) : p.block < W.heap.size := by
  rcases Nat.lt_or_ge p.block W.heap.size with h1 | h1
  · exact h1
  · simp [World.cell?, Array.getElem?_eq_none h1] at h
end Go.Proofs.Ytckofkdeedbbgaa
/- What this text proves: a list of limits that is handed to a law, opened: it is there to be read. -/
namespace Go.Proofs.Ytckofkdeedbbgaa
open Go.ChangeShapes Go.WideShapes Go.ChangeAt Go.RowKit Go.Joins Go.Deep
set_option linter.unusedVariables false

theorem cells_lm : Try.prog.cellsOf 159 = 3 := by kernel_rfl
section
variable {H : Type} {enc : TypeId × Value → H} {W : World} {base : Nat}
set_option maxRecDepth 100000 in
theorem lm_opened {m : Nat} {cs : List Value} {y : DataW H × List MemPlace} (hl : cs.length = 3) (h : DataW.trod enc Try.prog W 0 (fun _ => true) true m 159 cs = some y) : ∃ (a0 : Int) (a1 : Int) (a2 : Int), cs = [.int .i64 a0, .int .i64 a1, .int .i64 a2] := by
  obtain ⟨xs, k, hk, hxy, _, hxl, hf⟩ := DataW.trod_struct Try.underlying159 h
  match xs, hxl, cs, hl with
  | [y0, y1, y2], _, [v0, v1, v2], _ =>
    have g0 := hf 0 _ rfl
    have g1 := hf 1 _ rfl
    have g2 := hf 2 _ rfl
    have k0 : Try.prog.cellsOf 3 = 1 := by kernel_rfl
    simp [k0] at g0 g1 g2
    obtain ⟨a0, e0, _, w0⟩ := DataW.trod_int Try.underlying3 g0
    obtain ⟨a1, e1, _, w1⟩ := DataW.trod_int Try.underlying3 g1
    obtain ⟨a2, e2, _, w2⟩ := DataW.trod_int Try.underlying3 g2
    simp at e0 e1 e2
    subst e0 e1 e2
    exact ⟨a0, a1, a2, rfl⟩
set_option maxRecDepth 100000 in
theorem open_lms {m : Nat} {v : Value} {y : DataW H × List MemPlace} (hf : DataW.trod enc Try.prog W 0 (fun _ => true) true m 90 [v] = some y) :
    ∃ (A : Option Addr) (l : List Lm) (k : Nat), v = .slice A l.length k ∧ l.length ≤ maxLen ∧ LsI 3 W W.heap.size A (l.map lmC) := by
  rcases open_slice Try.underlying90 hf with ⟨hcs, _⟩ | ⟨a, len, cp, m, n, D, Pl, hcs, _, hl, hm, hmm, _, hx⟩
  · simp at hcs
    exact ⟨none, [], 0, hcs, Nat.zero_le _, .inl rfl⟩
  · simp at hcs
    simp only [if_true] at hmm
    subst hmm
    obtain ⟨q, hq⟩ := choose_lt (α := Lm) (p := fun i q => W.cell? (a.add (i * 3)) = some (.int .i64 q.1) ∧ W.cell? (a.add (i * 3 + 1)) = some (.int .i64 q.2.1) ∧ W.cell? (a.add (i * 3 + 2)) = some (.int .i64 q.2.2)) (fun i (hi : i < len) => by
      obtain ⟨cs', h1, h2⟩ := hx i (by omega)
      rw [cells_lm] at h1
      obtain ⟨_, hlen, hcell⟩ := World.cells?_some h1
      obtain ⟨a0, a1, a2, rfl⟩ := lm_opened hlen h2
      have e0 := hcell 0 (by omega)
      have e1 := hcell 1 (by omega)
      have e2 := hcell 2 (by omega)
      rw [add_add] at e0 e1 e2
      exact ⟨(a0, a1, a2), by simpa using e0, by simpa using e1, by simpa using e2⟩)
    refine ⟨some a, (List.range len).map q, m, by simpa using hcs, by simp; omega, ?_⟩
    · rcases Nat.eq_zero_or_pos len with h0 | h0
      · exact .inl (by simp [h0])
      · obtain ⟨b, off, spot⟩ := a
        have hspot : spot = none := by simpa [Addr.add] using World.cell?_spot (hq 0 h0).1
        subst hspot
        have hadd : ∀ i, (⟨b, off, none⟩ : Addr).add i = ⟨b, off + i, none⟩ := fun i => by unfold Addr.add; split <;> simp_all
        refine .inr ⟨b, off, rfl, ?_, fun k hk j hj => ?_⟩
        · have h := lt_of_cellB (hq 0 h0).1
          rw [hadd] at h
          exact h
        · have hk' : k < len := by simpa using hk
          obtain ⟨h0, h1, h2⟩ := hq k hk'
          rw [hadd] at h0 h1 h2
          simp only [List.getElem_map, List.getElem_range]
          rcases (show j = 0 ∨ j = 1 ∨ j = 2 by omega) with rfl | rfl | rfl
          · exact h0
          · rw [Nat.add_assoc]; exact h1
          · rw [Nat.add_assoc]; exact h2
end
end Go.Proofs.Ytckofkdeedbbgaa
/- What this text proves: a list of limits that was handed to a law, opened: its limits are there to be read. -/
namespace Go.Proofs.Ytckofkdeedbbgaa
open Go.ChangeShapes Go.WideShapes Go.ChangeAt Go.RowKit Go.Joins Go.Deep
set_option linter.unusedVariables false
section
variable {H : Type} {enc : TypeId × Value → H} {W : World} {base : Nat}
set_option maxRecDepth 100000 in
theorem open_limits {r0 : Reach} {v : Value} {d : DataW H} {p : List MemPlace} (hv : Value.okWide Try.prog W r0 base 90 v) (h : DataW.Trod enc Try.prog W 0 (fun _ => true) true 90 v d p) :
    ∃ (A : Option Addr) (l : List Lm) (k : Nat), v = .slice A l.length k ∧ l.length ≤ maxLen ∧ LsI 3 W W.heap.size A (l.map lmC) := by
  obtain ⟨a0, len, cap, rfl⟩ := okWide_slice Try.underlying90 hv
  obtain ⟨fuel, hf⟩ := h
  exact open_lms (v := .slice a0 len cap) hf
end
end Go.Proofs.Ytckofkdeedbbgaa
/- What this text proves: records as values; the laws' own functions over them; the contracts of the model's and the program's RecordOk. -/
namespace Go.Proofs.Ytckofkdeedbbgaa
open Go.ChangeShapes Go.WideShapes Go.ChangeAt Go.RowKit
set_option linter.unusedVariables false


abbrev rdV (i q t : Int) (d : ByteArray) : Value := .agg #[.int .i64 i, .int .i64 q, .int .i64 t, .string d]
abbrev rdL (i q t : Int) (d : ByteArray) : List Value := [.int .i64 i, .int .i64 q, .int .i64 t, .string d]
def RdOk (i q t : Int) (d : ByteArray) : Prop := (0 ≤ i ∧ i ≤ 65535) ∧ (0 ≤ q ∧ q ≤ 3) ∧ (0 ≤ t ∧ t ≤ 1000000) ∧ d.size ≤ 34
instance (i q t : Int) (d : ByteArray) : Decidable (RdOk i q t d) := by unfold RdOk; infer_instance

theorem sz_rcd (i q t : Int) (d : ByteArray) (L : Nat) (hL : L ≤ 1048576) (hd : d.size ≤ maxLen) (w : World) :
    Calls Try.prog 36 #[rdV i q t d, .int .i64 (L : Int)] w fun e w' => e = .returned (.int .i64 (if d.size ≤ L then (L : Int) - (d.size : Int) else -1)) ∧ Below w.heap.size w w' := by
  have hd' : d.size ≤ 9223372036854775807 := by unfold maxLen at hd; omega
  by_cases h : d.size ≤ L
  · rw [if_pos h]
    have hd0 : decide ((L : Int) - (d.size : Int) < 0) = false := by simp; omega
    go_enter Try.func36, Try.ntmps36
    go_wp2
    go_ret
    exact ⟨rfl, (Below.refl _ w).alloc (Nat.le_refl _) _⟩
  · rw [if_neg h]
    have hd0 : decide ((L : Int) - (d.size : Int) < 0) = true := by simp; omega
    go_enter Try.func36, Try.ntmps36
    go_wp2
    go_ret
    exact ⟨rfl, (Below.refl _ w).alloc (Nat.le_refl _) _⟩

theorem to_rcd (i q t : Int) (d : ByteArray) (w : World) :
    Calls Try.prog 39 #[rdV i q t d] w fun e w' => e = .returned (rdV i q t d) ∧ Below w.heap.size w w' := by
  go_enter Try.func39, Try.ntmps39
  go_wp2
  refine bodyPost_ret (v := rdV i q t d) (by simp [results, Try.results39, go_sem]) rfl ⟨rfl, (((Below.refl _ w).alloc (Nat.le_refl _) _).alloc (by simp) _).alloc (by simp; omega) _⟩

theorem eq_rcd (i q t : Int) (d : ByteArray) (w : World) :
    Calls Try.prog 149 #[rdV i q t d, rdV i q t d] w fun e w' => e = .returned (.bool true) ∧ Below w.heap.size w w' := by
  have hself : (d.toList == d.toList) = true := beq_self_eq_true _
  go_enter Try.func149, Try.ntmps149
  go_wp2
  go_ret
  exact ⟨rfl, ((Below.refl _ w).alloc (Nat.le_refl _) _).alloc (by simp) _⟩

theorem rd_spec (i q t : Int) (d : ByteArray) (w : World) :
    Calls Try.prog 98 #[rdV i q t d] w fun e w' => e = .returned (.bool (decide (RdOk i q t d))) ∧ Below w.heap.size w w' := by
  have HO := Lib.hid (show decide (RdOk i q t d) = (decide (0 ≤ i ∧ i ≤ 65535) && (decide (0 ≤ q ∧ q ≤ 3) && (decide (0 ≤ t ∧ t ≤ 1000000) && decide (d.size ≤ 34)))) by rw [Bool.eq_iff_iff]; simp only [Bool.and_eq_true, decide_eq_true_iff]; exact Iff.rfl)
  have HI := Lib.hid (in_anyP i 0 65535)
  have HQ := Lib.hid (in_anyP q 0 3)
  have HT := Lib.hid (in_anyP t 0 1000000)
  have hcast : decide ((d.size : Int) ≤ 34) = decide (d.size ≤ 34) := by rw [decide_eq_decide]; omega
  generalize decide (0 ≤ i ∧ i ≤ 65535) = I at *
  generalize decide (0 ≤ q ∧ q ≤ 3) = Q at *
  generalize decide (0 ≤ t ∧ t ≤ 1000000) = T at *
  cases I with
  | false =>
    go_enter Try.func98, Try.ntmps98
    go_wp2_with fail
    refine (HI.out _).mono ?_
    rintro e w' ⟨rfl, rfl⟩
    go_wp2
    go_ret
    exact ⟨by rw [HO.out]; simp, (Below.refl _ w).alloc (Nat.le_refl _) _⟩
  | true =>
    cases Q with
    | false =>
      go_enter Try.func98, Try.ntmps98
      go_wp2_with fail
      refine (HI.out _).mono ?_
      rintro e w' ⟨rfl, rfl⟩
      go_wp2_with fail
      refine (HQ.out _).mono ?_
      rintro e w' ⟨rfl, rfl⟩
      go_wp2
      go_ret
      exact ⟨by rw [HO.out]; simp, (Below.refl _ w).alloc (Nat.le_refl _) _⟩
    | true =>
      cases T with
      | false =>
        go_enter Try.func98, Try.ntmps98
        go_wp2_with fail
        refine (HI.out _).mono ?_
        rintro e w' ⟨rfl, rfl⟩
        go_wp2_with fail
        refine (HQ.out _).mono ?_
        rintro e w' ⟨rfl, rfl⟩
        go_wp2_with fail
        refine (HT.out _).mono ?_
        rintro e w' ⟨rfl, rfl⟩
        go_wp2
        go_ret
        exact ⟨by rw [HO.out]; simp, (Below.refl _ w).alloc (Nat.le_refl _) _⟩
      | true =>
        go_enter Try.func98, Try.ntmps98
        go_wp2_with fail
        refine (HI.out _).mono ?_
        rintro e w' ⟨rfl, rfl⟩
        go_wp2_with fail
        refine (HQ.out _).mono ?_
        rintro e w' ⟨rfl, rfl⟩
        go_wp2_with fail
        refine (HT.out _).mono ?_
        rintro e w' ⟨rfl, rfl⟩
        go_wp2
        go_ret
        exact ⟨by rw [HO.out]; simp, (Below.refl _ w).alloc (Nat.le_refl _) _⟩

theorem rd_impl (i q t : Int) (d : ByteArray) (w : World) :
    Calls Try.prog 66 #[rdV i q t d] w fun e w' => e = .returned (.bool (decide (RdOk i q t d))) ∧ Below w.heap.size w w' := by
  have HO := Lib.hid (show decide (RdOk i q t d) = (decide (0 ≤ i ∧ i ≤ 65535) && (decide (0 ≤ q ∧ q ≤ 3) && (decide (0 ≤ t ∧ t ≤ 1000000) && decide (d.size ≤ 34)))) by rw [Bool.eq_iff_iff]; simp only [Bool.and_eq_true, decide_eq_true_iff]; exact Iff.rfl)
  have HI := Lib.hid (iw_any i 0 65535)
  have HQ := Lib.hid (iw_any q 0 3)
  have HT := Lib.hid (iw_any t 0 1000000)
  have hcast : decide ((d.size : Int) ≤ 34) = decide (d.size ≤ 34) := by rw [decide_eq_decide]; omega
  generalize decide (0 ≤ i ∧ i ≤ 65535) = I at *
  generalize decide (0 ≤ q ∧ q ≤ 3) = Q at *
  generalize decide (0 ≤ t ∧ t ≤ 1000000) = T at *
  cases I with
  | false =>
    go_enter Try.func66, Try.ntmps66
    go_wp2_with fail
    refine (HI.out _).mono ?_
    rintro e w' ⟨rfl, rfl⟩
    go_wp2
    go_ret
    exact ⟨by rw [HO.out]; simp, (Below.refl _ w).alloc (Nat.le_refl _) _⟩
  | true =>
    cases Q with
    | false =>
      go_enter Try.func66, Try.ntmps66
      go_wp2_with fail
      refine (HI.out _).mono ?_
      rintro e w' ⟨rfl, rfl⟩
      go_wp2_with fail
      refine (HQ.out _).mono ?_
      rintro e w' ⟨rfl, rfl⟩
      go_wp2
      go_ret
      exact ⟨by rw [HO.out]; simp, (Below.refl _ w).alloc (Nat.le_refl _) _⟩
    | true =>
      cases T with
      | false =>
        go_enter Try.func66, Try.ntmps66
        go_wp2_with fail
        refine (HI.out _).mono ?_
        rintro e w' ⟨rfl, rfl⟩
        go_wp2_with fail
        refine (HQ.out _).mono ?_
        rintro e w' ⟨rfl, rfl⟩
        go_wp2_with fail
        refine (HT.out _).mono ?_
        rintro e w' ⟨rfl, rfl⟩
        go_wp2
        go_ret
        exact ⟨by rw [HO.out]; simp, (Below.refl _ w).alloc (Nat.le_refl _) _⟩
      | true =>
        go_enter Try.func66, Try.ntmps66
        go_wp2_with fail
        refine (HI.out _).mono ?_
        rintro e w' ⟨rfl, rfl⟩
        go_wp2_with fail
        refine (HQ.out _).mono ?_
        rintro e w' ⟨rfl, rfl⟩
        go_wp2_with fail
        refine (HT.out _).mono ?_
        rintro e w' ⟨rfl, rfl⟩
        go_wp2
        go_ret
        exact ⟨by rw [HO.out]; simp, (Below.refl _ w).alloc (Nat.le_refl _) _⟩

end Go.Proofs.Ytckofkdeedbbgaa
