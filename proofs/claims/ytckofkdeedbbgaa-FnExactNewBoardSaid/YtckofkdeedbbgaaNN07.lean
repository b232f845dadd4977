/- What this text proves: the parts InS, RoM, WtS, DnS of the proof, each under its own words. -/
import Derived.Test.YtckofkdeedbbgaaNN02
import Derived.Test.YtckofkdeedbbgaaNN00
import Derived.LoopTactic
import Derived.Deep.LoopGhost
import Derived.BigQuiet
import Derived.BigRegion
import Derived.Outline
import Derived.Test.YtckofkdeedbbgaaNN06
import Derived.Test.YtckofkdeedbbgaaNN04
import Derived.Laws.Concat
import Derived.Deep.RegionLaw
/- What this text proves: lists of numbers somewhere in a block of the call's own: their cells; the laws' own comparison finds equal ones equal. -/
namespace Go.Proofs.Ytckofkdeedbbgaa
open Go.ChangeShapes Go.WideShapes Go.ChangeAt Go.RowKit
set_option linter.unusedVariables false


abbrev inC (i : Int) : List Value := [.int .i64 i]
abbrev OwnIn (w : World) (base : Nat) (v : Value) (l : List Int) : Prop := LsO 1 w base v (l.map inC)
theorem in_len (l : List Int) : ∀ x ∈ l.map inC, x.length = 1 := fun x hx => by obtain ⟨q, _, rfl⟩ := List.mem_map.1 hx; rfl
theorem in_one (l : List Int) : ∀ x ∈ l.map inC, ∀ u ∈ x, u.oneCell' = true := fun x hx u hu => by
  obtain ⟨q, _, rfl⟩ := List.mem_map.1 hx
  simp only [inC, List.mem_cons, List.not_mem_nil, or_false] at hu
  subst hu
  rfl
theorem in_flat (l : List Int) : (l.map inC).flatten = l.map (Value.int .i64) := by
  induction l with
  | nil => rfl
  | cons a r ih => rw [List.map_cons, List.flatten_cons, ih]; rfl
theorem OwnI.toR {w : World} {base : Nat} {v : Value} {l : List Int} (h : OwnI w base v l) : OwnR 3 1 w base v (l.map inC) := ⟨by rw [in_flat, List.length_map]; exact h, in_len l⟩
theorem OwnI.toO {w : World} {base : Nat} {v : Value} {l : List Int} (h : OwnI w base v l) : OwnIn w base v l := OwnR.toO h.toR
theorem inCells {w : World} {base g off N c : Nat} {l : List Int} (h : OwnIn w base (.slice (some ⟨g, off, none⟩) N c) l) (k : Nat) (hk : k < l.length) : w.cell? ⟨g, off + k, none⟩ = some (.int .i64 l[k]) := by
  have hc := (h.at rfl (by rw [List.length_map]; omega)).1
  have h0 := hc k (by rw [List.length_map]; exact hk) 0 (by decide)
  simp only [List.getElem_map, Nat.mul_one] at h0
  exact h0
theorem inCellsI {w : World} {B : Nat} {A : Option Addr} {l : List Int} (h : LsI 1 w B A (l.map inC)) (h0 : 0 < l.length) : ∃ b off, A = some ⟨b, off, none⟩ ∧ b < B ∧ ∀ k (hk : k < l.length), w.cell? ⟨b, off + k, none⟩ = some (.int .i64 l[k]) := by
  rcases h with h | ⟨b, off, hA, hb, hc⟩
  · rw [List.length_map] at h; omega
  · refine ⟨b, off, hA, hb, fun k hk => ?_⟩
    have h0 := hc k (by rw [List.length_map]; exact hk) 0 (by decide)
    simp only [List.getElem_map, Nat.mul_one] at h0
    exact h0
theorem OwnIn.nform {w : World} {base : Nat} {v : Value} {l : List Int} (h : OwnIn w base v l) : ∃ A c, v = .slice A l.length c := by
  obtain ⟨A, c, h1⟩ := LsO.form h
  exact ⟨A, c, by rw [h1, List.length_map]⟩

set_option maxHeartbeats 1000000 in
theorem eqIn_any (w : World) (b1 b2 : Nat) (v1 v2 : Value) (l : List Int) (hl : l.length ≤ 2000000) (h1 : OwnIn w b1 v1 l) (h2 : OwnIn w b2 v2 l) :
    Calls Try.prog 104 #[v1, v2] w fun e w' => e = .returned (.bool true) ∧ Below w.heap.size w w' := by
  obtain ⟨A1, c1, rfl⟩ := OwnIn.nform h1
  obtain ⟨A2, c2, rfl⟩ := OwnIn.nform h2
  rcases Nat.eq_zero_or_pos l.length with h0 | h0
  · rw [h0]
    go_enter Try.func104, Try.ntmps104
    go_wp2
    refine wp_loop_rounds 1 ?_
    rw [rounds_succ]
    go_wp2
    go_ret
    exact ⟨rfl, Below.refl _ _⟩
  · obtain ⟨g1, o1, ⟨d1, e1⟩, _, _⟩ := h1.rows (by rw [List.length_map]; exact h0)
    obtain ⟨g2, o2, ⟨d2, e2⟩, _, _⟩ := h2.rows (by rw [List.length_map]; exact h0)
    injection e1 with e1 e1b e1c
    injection e2 with e2 e2b e2c
    clear e1b e1c e2b e2c
    subst e1 e2
    have H1 := Lib.hid (fun k hk => inCells h1 k hk)
    have H2 := Lib.hid (fun k hk => inCells h2 k hk)
    clear h1 h2
    go_enter Try.func104, Try.ntmps104
    go_wp2
    go_loopw [5] (fun i wr => ∃ k : Nat, k ≤ l.length ∧ i = .int .i64 (k : Int) ∧ ∃ d, wr = w.drewN d) (fun i _ => l.length - (intOf i).toNat)
    case atStart => exact ⟨0, by omega, rfl, 0, rfl⟩
    case round =>
      obtain ⟨k, hk, rfl, d, rfl⟩ := hrel
      by_cases hlt : k < l.length
      · have hd : decide (k < l.length) = true := by simp; omega
        have e1 := H1.out k hlt
        have e2 := H2.out k hlt
        generalize l[k] = t at e1 e2
        go_wp2
        go_quiet (fail)
        go_wp2
        refine ⟨⟨k + 1, by omega, by go_num, _, rfl⟩, by simp [intOf]; omega⟩
      · have hd : decide (k < l.length) = false := by simp; omega
        clear hlt
        go_wp2
        go_ret
        exact ⟨rfl, below_draws (Below.refl _ _) d⟩
end Go.Proofs.Ytckofkdeedbbgaa
/- What this text proves: what makes a recorder valid, as a fact of its records and numbers; how far a loop over them has got. -/
namespace Go.Proofs.Ytckofkdeedbbgaa
open Go.ChangeShapes Go.WideShapes Go.ChangeAt Go.RowKit
set_option linter.unusedVariables false

abbrev roV (r : Int) (v u : Value) : Value := .agg #[.int .i64 r, v, u]
abbrev roL (r : Int) (v u : Value) : List Value := [.int .i64 r, v, u]
abbrev Cells3Q (W : World) (g : Nat) (x y z : Value) : Prop := W.cell? ⟨g, 0, none⟩ = some x ∧ W.cell? ⟨g, 1, none⟩ = some y ∧ W.cell? ⟨g, 2, none⟩ = some z
theorem Box.threeQ {W : World} {g : Nat} {x y z : Value} (h : Box W g [x, y, z]) : Cells3Q W g x y z := ⟨h.cell 0 (by simp), h.cell 1 (by simp), h.cell 2 (by simp)⟩
def RdC (p : Rc) : Prop := RdOk p.1 p.2.1 p.2.2.1 p.2.2.2
instance (p : Rc) : Decidable (RdC p) := by unfold RdC; infer_instance
/-- The Id of the record before the k-th; -1 before the first. -/
def befR (l : List Rc) : Nat → Int
  | 0 => -1
  | k + 1 => (l.getD k rc0).1
/-- The first k records are valid, with ascending Ids. -/
def UpTo (l : List Rc) (k : Nat) : Prop := ∀ j, j < k → RdC (l.getD j rc0) ∧ befR l j < (l.getD j rc0).1
theorem UpTo.zero (l : List Rc) : UpTo l 0 := fun j h => absurd h (Nat.not_lt_zero _)
theorem UpTo.succ {l : List Rc} {k : Nat} (h : UpTo l k) (h1 : RdC (l.getD k rc0)) (h2 : befR l k < (l.getD k rc0).1) : UpTo l (k + 1) := fun j hj => by
  rcases Nat.lt_or_ge j k with h3 | h3
  · exact h j h3
  · obtain rfl : j = k := by omega
    exact ⟨h1, h2⟩
/-- The bytes of the first k records. -/
def useR (l : List Rc) (k : Nat) : Nat := 6 * k + totRc l k
theorem useR_zero (l : List Rc) : useR l 0 = 0 := by simp [useR, totRc]
theorem useR_succ (l : List Rc) (k : Nat) : useR l (k + 1) = useR l k + (6 + (l.getD k rc0).2.2.2.size) := by simp only [useR, totRc]; omega
theorem useR_le (l : List Rc) {j k : Nat} (h : j ≤ k) : useR l j ≤ useR l k := by
  have := totRc_le l h
  unfold useR
  omega
/-- All numbers lie between two. -/
def Within (d : List Int) (a b : Int) : Prop := ∀ x ∈ d, a ≤ x ∧ x ≤ b
def RcrOk (r : Int) (l : List Rc) (d : List Int) : Prop := (0 ≤ r ∧ r ≤ 4000) ∧ UpTo l l.length ∧ (useR l l.length : Int) ≤ r ∧ d.length ≤ 65536 ∧ Within d 0 65535
noncomputable def rcrB (r : Int) (l : List Rc) (d : List Int) : Bool := @decide (RcrOk r l d) (Classical.propDecidable _)
theorem rcrB_yes {r : Int} {l : List Rc} {d : List Int} (h : RcrOk r l d) : rcrB r l d = true := by unfold rcrB; exact @decide_eq_true _ (Classical.propDecidable _) h
theorem rcrB_no {r : Int} {l : List Rc} {d : List Int} (h : ¬ RcrOk r l d) : rcrB r l d = false := by unfold rcrB; exact @decide_eq_false _ (Classical.propDecidable _) h
theorem rcrB_iff {r : Int} {l : List Rc} {d : List Int} : rcrB r l d = true ↔ RcrOk r l d := by
  by_cases h : RcrOk r l d
  · simp [rcrB_yes h, h]
  · simp [rcrB_no h, h]
noncomputable def upB (l : List Rc) : Bool := @decide (UpTo l l.length) (Classical.propDecidable _)
theorem upB_yes {l : List Rc} (h : UpTo l l.length) : upB l = true := by unfold upB; exact @decide_eq_true _ (Classical.propDecidable _) h
theorem upB_no {l : List Rc} (h : ¬ UpTo l l.length) : upB l = false := by unfold upB; exact @decide_eq_false _ (Classical.propDecidable _) h
noncomputable def winB (d : List Int) (a b : Int) : Bool := @decide (Within d a b) (Classical.propDecidable _)
theorem winB_yes {d : List Int} {a b : Int} (h : Within d a b) : winB d a b = true := by unfold winB; exact @decide_eq_true _ (Classical.propDecidable _) h
theorem winB_no {d : List Int} {a b : Int} (h : ¬ Within d a b) : winB d a b = false := by unfold winB; exact @decide_eq_false _ (Classical.propDecidable _) h
theorem within_all {d : List Int} {a b : Int} (h : ∀ k (hk : k < d.length), a ≤ d[k] ∧ d[k] ≤ b) : Within d a b := fun x hx => by
  obtain ⟨k, hk, rfl⟩ := List.mem_iff_getElem.1 hx
  exact h k hk
theorem within_at {d : List Int} {a b : Int} (h : Within d a b) (k : Nat) (hk : k < d.length) : a ≤ d[k] ∧ d[k] ≤ b := h _ (List.getElem_mem hk)
theorem upTo_at {l : List Rc} {n k : Nat} (h : UpTo l n) (hk : k < n) (hl : k < l.length) : RdC l[k] ∧ befR l k < l[k].1 := by
  have := h k hk
  rwa [getRc_at hl] at this
/-- What RoomLeft answers. -/
noncomputable def leftR (r : Int) (l : List Rc) (d : List Int) : Int := open Classical in if RcrOk r l d then r - ((useR l l.length : Nat) : Int) else 0
theorem leftR_yes {r : Int} {l : List Rc} {d : List Int} (h : RcrOk r l d) : leftR r l d = r - ((useR l l.length : Nat) : Int) := by unfold leftR; rw [if_pos h]
theorem leftR_no {r : Int} {l : List Rc} {d : List Int} (h : ¬ RcrOk r l d) : leftR r l d = 0 := by unfold leftR; rw [if_neg h]
end Go.Proofs.Ytckofkdeedbbgaa
/- What this text proves: lists of orders that wait somewhere in a block of the call's own: their cells; the laws' own comparison finds equal ones equal. -/
namespace Go.Proofs.Ytckofkdeedbbgaa
open Go.ChangeShapes Go.WideShapes Go.ChangeAt Go.RowKit
set_option linter.unusedVariables false


abbrev Wt := Int × Int × Int × Int × Int
abbrev wtC (p : Wt) : List Value := [.int .i64 p.1, .int .i64 p.2.1, .int .i64 p.2.2.1, .int .i64 p.2.2.2.1, .int .i64 p.2.2.2.2]
abbrev OwnWt (w : World) (base : Nat) (v : Value) (l : List Wt) : Prop := LsO 5 w base v (l.map wtC)
theorem info_wt : (Try.prog.info? 43).map (fun i => (i.zero, i.size, i.bytes)) = some (some (.agg #[.int .i64 0, .int .i64 0, .int .i64 0, .int .i64 0, .int .i64 0]), 5, 40) := by kernel_rfl
theorem wt_len (l : List Wt) : ∀ x ∈ l.map wtC, x.length = 5 := fun x hx => by obtain ⟨q, _, rfl⟩ := List.mem_map.1 hx; rfl
theorem wt_one (l : List Wt) : ∀ x ∈ l.map wtC, ∀ u ∈ x, u.oneCell' = true := fun x hx u hu => by
  obtain ⟨q, _, rfl⟩ := List.mem_map.1 hx
  simp only [wtC, List.mem_cons, List.not_mem_nil, or_false] at hu
  rcases hu with rfl | rfl | rfl | rfl | rfl <;> rfl
theorem wtCells {w : World} {base g off N c : Nat} {l : List Wt} (h : OwnWt w base (.slice (some ⟨g, off, none⟩) N c) l) (k : Nat) (hk : k < l.length) : w.cell? ⟨g, off + k * 5, none⟩ = some (.int .i64 l[k].1) ∧ w.cell? ⟨g, off + k * 5 + 1, none⟩ = some (.int .i64 l[k].2.1) ∧ w.cell? ⟨g, off + k * 5 + 2, none⟩ = some (.int .i64 l[k].2.2.1) ∧ w.cell? ⟨g, off + k * 5 + 3, none⟩ = some (.int .i64 l[k].2.2.2.1) ∧ w.cell? ⟨g, off + k * 5 + 4, none⟩ = some (.int .i64 l[k].2.2.2.2) := by
  have hc := (h.at rfl (by rw [List.length_map]; omega)).1
  have h0 := hc k (by rw [List.length_map]; exact hk) 0 (by decide)
  have h1 := hc k (by rw [List.length_map]; exact hk) 1 (by decide)
  have h2 := hc k (by rw [List.length_map]; exact hk) 2 (by decide)
  have h3 := hc k (by rw [List.length_map]; exact hk) 3 (by decide)
  have h4 := hc k (by rw [List.length_map]; exact hk) 4 (by decide)
  simp only [List.getElem_map] at h0 h1 h2 h3 h4
  exact ⟨h0, h1, h2, h3, h4⟩
theorem wtCellsI {w : World} {B b off : Nat} {A : Option Addr} {l : List Wt} (h : LsI 5 w B A (l.map wtC)) (h0 : 0 < l.length) : ∃ b off, A = some ⟨b, off, none⟩ ∧ b < B ∧ ∀ k (hk : k < l.length), w.cell? ⟨b, off + k * 5, none⟩ = some (.int .i64 l[k].1) ∧ w.cell? ⟨b, off + k * 5 + 1, none⟩ = some (.int .i64 l[k].2.1) ∧ w.cell? ⟨b, off + k * 5 + 2, none⟩ = some (.int .i64 l[k].2.2.1) ∧ w.cell? ⟨b, off + k * 5 + 3, none⟩ = some (.int .i64 l[k].2.2.2.1) ∧ w.cell? ⟨b, off + k * 5 + 4, none⟩ = some (.int .i64 l[k].2.2.2.2) := by
  rcases h with h | ⟨b, off, hA, hb, hc⟩
  · rw [List.length_map] at h; omega
  · refine ⟨b, off, hA, hb, fun k hk => ?_⟩
    have h0 := hc k (by rw [List.length_map]; exact hk) 0 (by decide)
    have h1 := hc k (by rw [List.length_map]; exact hk) 1 (by decide)
    have h2 := hc k (by rw [List.length_map]; exact hk) 2 (by decide)
    have h3 := hc k (by rw [List.length_map]; exact hk) 3 (by decide)
    have h4 := hc k (by rw [List.length_map]; exact hk) 4 (by decide)
    simp only [List.getElem_map] at h0 h1 h2 h3 h4
    exact ⟨h0, h1, h2, h3, h4⟩
theorem OwnWt.nform {w : World} {base : Nat} {v : Value} {l : List Wt} (h : OwnWt w base v l) : ∃ A c, v = .slice A l.length c := by
  obtain ⟨A, c, h1⟩ := LsO.form h
  exact ⟨A, c, by rw [h1, List.length_map]⟩

set_option maxHeartbeats 2000000 in
theorem eqWt_any (w : World) (b1 b2 : Nat) (v1 v2 : Value) (l : List Wt) (hl : l.length ≤ 2000000) (h1 : OwnWt w b1 v1 l) (h2 : OwnWt w b2 v2 l) :
    Calls Try.prog 111 #[v1, v2] w fun e w' => e = .returned (.bool true) ∧ Below w.heap.size w w' := by
  obtain ⟨A1, c1, rfl⟩ := OwnWt.nform h1
  obtain ⟨A2, c2, rfl⟩ := OwnWt.nform h2
  rcases Nat.eq_zero_or_pos l.length with h0 | h0
  · rw [h0]
    go_enter Try.func111, Try.ntmps111
    go_wp2
    refine wp_loop_rounds 1 ?_
    rw [rounds_succ]
    go_wp2
    go_ret
    exact ⟨rfl, Below.refl _ _⟩
  · obtain ⟨g1, o1, ⟨d1, e1⟩, _, _⟩ := h1.rows (by rw [List.length_map]; exact h0)
    obtain ⟨g2, o2, ⟨d2, e2⟩, _, _⟩ := h2.rows (by rw [List.length_map]; exact h0)
    injection e1 with e1 e1b e1c
    injection e2 with e2 e2b e2c
    clear e1b e1c e2b e2c
    subst e1 e2
    have hg1 := (h1.block rfl).2
    have hg2 := (h2.block rfl).2
    have H1 := Lib.hid (fun k hk => wtCells h1 k hk)
    have H2 := Lib.hid (fun k hk => wtCells h2 k hk)
    have HE := Lib.hid (fun x0 x1 x2 x3 x4 W => eq_wt x0 x1 x2 x3 x4 W)
    clear h1 h2
    go_enter Try.func111, Try.ntmps111
    go_wp2
    go_loopg [5] l.length (fun g v5 wx => ∃ k : Nat, k ≤ l.length ∧ g = l.length - k ∧ v5 = .int .i64 (k : Int) ∧ Below w.heap.size w wx)
    case atStart => exact ⟨0, by omega, rfl, rfl, Below.refl _ _⟩
    case round =>
      obtain ⟨k, hk, rfl, rfl, hbel⟩ := hrel
      have HB := Lib.hid hbel
      by_cases hlt : k < l.length
      · have hd : decide (k < l.length) = true := by simp; omega
        obtain ⟨x0, x1, x2, x3, x4⟩ := H1.out k hlt
        obtain ⟨y0, y1, y2, y3, y4⟩ := H2.out k hlt
        have cx0 := (hbel.cell (p := ⟨g1, o1 + k * 5, none⟩) hg1).trans x0
        have cx1 := (hbel.cell (p := ⟨g1, o1 + k * 5 + 1, none⟩) hg1).trans x1
        have cx2 := (hbel.cell (p := ⟨g1, o1 + k * 5 + 2, none⟩) hg1).trans x2
        have cx3 := (hbel.cell (p := ⟨g1, o1 + k * 5 + 3, none⟩) hg1).trans x3
        have cx4 := (hbel.cell (p := ⟨g1, o1 + k * 5 + 4, none⟩) hg1).trans x4
        have cy0 := (hbel.cell (p := ⟨g2, o2 + k * 5, none⟩) hg2).trans y0
        have cy1 := (hbel.cell (p := ⟨g2, o2 + k * 5 + 1, none⟩) hg2).trans y1
        have cy2 := (hbel.cell (p := ⟨g2, o2 + k * 5 + 2, none⟩) hg2).trans y2
        have cy3 := (hbel.cell (p := ⟨g2, o2 + k * 5 + 3, none⟩) hg2).trans y3
        have cy4 := (hbel.cell (p := ⟨g2, o2 + k * 5 + 4, none⟩) hg2).trans y4
        clear x0 x1 x2 x3 x4 y0 y1 y2 y3 y4 hbel
        generalize l[k].1 = a0 at *
        generalize l[k].2.1 = a1 at *
        generalize l[k].2.2.1 = a2 at *
        generalize l[k].2.2.2.1 = a3 at *
        generalize l[k].2.2.2.2 = a4 at *
        go_wp2
        go_region_law ((go_simp; go_at_call 152; (with_reducible refine (HE.out _ _ _ _ _ _).mono ?_); rintro e w2 ⟨rfl, hb2⟩))
        all_goals go_wp2
        all_goals
          go_roundg (l.length - (k + 1))
          case measure => omega
          case rel => exact ⟨k + 1, by omega, rfl, by go_num, HB.out.drew.trans (hb2.mono HB.out.drew.size)⟩
      · have hd : decide (k < l.length) = false := by simp; omega
        clear hlt
        go_wp2
        go_ret
        exact ⟨rfl, HB.out⟩
end Go.Proofs.Ytckofkdeedbbgaa
/- What this text proves: lists of orders that are done somewhere in a block of the call's own: their cells; the laws' own comparison finds equal ones equal. -/
namespace Go.Proofs.Ytckofkdeedbbgaa
open Go.ChangeShapes Go.WideShapes Go.ChangeAt Go.RowKit
set_option linter.unusedVariables false


abbrev Dn := Int × Int × Int
abbrev dnC (p : Dn) : List Value := [.int .i64 p.1, .int .i64 p.2.1, .int .i64 p.2.2]
abbrev OwnDn (w : World) (base : Nat) (v : Value) (l : List Dn) : Prop := LsO 3 w base v (l.map dnC)
theorem info_dn : (Try.prog.info? 45).map (fun i => (i.zero, i.size, i.bytes)) = some (some (.agg #[.int .i64 0, .int .i64 0, .int .i64 0]), 3, 24) := by kernel_rfl
theorem dn_len (l : List Dn) : ∀ x ∈ l.map dnC, x.length = 3 := fun x hx => by obtain ⟨q, _, rfl⟩ := List.mem_map.1 hx; rfl
theorem dn_one (l : List Dn) : ∀ x ∈ l.map dnC, ∀ u ∈ x, u.oneCell' = true := fun x hx u hu => by
  obtain ⟨q, _, rfl⟩ := List.mem_map.1 hx
  simp only [dnC, List.mem_cons, List.not_mem_nil, or_false] at hu
  rcases hu with rfl | rfl | rfl <;> rfl
theorem dnCells {w : World} {base g off N c : Nat} {l : List Dn} (h : OwnDn w base (.slice (some ⟨g, off, none⟩) N c) l) (k : Nat) (hk : k < l.length) : w.cell? ⟨g, off + k * 3, none⟩ = some (.int .i64 l[k].1) ∧ w.cell? ⟨g, off + k * 3 + 1, none⟩ = some (.int .i64 l[k].2.1) ∧ w.cell? ⟨g, off + k * 3 + 2, none⟩ = some (.int .i64 l[k].2.2) := by
  have hc := (h.at rfl (by rw [List.length_map]; omega)).1
  have h0 := hc k (by rw [List.length_map]; exact hk) 0 (by decide)
  have h1 := hc k (by rw [List.length_map]; exact hk) 1 (by decide)
  have h2 := hc k (by rw [List.length_map]; exact hk) 2 (by decide)
  simp only [List.getElem_map] at h0 h1 h2
  exact ⟨h0, h1, h2⟩
theorem dnCellsI {w : World} {B b off : Nat} {A : Option Addr} {l : List Dn} (h : LsI 3 w B A (l.map dnC)) (h0 : 0 < l.length) : ∃ b off, A = some ⟨b, off, none⟩ ∧ b < B ∧ ∀ k (hk : k < l.length), w.cell? ⟨b, off + k * 3, none⟩ = some (.int .i64 l[k].1) ∧ w.cell? ⟨b, off + k * 3 + 1, none⟩ = some (.int .i64 l[k].2.1) ∧ w.cell? ⟨b, off + k * 3 + 2, none⟩ = some (.int .i64 l[k].2.2) := by
  rcases h with h | ⟨b, off, hA, hb, hc⟩
  · rw [List.length_map] at h; omega
  · refine ⟨b, off, hA, hb, fun k hk => ?_⟩
    have h0 := hc k (by rw [List.length_map]; exact hk) 0 (by decide)
    have h1 := hc k (by rw [List.length_map]; exact hk) 1 (by decide)
    have h2 := hc k (by rw [List.length_map]; exact hk) 2 (by decide)
    simp only [List.getElem_map] at h0 h1 h2
    exact ⟨h0, h1, h2⟩
theorem OwnDn.nform {w : World} {base : Nat} {v : Value} {l : List Dn} (h : OwnDn w base v l) : ∃ A c, v = .slice A l.length c := by
  obtain ⟨A, c, h1⟩ := LsO.form h
  exact ⟨A, c, by rw [h1, List.length_map]⟩

set_option maxHeartbeats 2000000 in
theorem eqDn_any (w : World) (b1 b2 : Nat) (v1 v2 : Value) (l : List Dn) (hl : l.length ≤ 2000000) (h1 : OwnDn w b1 v1 l) (h2 : OwnDn w b2 v2 l) :
    Calls Try.prog 112 #[v1, v2] w fun e w' => e = .returned (.bool true) ∧ Below w.heap.size w w' := by
  obtain ⟨A1, c1, rfl⟩ := OwnDn.nform h1
  obtain ⟨A2, c2, rfl⟩ := OwnDn.nform h2
  rcases Nat.eq_zero_or_pos l.length with h0 | h0
  · rw [h0]
    go_enter Try.func112, Try.ntmps112
    go_wp2
    refine wp_loop_rounds 1 ?_
    rw [rounds_succ]
    go_wp2
    go_ret
    exact ⟨rfl, Below.refl _ _⟩
  · obtain ⟨g1, o1, ⟨d1, e1⟩, _, _⟩ := h1.rows (by rw [List.length_map]; exact h0)
    obtain ⟨g2, o2, ⟨d2, e2⟩, _, _⟩ := h2.rows (by rw [List.length_map]; exact h0)
    injection e1 with e1 e1b e1c
    injection e2 with e2 e2b e2c
    clear e1b e1c e2b e2c
    subst e1 e2
    have hg1 := (h1.block rfl).2
    have hg2 := (h2.block rfl).2
    have H1 := Lib.hid (fun k hk => dnCells h1 k hk)
    have H2 := Lib.hid (fun k hk => dnCells h2 k hk)
    have HE := Lib.hid (fun x0 x1 x2 W => eq_dn x0 x1 x2 W)
    clear h1 h2
    go_enter Try.func112, Try.ntmps112
    go_wp2
    go_loopg [5] l.length (fun g v5 wx => ∃ k : Nat, k ≤ l.length ∧ g = l.length - k ∧ v5 = .int .i64 (k : Int) ∧ Below w.heap.size w wx)
    case atStart => exact ⟨0, by omega, rfl, rfl, Below.refl _ _⟩
    case round =>
      obtain ⟨k, hk, rfl, rfl, hbel⟩ := hrel
      have HB := Lib.hid hbel
      by_cases hlt : k < l.length
      · have hd : decide (k < l.length) = true := by simp; omega
        obtain ⟨x0, x1, x2⟩ := H1.out k hlt
        obtain ⟨y0, y1, y2⟩ := H2.out k hlt
        have cx0 := (hbel.cell (p := ⟨g1, o1 + k * 3, none⟩) hg1).trans x0
        have cx1 := (hbel.cell (p := ⟨g1, o1 + k * 3 + 1, none⟩) hg1).trans x1
        have cx2 := (hbel.cell (p := ⟨g1, o1 + k * 3 + 2, none⟩) hg1).trans x2
        have cy0 := (hbel.cell (p := ⟨g2, o2 + k * 3, none⟩) hg2).trans y0
        have cy1 := (hbel.cell (p := ⟨g2, o2 + k * 3 + 1, none⟩) hg2).trans y1
        have cy2 := (hbel.cell (p := ⟨g2, o2 + k * 3 + 2, none⟩) hg2).trans y2
        clear x0 x1 x2 y0 y1 y2 hbel
        generalize l[k].1 = a0 at *
        generalize l[k].2.1 = a1 at *
        generalize l[k].2.2 = a2 at *
        go_wp2
        go_region_law ((go_simp; go_at_call 153; (with_reducible refine (HE.out _ _ _ _).mono ?_); rintro e w2 ⟨rfl, hb2⟩))
        all_goals go_wp2
        all_goals
          go_roundg (l.length - (k + 1))
          case measure => omega
          case rel => exact ⟨k + 1, by omega, rfl, by go_num, HB.out.drew.trans (hb2.mono HB.out.drew.size)⟩
      · have hd : decide (k < l.length) = false := by simp; omega
        clear hlt
        go_wp2
        go_ret
        exact ⟨rfl, HB.out⟩
end Go.Proofs.Ytckofkdeedbbgaa
