/- What this text proves: lists of requests somewhere in a block of the call's own: their cells; the laws' own comparison finds equal ones equal. -/
import Derived.Test.YtdfcamlnebcbpacLs
import Derived.Test.YtdfcamlnebcbpacEl8
import Derived.Laws.Concat
import Derived.Deep.RegionLaw
import Derived.Deep.LoopGhost
import Derived.BigRegion
import Derived.Outline
namespace Go.Proofs.Ytdfcamlnebcbpac
open Go.ChangeShapes Go.WideShapes Go.ChangeAt Go.RowKit
set_option linter.unusedVariables false


abbrev Rq := Int × Int × Int × Int
abbrev rqC (p : Rq) : List Value := [.int .i64 p.1, .int .i64 p.2.1, .int .i64 p.2.2.1, .int .i64 p.2.2.2]
abbrev OwnRq (w : World) (base : Nat) (v : Value) (l : List Rq) : Prop := LsO 4 w base v (l.map rqC)
theorem info_rq : (Try.prog.info? 80).map (fun i => (i.zero, i.size, i.bytes)) = some (some (.agg #[.int .i64 0, .int .i64 0, .int .i64 0, .int .i64 0]), 4, 32) := by kernel_rfl
theorem rq_len (l : List Rq) : ∀ x ∈ l.map rqC, x.length = 4 := fun x hx => by obtain ⟨q, _, rfl⟩ := List.mem_map.1 hx; rfl
theorem rq_one (l : List Rq) : ∀ x ∈ l.map rqC, ∀ u ∈ x, u.oneCell' = true := fun x hx u hu => by
  obtain ⟨q, _, rfl⟩ := List.mem_map.1 hx
  simp only [rqC, List.mem_cons, List.not_mem_nil, or_false] at hu
  rcases hu with rfl | rfl | rfl | rfl <;> rfl
theorem rqCells {w : World} {base g off N c : Nat} {l : List Rq} (h : OwnRq w base (.slice (some ⟨g, off, none⟩) N c) l) (k : Nat) (hk : k < l.length) : w.cell? ⟨g, off + k * 4, none⟩ = some (.int .i64 l[k].1) ∧ w.cell? ⟨g, off + k * 4 + 1, none⟩ = some (.int .i64 l[k].2.1) ∧ w.cell? ⟨g, off + k * 4 + 2, none⟩ = some (.int .i64 l[k].2.2.1) ∧ w.cell? ⟨g, off + k * 4 + 3, none⟩ = some (.int .i64 l[k].2.2.2) := by
  have hc := (h.at rfl (by rw [List.length_map]; omega)).1
  have h0 := hc k (by rw [List.length_map]; exact hk) 0 (by decide)
  have h1 := hc k (by rw [List.length_map]; exact hk) 1 (by decide)
  have h2 := hc k (by rw [List.length_map]; exact hk) 2 (by decide)
  have h3 := hc k (by rw [List.length_map]; exact hk) 3 (by decide)
  simp only [List.getElem_map] at h0 h1 h2 h3
  exact ⟨h0, h1, h2, h3⟩
theorem rqCellsI {w : World} {B b off : Nat} {A : Option Addr} {l : List Rq} (h : LsI 4 w B A (l.map rqC)) (h0 : 0 < l.length) : ∃ b off, A = some ⟨b, off, none⟩ ∧ b < B ∧ ∀ k (hk : k < l.length), w.cell? ⟨b, off + k * 4, none⟩ = some (.int .i64 l[k].1) ∧ w.cell? ⟨b, off + k * 4 + 1, none⟩ = some (.int .i64 l[k].2.1) ∧ w.cell? ⟨b, off + k * 4 + 2, none⟩ = some (.int .i64 l[k].2.2.1) ∧ w.cell? ⟨b, off + k * 4 + 3, none⟩ = some (.int .i64 l[k].2.2.2) := by
  rcases h with h | ⟨b, off, hA, hb, hc⟩
  · rw [List.length_map] at h; omega
  · refine ⟨b, off, hA, hb, fun k hk => ?_⟩
    have h0 := hc k (by rw [List.length_map]; exact hk) 0 (by decide)
    have h1 := hc k (by rw [List.length_map]; exact hk) 1 (by decide)
    have h2 := hc k (by rw [List.length_map]; exact hk) 2 (by decide)
    have h3 := hc k (by rw [List.length_map]; exact hk) 3 (by decide)
    simp only [List.getElem_map] at h0 h1 h2 h3
    exact ⟨h0, h1, h2, h3⟩
theorem OwnRq.nform {w : World} {base : Nat} {v : Value} {l : List Rq} (h : OwnRq w base v l) : ∃ A c, v = .slice A l.length c := by
  obtain ⟨A, c, h1⟩ := LsO.form h
  exact ⟨A, c, by rw [h1, List.length_map]⟩

set_option maxHeartbeats 2000000 in
theorem eqRq_any (w : World) (b1 b2 : Nat) (v1 v2 : Value) (l : List Rq) (hl : l.length ≤ 2000000) (h1 : OwnRq w b1 v1 l) (h2 : OwnRq w b2 v2 l) :
    Calls Try.prog 15 #[v1, v2] w fun e w' => e = .returned (.bool true) ∧ Below w.heap.size w w' := by
  obtain ⟨A1, c1, rfl⟩ := OwnRq.nform h1
  obtain ⟨A2, c2, rfl⟩ := OwnRq.nform h2
  rcases Nat.eq_zero_or_pos l.length with h0 | h0
  · rw [h0]
    go_enter Try.func15, Try.ntmps15
    go_wp2
    refine wp_loop_rounds 1 ?_
    rw [rounds_succ]
    go_wp2
    go_ret
    exact ⟨rfl, Below.refl _ _⟩
  · obtain ⟨g1, o1, ⟨d1, e1⟩, _, _⟩ := h1.rows (by rw [List.length_map]; exact h0)
    obtain ⟨g2, o2, ⟨d2, e2⟩, _, _⟩ := h2.rows (by rw [List.length_map]; exact h0)
    injection e1 with e1 e1b e1c
    injection e2 with e2 e2b e2c
    clear e1b e1c e2b e2c
    subst e1 e2
    have hg1 := (h1.block rfl).2
    have hg2 := (h2.block rfl).2
    have H1 := Lib.hid (fun k hk => rqCells h1 k hk)
    have H2 := Lib.hid (fun k hk => rqCells h2 k hk)
    have HE := Lib.hid (fun x0 x1 x2 x3 W => eq_rq x0 x1 x2 x3 W)
    clear h1 h2
    go_enter Try.func15, Try.ntmps15
    go_wp2
    go_loopg [5] l.length (fun g v5 wx => ∃ k : Nat, k ≤ l.length ∧ g = l.length - k ∧ v5 = .int .i64 (k : Int) ∧ Below w.heap.size w wx)
    case atStart => exact ⟨0, by omega, rfl, rfl, Below.refl _ _⟩
    case round =>
      obtain ⟨k, hk, rfl, rfl, hbel⟩ := hrel
      have HB := Lib.hid hbel
      by_cases hlt : k < l.length
      · have hd : decide (k < l.length) = true := by simp; omega
        obtain ⟨x0, x1, x2, x3⟩ := H1.out k hlt
        obtain ⟨y0, y1, y2, y3⟩ := H2.out k hlt
        have cx0 := (hbel.cell (p := ⟨g1, o1 + k * 4, none⟩) hg1).trans x0
        have cx1 := (hbel.cell (p := ⟨g1, o1 + k * 4 + 1, none⟩) hg1).trans x1
        have cx2 := (hbel.cell (p := ⟨g1, o1 + k * 4 + 2, none⟩) hg1).trans x2
        have cx3 := (hbel.cell (p := ⟨g1, o1 + k * 4 + 3, none⟩) hg1).trans x3
        have cy0 := (hbel.cell (p := ⟨g2, o2 + k * 4, none⟩) hg2).trans y0
        have cy1 := (hbel.cell (p := ⟨g2, o2 + k * 4 + 1, none⟩) hg2).trans y1
        have cy2 := (hbel.cell (p := ⟨g2, o2 + k * 4 + 2, none⟩) hg2).trans y2
        have cy3 := (hbel.cell (p := ⟨g2, o2 + k * 4 + 3, none⟩) hg2).trans y3
        clear x0 x1 x2 x3 y0 y1 y2 y3 hbel
        generalize l[k].1 = a0 at *
        generalize l[k].2.1 = a1 at *
        generalize l[k].2.2.1 = a2 at *
        generalize l[k].2.2.2 = a3 at *
        go_wp2
        go_region_law ((go_simp; go_at_call 51; (with_reducible refine (HE.out _ _ _ _ _).mono ?_); rintro e w2 ⟨rfl, hb2⟩))
        all_goals go_wp2
        all_goals
          go_roundg (l.length - (k + 1))
          case measure => omega
          case rel => exact ⟨k + 1, by omega, rfl, by go_num, HB.out.drew.trans (hb2.mono HB.out.drew.size)⟩
      · have hd : decide (k < l.length) = false := by simp; omega
        clear hlt
        go_wp2
        go_ret
        exact ⟨rfl, HB.out⟩
end Go.Proofs.Ytdfcamlnebcbpac
