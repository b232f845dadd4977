/- What this text proves: a number that is picked out of a list is one of its numbers, and a drawn number is an int. -/
import Derived.Test.YtkgpjfemlgocoaaDoorNew
namespace Go.Proofs.YtkgpjfemlgocoaaDoor
open Go.ChangeShapes Go.WideShapes Go.ChangeAt Go.RowKit
set_option linter.unusedVariables false

/-- An int. -/
def IntRes (g : Nat) (w : World) (e : Ending) (w' : World) : Prop := ∃ x : Int, (-9223372036854775808 ≤ x ∧ x ≤ 9223372036854775807) ∧ e = .returned (.int .i64 x) ∧ CurB w' g ∧ w.grownBy w' (some g)

set_option maxHeartbeats 1000000 in
theorem pick_any (w : World) (g b n c : Nat) (f : Nat → Int) (hf : ∀ j, -9223372036854775808 ≤ f j ∧ f j ≤ 9223372036854775807) (hn0 : 0 < n) (hn : n ≤ 1000) (hb : b < w.heap.size) (hbg : b ≠ g)
    (hcell : ∀ j, j < n → w.cell? ⟨b, j, none⟩ = some (.int .i64 (f j))) (hcur : CurB w g) :
    Calls Tryd.prog 38 #[.pointer (some ⟨g, 0, none⟩), .slice (some ⟨b, 0, none⟩) n c] w (IntRes g w) := by
  have Hf := Lib.hid hf
  have Hc := Lib.hid hcell
  clear hf hcell
  go_enter Tryd.func38, Tryd.ntmps38
  go_wp2_with fail
  refine (below_any _ g n (by omega) hcur).mono ?_
  rintro e w1 ⟨x, hx0, hx1, hx2, rfl, hc1, hg1⟩
  have hx3 := hx1 (by omega)
  clear hx1 hx2
  obtain ⟨j, rfl⟩ := Int.eq_ofNat_of_zero_le hx0
  have hj : j < n := by omega
  have cj : w1.cell? ⟨b, j, none⟩ = some (.int .i64 (f j)) := hg1.cell (Hc.out j hj) (fun e => by injection e with e; exact hbg e)
  go_wp2
  go_ret
  exact ⟨f j, Hf.out j, rfl, hc1, hg1⟩

def nums : List Int := [-1, 0, 127, 128, 16383, 16384, 1000000000, 1000000001, 9223372036854775807, -9223372036854775808]
theorem nums_ok (j : Nat) : -9223372036854775808 ≤ nums.getD j 0 ∧ nums.getD j 0 ≤ 9223372036854775807 := by
  by_cases h : j < 10
  · have : ∀ k : Fin 10, -9223372036854775808 ≤ nums.getD k.val 0 ∧ nums.getD k.val 0 ≤ 9223372036854775807 := by decide +kernel
    exact this ⟨j, h⟩
  · rw [List.getD_eq_getElem?_getD, List.getElem?_eq_none (by show 10 ≤ j; omega)]
    decide

set_option maxHeartbeats 1000000 in
theorem number_any (w : World) (g : Nat) (hcur : CurB w g) : Calls Tryd.prog 30 #[.pointer (some ⟨g, 0, none⟩)] w (IntRes g w) := by
  go_enter Tryd.func30, Tryd.ntmps30
  go_wp2_with fail
  refine (below_any _ g 4 (by decide) hcur).mono ?_
  rintro e w1 ⟨x, hx0, hx1, hx2, rfl, hc1, hg1⟩
  clear hx1 hx2
  by_cases h0 : x = 0
  · subst h0
    go_wp2_with fail
    have hlt := hc1.lt
    have hcur2 : CurB (w1.alloc (.cells (nums.map (Value.int .i64)).toArray 3)) g := hc1.more ((Below.refl w1.heap.size w1).alloc (Nat.le_refl _) _) hlt
    have hcells : ∀ j, j < 10 → (w1.alloc (.cells (nums.map (Value.int .i64)).toArray 3)).cell? ⟨w1.heap.size, j, none⟩ = some (.int .i64 (nums.getD j 0)) := fun j hj => by
      rw [World.cell?_alloc_at _ _ _ _ rfl]
      have hl : j < nums.length := hj
      simp [List.getD_eq_getElem?_getD, List.getElem?_eq_getElem hl]
    refine (pick_any _ g w1.heap.size 10 10 (fun j => nums.getD j 0) nums_ok (by decide) (by decide) (by simp) (by omega) hcells hcur2).mono ?_
    rintro e w2 ⟨y, hy, rfl, hc2, hg2⟩
    go_wp2
    go_ret
    exact ⟨y, hy, rfl, hc2, grown_trans (grown_trans hg1 (World.grownBy_alloc w1 _ _)) hg2⟩
  · have hd0 : (x == 0) = false := by simpa using h0
    by_cases h1 : x = 1
    · have hd1 : (x == 1) = true := by simpa using h1
      clear h0 h1
      go_wp2_with fail
      refine (below_any _ g 1000000000 (by decide) hc1).mono ?_
      rintro e w2 ⟨y, hy0, hy1, hy2, rfl, hc2, hg2⟩
      have hy3 := hy1 (by decide)
      clear hy1 hy2
      go_wp2
      go_ret
      exact ⟨y, ⟨by omega, by omega⟩, rfl, hc2, grown_trans hg1 hg2⟩
    · have hd1 : (x == 1) = false := by simpa using h1
      clear h0 h1
      go_wp2_with fail
      refine (below_any _ g 400 (by decide) hc1).mono ?_
      rintro e w2 ⟨y, hy0, hy1, hy2, rfl, hc2, hg2⟩
      have hy3 := hy1 (by decide)
      clear hy1 hy2
      go_wp2
      go_ret
      exact ⟨y, ⟨by omega, by omega⟩, rfl, hc2, grown_trans hg1 hg2⟩
end Go.Proofs.YtkgpjfemlgocoaaDoor
