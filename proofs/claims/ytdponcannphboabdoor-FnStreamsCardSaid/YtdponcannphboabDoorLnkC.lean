/- What this text proves: the contract of the program's table of code words, where the four words of the numbers with one bit are what the row lists. -/
import Derived.Test.YtdponcannphboabDoorLnkE
import Derived.Lib.LaidTab
import Derived.Lib.SmallJoins
import Derived.RegionTactic
import Derived.BigRegion
import Derived.Outline
import Derived.Deep.LoopGhost
namespace Go.Proofs.YtdponcannphboabDoor
open Go.ChangeShapes Go.WideShapes Go.ChangeAt Go.RowKit
set_option linter.unusedVariables false

/-- The words of 1, 2, 4 and 8. -/
def bitW : List Int := [135, 153, 170, 75]
def BitW (w : World) : Prop := Lib.TabIs Tryd.prog w "loop.example/g03316/impl.bitWords" .i64 bitW
theorem bit_laid {w : World} {r : List (String × DataW Unit)} (h : laidMet Tryd.prog (("loop.example/g03316/impl.bitWords", Rows.laid_loop_example_g03316_impl_bitWords) :: r) w) : BitW w := by
  rw [show (Rows.laid_loop_example_g03316_impl_bitWords (H := Unit)) = Lib.tabData .i64 bitW from rfl] at h
  exact Lib.tabIs_of_head (show Tryd.prog.globalNamed "loop.example/g03316/impl.bitWords" = some 0 by kernel_rfl) (show (Tryd.prog.globals[0]?).map (·.type) = some 75 by kernel_rfl) Tryd.underlying75 Tryd.underlying3 (by kernel_rfl) (by kernel_rfl) h
theorem BitW.more {w w' : World} (h : BitW w) (hb : Below w.heap.size w w') : BitW w' :=
  Joins.tab_stays (show Tryd.prog.globalNamed "loop.example/g03316/impl.bitWords" = some 0 by kernel_rfl) h hb (Nat.le_refl _)
theorem BitW.cell {w : World} (h : BitW w) (i : Nat) (hi : i < 4) : w.cell? ⟨0, i, none⟩ = some (.int .i64 (bitW.getD i 0)) := by
  have := Lib.TabIs.cell h (show Tryd.prog.globalNamed "loop.example/g03316/impl.bitWords" = some 0 by kernel_rfl) i hi
  exact this

theorem BitW.two {w : World} (h : BitW w) (i : Nat) (hi : i < 4) (o1 o2 : Obj) : ((w.alloc o1).alloc o2).cell? ⟨0, i, none⟩ = some (.int .i64 (bitW.getD i 0)) :=
  (h.more (((Below.refl _ _).alloc (Nat.le_refl _) o1).alloc (by simp) o2)).cell i hi

/-- What a place of the table holds when the first c places are filled. -/
def wrdC (c i : Nat) : Int := if i < c then (encN i : Int) else 0
theorem wrd_step (b n : Nat) (hb : b < 4) (hn : n < 2 ^ b) : bits .xor .i64 (wrdC (2 ^ b + n) n) (bitW.getD b 0) = (encN (2 ^ b + n) : Int) := by
  have : ∀ x : Fin 4, ∀ y : Fin 8, y.val < 2 ^ x.val → bits .xor .i64 (wrdC (2 ^ x.val + y.val) y.val) (bitW.getD x.val 0) = (encN (2 ^ x.val + y.val) : Int) := by decide +kernel
  have h8 : n < 8 := Nat.lt_of_lt_of_le hn (Nat.pow_le_pow_right (n := 2) (by decide) (show b ≤ 3 by omega))
  exact this ⟨b, hb⟩ ⟨n, h8⟩ hn
theorem or_step (b n : Nat) (hb : b < 4) (hn : n < 2 ^ b) : bits .or .i64 ((2 ^ b : Nat) : Int) (n : Int) = ((2 ^ b + n : Nat) : Int) := by
  have : ∀ x : Fin 4, ∀ y : Fin 8, y.val < 2 ^ x.val → bits .or .i64 ((2 ^ x.val : Nat) : Int) (y.val : Int) = ((2 ^ x.val + y.val : Nat) : Int) := by decide +kernel
  have h8 : n < 8 := Nat.lt_of_lt_of_le hn (Nat.pow_le_pow_right (n := 2) (by decide) (show b ≤ 3 by omega))
  exact this ⟨b, hb⟩ ⟨n, h8⟩ hn
theorem wrd_first : encN 0 = 0 := by decide +kernel

theorem bit_at (b : Nat) (hb : b < 4) (W : World) : (Instr.index 75 (.agg #[.int .i64 135, .int .i64 153, .int .i64 170, .int .i64 75]) (.int .i64 (b : Int))).run Tryd.prog W = .ok (.int .i64 (bitW.getD b 0)) W := by
  obtain rfl | rfl | rfl | rfl : b = 0 ∨ b = 1 ∨ b = 2 ∨ b = 3 := by omega
  all_goals rfl
/-- The table that is being filled, in the block g. -/
def WrdB (w : World) (g c : Nat) : Prop := ∀ i, i < 16 → w.cell? ⟨g, i, none⟩ = some (.int .i64 (wrdC c i)) ∧ w.frozen? ⟨g, i, none⟩ = false
def wrdA : Array Value := ((List.range 16).map fun i => Value.int .i64 (encN i : Int)).toArray

theorem WrdB.start (W : World) : WrdB (W.alloc (.cells (Array.replicate 16 (.int .i64 0)) 73)) W.heap.size 1 := by
  intro i hi
  refine ⟨?_, ?_⟩
  · rw [World.cell?_alloc_at _ _ _ _ rfl]
    unfold wrdC
    by_cases h : i < 1
    · obtain rfl : i = 0 := by omega
      rw [if_pos (by decide), wrd_first]
      rfl
    · rw [if_neg h]
      simp [hi]
  · rw [World.frozen?, heap_alloc_new]
    simp
theorem WrdB.zero (W : World) : WrdB (W.alloc (.cells (Array.replicate 16 (.int .i64 0)) 73)) W.heap.size 0 := by
  intro i hi
  refine ⟨?_, ((WrdB.start W) i hi).2⟩
  rw [World.cell?_alloc_at _ _ _ _ rfl]
  unfold wrdC
  rw [if_neg (by omega)]
  simp [hi]
theorem WrdB.other {w w' : World} {g c : Nat} (h : WrdB w g c) (hb : Below (g + 1) w w') : WrdB w' g c := fun i hi =>
  ⟨(hb.cell (p := ⟨g, i, none⟩) (by simp)).trans (h i hi).1, (hb.frozen (p := ⟨g, i, none⟩) (by simp)).trans (h i hi).2⟩

theorem WrdB.step {w : World} {g c : Nat} (h : WrdB w g c) (hc : c < 16) (E : Nat) (hE : E = encN c) : WrdB ((w.setCell ⟨g, c, none⟩ (.int .i64 (E : Int))).drew) g (c + 1) := by
  intro i hi
  show (w.setCell ⟨g, c, none⟩ (.int .i64 (E : Int))).cell? ⟨g, i, none⟩ = _ ∧ (w.setCell ⟨g, c, none⟩ (.int .i64 (E : Int))).frozen? ⟨g, i, none⟩ = false
  refine ⟨?_, by rw [World.frozen?_setCell]; exact (h i hi).2⟩
  by_cases e : i = c
  · subst e
    rw [World.cell?_setCell_same' _ _ _ (by rw [(h i hi).1]; rfl), hE]
    unfold wrdC
    rw [if_pos (by omega)]
  · rw [World.cell?_setCell_other _ ⟨g, c, none⟩ ⟨g, i, none⟩ _ (fun h => e (by injection h with _ h2 _; exact h2.symm)), (h i hi).1]
    unfold wrdC
    congr 2
    by_cases hlt : i < c
    · rw [if_pos hlt, if_pos (by omega)]
    · rw [if_neg hlt, if_neg (by omega)]
theorem WrdB.other_block {w : World} {g c : Nat} (h : WrdB w g c) {g' j : Nat} (hg : g ≠ g') (v : Value) : WrdB ((w.setCell ⟨g', j, none⟩ v).drew) g c := by
  intro i hi
  show (w.setCell ⟨g', j, none⟩ v).cell? ⟨g, i, none⟩ = _ ∧ (w.setCell ⟨g', j, none⟩ v).frozen? ⟨g, i, none⟩ = false
  refine ⟨?_, by rw [World.frozen?_setCell]; exact (h i hi).2⟩
  rw [World.cell?_setCell_other _ ⟨g', j, none⟩ ⟨g, i, none⟩ _ (fun h => hg (by injection h with h1 _ _; exact h1.symm))]
  exact (h i hi).1

def wrdL : List Value := [.int .i64 (wrdC 16 0), .int .i64 (wrdC 16 1), .int .i64 (wrdC 16 2), .int .i64 (wrdC 16 3), .int .i64 (wrdC 16 4), .int .i64 (wrdC 16 5), .int .i64 (wrdC 16 6), .int .i64 (wrdC 16 7), .int .i64 (wrdC 16 8), .int .i64 (wrdC 16 9), .int .i64 (wrdC 16 10), .int .i64 (wrdC 16 11), .int .i64 (wrdC 16 12), .int .i64 (wrdC 16 13), .int .i64 (wrdC 16 14), .int .i64 (wrdC 16 15)]
theorem setCells_below (n b : Nat) (hn : n ≤ b) : ∀ (vs : List Value) (o : Nat) (w : World), Below n w (w.setCells b o vs) := by
  intro vs
  induction vs with
  | nil => intro o w; exact Below.refl _ _
  | cons v vs ih => intro o w; exact ((Below.refl _ w).setCell (p := ⟨b, o, none⟩) hn v).trans (ih (o + 1) _)

set_option maxHeartbeats 4000000 in
theorem words_impl (w : World) (ht : BitW w) :
    Calls Tryd.prog 62 #[] w fun e w' => e = .returned (.agg wrdA) ∧ Below w.heap.size w w' := by
  have HT := Lib.hid ht
  have hc0 := ht.two 0 (by decide)
  have hc1 := ht.two 1 (by decide)
  have hc2 := ht.two 2 (by decide)
  have hc3 := ht.two 3 (by decide)
  simp only [bitW, List.getD_cons_zero, List.getD_cons_succ] at hc0 hc1 hc2 hc3
  clear ht
  go_enter Tryd.func62, Tryd.ntmps62
  go_wp2
  go_loopg [7] 4 (fun g s7 wx => ∃ b : Nat, s7 = .int .i64 (b : Int) ∧ b ≤ 4 ∧ g = 4 - b ∧ WrdB wx (w.heap.size + 1) (2 ^ b) ∧ WrdB wx w.heap.size 0 ∧ Below w.heap.size w wx)
  case atStart =>
    refine ⟨0, rfl, by omega, rfl, ?_, ?_, ((Below.refl _ _).alloc (Nat.le_refl _) _).alloc (by simp) _⟩
    · have := WrdB.start (w.alloc (.cells (Array.replicate 16 (.int .i64 0)) 73))
      rw [World.size_alloc] at this
      exact this
    · have := (WrdB.zero w).other ((Below.refl _ _).alloc (by simp) (.cells (Array.replicate 16 (.int .i64 0)) 73))
      exact this
  case round =>
    obtain ⟨b, rfl, hb, rfl, hrow, hres, hbel⟩ := hrel
    have HR := Lib.hid hrow
    have HS := Lib.hid hres
    have HB := Lib.hid hbel
    clear hrow hres hbel
    by_cases hlt : b < 4
    · have hd : decide ((b : Int) < 4) = true := by simp; omega
      have hbit := bit_at b hlt
      have hxo := fun n hn => wrd_step b n hlt hn
      have hor := fun n hn => or_step b n hlt hn
      have h16 : 2 ^ b ≤ 8 := Nat.le_trans (Nat.pow_le_pow_right (n := 2) (by decide) (show b ≤ 3 by omega)) (by decide)
      have hw : wrap64 ((2 : Int) ^ b) = ((2 ^ b : Nat) : Int) := by
        rw [show ((2 : Int) ^ b) = ((2 ^ b : Nat) : Int) by push_cast; rfl]
        have h0 : 0 ≤ ((2 ^ b : Nat) : Int) := Int.natCast_nonneg _
        generalize 2 ^ b = c at *
        unfold wrap64
        omega
      have hnx : 2 ^ (b + 1) = 2 ^ b + 2 ^ b := by omega
      generalize 2 ^ b = c at *
      have Hx := Lib.hid hxo
      have Ho := Lib.hid hor
      have Hn := Lib.hid hnx
      clear hxo hor hnx
      generalize bitW.getD b 0 = wd at *
      go_wp2
      go_loopg [13] c (fun g s13 wx => ∃ n : Nat, s13 = .int .i64 (n : Int) ∧ n ≤ c ∧ g = c - n ∧ WrdB wx (w.heap.size + 1) (c + n) ∧ WrdB wx w.heap.size 0 ∧ Below w.heap.size w wx)
      case atStart => exact ⟨0, rfl, by omega, rfl, HR.out, HS.out, HB.out⟩
      case round =>
        obtain ⟨n, rfl, hn, rfl, hrow, hres, hbel⟩ := hrel
        have HR := Lib.hid hrow
        have HS := Lib.hid hres
        have HB := Lib.hid hbel
        by_cases hln : n < c
        · have hdn : decide ((n : Int) < (c : Int)) = true := by simp; omega
          have hor := Ho.out n hln
          have hxo := Hx.out n hln
          have hcn := (hrow n (by omega)).1
          have hfn := (hrow (c + n) (by omega)).2
          have hcc := (hrow (c + n) (by omega)).1
          clear hrow hres hbel
          generalize wrdC (c + n) n = V at *
          generalize hE : encN (c + n) = E at *
          have HE := Lib.hid hE
          clear hE
          go_wp2
          go_region
          go_wp2
          go_roundg (c - (n + 1))
          case measure => omega
          case rel =>
            refine ⟨n + 1, by go_num, by omega, rfl, ?_, ?_, ?_⟩
            · have := HR.out.step (by omega) E HE.out.symm
              rw [show c + (n + 1) = c + n + 1 by omega]
              exact this
            · exact HS.out.other_block (by omega) _
            · exact (HB.out.setCell (p := ⟨w.heap.size + 1, c + n, none⟩) (by simp) _).drew
        · obtain rfl : n = c := by omega
          have hdn : decide ((n : Int) < (n : Int)) = false := by simp
          go_wp2
          go_roundg (4 - (b + 1))
          case measure => omega
          case rel => exact ⟨b + 1, by go_num, by omega, rfl, by rw [Hn.out]; exact HR.out, HS.out, HB.out⟩
    · obtain rfl : b = 4 := by omega
      have hd : decide ((4 : Int) < 4) = false := by decide
      have h0 := (HR.out 0 (by decide)).1
      have h1 := (HR.out 1 (by decide)).1
      have h2 := (HR.out 2 (by decide)).1
      have h3 := (HR.out 3 (by decide)).1
      have h4 := (HR.out 4 (by decide)).1
      have h5 := (HR.out 5 (by decide)).1
      have h6 := (HR.out 6 (by decide)).1
      have h7 := (HR.out 7 (by decide)).1
      have h8 := (HR.out 8 (by decide)).1
      have h9 := (HR.out 9 (by decide)).1
      have h10 := (HR.out 10 (by decide)).1
      have h11 := (HR.out 11 (by decide)).1
      have h12 := (HR.out 12 (by decide)).1
      have h13 := (HR.out 13 (by decide)).1
      have h14 := (HR.out 14 (by decide)).1
      have h15 := (HR.out 15 (by decide)).1
      have r0 := HS.out 0 (by decide)
      have r1 := HS.out 1 (by decide)
      have r2 := HS.out 2 (by decide)
      have r3 := HS.out 3 (by decide)
      have r4 := HS.out 4 (by decide)
      have r5 := HS.out 5 (by decide)
      have r6 := HS.out 6 (by decide)
      have r7 := HS.out 7 (by decide)
      have r8 := HS.out 8 (by decide)
      have r9 := HS.out 9 (by decide)
      have r10 := HS.out 10 (by decide)
      have r11 := HS.out 11 (by decide)
      have r12 := HS.out 12 (by decide)
      have r13 := HS.out 13 (by decide)
      have r14 := HS.out 14 (by decide)
      have r15 := HS.out 15 (by decide)
      have HC := Lib.hid (World.cell?_setCells_in w.heap.size wrdL 0 wr (fun j hj => by rw [Nat.zero_add, (HS.out j hj).1]; rfl))
      have HB2 := Lib.hid (setCells_below w.heap.size w.heap.size (Nat.le_refl _) wrdL 0 wr)
      go_wp2
      show bodyPost Tryd.prog Tryd.f62 _ Exit.ret _ (wr.setCells w.heap.size 0 wrdL)
      generalize wr.setCells w.heap.size 0 wrdL = W2 at *
      have c0 : W2.cell? ⟨w.heap.size, 0, none⟩ = some (.int .i64 (wrdC 16 0)) := HC.out 0 (by decide)
      have c1 : W2.cell? ⟨w.heap.size, 1, none⟩ = some (.int .i64 (wrdC 16 1)) := HC.out 1 (by decide)
      have c2 : W2.cell? ⟨w.heap.size, 2, none⟩ = some (.int .i64 (wrdC 16 2)) := HC.out 2 (by decide)
      have c3 : W2.cell? ⟨w.heap.size, 3, none⟩ = some (.int .i64 (wrdC 16 3)) := HC.out 3 (by decide)
      have c4 : W2.cell? ⟨w.heap.size, 4, none⟩ = some (.int .i64 (wrdC 16 4)) := HC.out 4 (by decide)
      have c5 : W2.cell? ⟨w.heap.size, 5, none⟩ = some (.int .i64 (wrdC 16 5)) := HC.out 5 (by decide)
      have c6 : W2.cell? ⟨w.heap.size, 6, none⟩ = some (.int .i64 (wrdC 16 6)) := HC.out 6 (by decide)
      have c7 : W2.cell? ⟨w.heap.size, 7, none⟩ = some (.int .i64 (wrdC 16 7)) := HC.out 7 (by decide)
      have c8 : W2.cell? ⟨w.heap.size, 8, none⟩ = some (.int .i64 (wrdC 16 8)) := HC.out 8 (by decide)
      have c9 : W2.cell? ⟨w.heap.size, 9, none⟩ = some (.int .i64 (wrdC 16 9)) := HC.out 9 (by decide)
      have c10 : W2.cell? ⟨w.heap.size, 10, none⟩ = some (.int .i64 (wrdC 16 10)) := HC.out 10 (by decide)
      have c11 : W2.cell? ⟨w.heap.size, 11, none⟩ = some (.int .i64 (wrdC 16 11)) := HC.out 11 (by decide)
      have c12 : W2.cell? ⟨w.heap.size, 12, none⟩ = some (.int .i64 (wrdC 16 12)) := HC.out 12 (by decide)
      have c13 : W2.cell? ⟨w.heap.size, 13, none⟩ = some (.int .i64 (wrdC 16 13)) := HC.out 13 (by decide)
      have c14 : W2.cell? ⟨w.heap.size, 14, none⟩ = some (.int .i64 (wrdC 16 14)) := HC.out 14 (by decide)
      have c15 : W2.cell? ⟨w.heap.size, 15, none⟩ = some (.int .i64 (wrdC 16 15)) := HC.out 15 (by decide)
      refine bodyPost_ret_by (v := .agg wrdA) ?_ rfl ⟨rfl, HB.out.trans HB2.out⟩
      simp [results, Tryd.f62, go_sem, c0, c1, c2, c3, c4, c5, c6, c7, c8, c9, c10, c11, c12, c13, c14, c15]
      rfl
end Go.Proofs.YtdponcannphboabDoor
