/- What this text proves: the parts SntS, Gro, SntT, SndB, SnO, IPk, ISq of the proof, each under its own words. -/
import Derived.Test.YtebfefkknaalpaaDoorV00
import Derived.Test.YtebfefkknaalpaaDoorV04
import Derived.Laws.Concat
import Derived.Deep.RegionLaw
import Derived.Deep.LoopGhost
import Derived.BigRegion
import Derived.Outline
import Derived.OwnWalk
import Derived.Laws.AppendOwn
import Derived.Laws.OwnMore
import Derived.Laws.MakeOwn
import Derived.Test.YtebfefkknaalpaaDoorV01
import Derived.IntWalk
/- What this text proves: lists of commands that wait, in a slice of the call's own: the laws' own comparison finds equal ones equal. -/
namespace Go.Proofs.YtebfefkknaalpaaDoor
open Go.ChangeShapes Go.WideShapes Go.ChangeAt Go.RowKit
set_option linter.unusedVariables false

/-- A command that waits: its number, its data. -/
abbrev Sn := Int × ByteArray
abbrev snC (p : Sn) : List Value := [.int .i64 p.1, .string p.2]
abbrev OwnN (w : World) (base : Nat) (v : Value) (l : List Sn) : Prop := OwnR 48 2 w base v (l.map snC)
theorem info_snt : (Tryd.prog.info? 48).map (fun i => (i.zero, i.size, i.bytes)) = some (some (snV 0 ⟨#[]⟩), 2, 24) := by kernel_rfl
theorem OwnN.rows {w : World} {base : Nat} {v : Value} {l : List Sn} (h : OwnN w base v l) (hn : 0 < l.length) :
    ∃ g cap, v = .slice (some ⟨g, 0, none⟩) l.length cap ∧ base ≤ g ∧ g < w.heap.size ∧ (∀ k (hk : k < l.length), w.cell? ⟨g, k * 2, none⟩ = some (.int .i64 l[k].1) ∧ w.cell? ⟨g, k * 2 + 1, none⟩ = some (.string l[k].2)) ∧ (∀ j, w.frozen? ⟨g, j, none⟩ = false) := by
  obtain ⟨g, cap, hv, hb, hg, hc, hf⟩ := OwnR.rows h (by simpa using hn)
  refine ⟨g, cap, by rw [hv, List.length_map], hb, hg, fun k hk => ?_, hf⟩
  have h0 := hc k (by simpa using hk) 0 (by decide)
  have h1 := hc k (by simpa using hk) 1 (by decide)
  simp only [List.getElem_map] at h0 h1
  exact ⟨h0, h1⟩
theorem OwnN.nform {w : World} {base : Nat} {v : Value} {l : List Sn} (h : OwnN w base v l) : ∃ A c, v = .slice A l.length c := by
  obtain ⟨A, c, h1⟩ := OwnR.form h
  exact ⟨A, c, by rw [h1, List.length_map]⟩

end Go.Proofs.YtebfefkknaalpaaDoor
/- What this text proves: what has grown in one block alone: it goes on, it stores, a struct elsewhere stays. -/
namespace Go.Proofs.YtebfefkknaalpaaDoor
open Go.ChangeShapes Go.WideShapes Go.ChangeAt Go.RowKit
set_option linter.unusedVariables false

theorem grown_of {w W : World} (h : Below w.heap.size w W) (row : Option Nat) : w.grownBy W row := ⟨h.os, h.tape, h.output, h.size, fun k hk _ => h.block k hk⟩
theorem grown_trans {w W W' : World} {row : Option Nat} (h1 : w.grownBy W row) (h2 : W.grownBy W' row) : w.grownBy W' row :=
  ⟨h2.os.trans h1.os, h2.tape.trans h1.tape, h2.output.trans h1.output, Nat.le_trans h1.size h2.size, fun k hk hne => (h2.block k (Nat.lt_of_lt_of_le hk h1.size) hne).trans (h1.block k hk hne)⟩
theorem grown_store {w W : World} {g j : Nat} (h : w.grownBy W (some g)) (u : Value) : w.grownBy (W.setCell ⟨g, j, none⟩ u) (some g) :=
  grown_trans h ⟨rfl, rfl, rfl, by simp, fun k hk hne => Below.heap_setCell W _ u k (fun e => hne (by rw [e]))⟩

theorem Box.grown {W W' : World} {g : Nat} {vs : List Value} {row : Option Nat} (h : Box W g vs) (hb : W.grownBy W' row) (hne : row ≠ some g) : Box W' g vs := by
  have hk := hb.block g h.lt (fun e => hne e.symm)
  exact ⟨Nat.lt_of_lt_of_le h.lt hb.size, fun j hj => (World.cell?_of_block (a := ⟨g, j, none⟩) hk).trans (h.cell j hj), fun j => (World.frozen?_of_block (a := ⟨g, j, none⟩) hk).trans (h.ice j)⟩
end Go.Proofs.YtebfefkknaalpaaDoor
/- What this text proves: the contracts of the laws' own functions over a list of commands that was handed to them: its size, its copy. -/
namespace Go.Proofs.YtebfefkknaalpaaDoor
open Go.ChangeShapes Go.WideShapes Go.ChangeAt Go.RowKit
set_option linter.unusedVariables false

/-- Commands that are there to be read, in a block below B. -/
def SnsAt (W : World) (B : Nat) (A : Option Addr) (l : List Sn) : Prop :=
  l.length = 0 ∨ ∃ b off, A = some ⟨b, off, none⟩ ∧ b < B ∧ ∀ k (hk : k < l.length), W.cell? ⟨b, off + k * 2, none⟩ = some (.int .i64 l[k].1) ∧ W.cell? ⟨b, off + k * 2 + 1, none⟩ = some (.string l[k].2)
theorem SnsAt.more {w w' : World} {B : Nat} {A : Option Addr} {l : List Sn} (h : SnsAt w B A l) (hb : Below B w w') : SnsAt w' B A l := by
  rcases h with h | ⟨b, off, hA, hlt, hc⟩
  · exact .inl h
  · exact .inr ⟨b, off, hA, hlt, fun k hk => ⟨(hb.cell (p := ⟨b, off + k * 2, none⟩) hlt).trans (hc k hk).1, (hb.cell (p := ⟨b, off + k * 2 + 1, none⟩) hlt).trans (hc k hk).2⟩⟩
theorem SnsAt.raise {W : World} {B B' : Nat} {A : Option Addr} {l : List Sn} (h : SnsAt W B A l) (hb : B ≤ B') : SnsAt W B' A l := by
  rcases h with h | ⟨b, off, hA, hlt, hc⟩
  · exact .inl h
  · exact .inr ⟨b, off, hA, Nat.lt_of_lt_of_le hlt hb, hc⟩
theorem OwnN.ats {W : World} {base : Nat} {A : Option Addr} {c n : Nat} {l : List Sn} (h : OwnN W base (.slice A n c) l) : SnsAt W W.heap.size A l := by
  rcases Nat.eq_zero_or_pos l.length with h0 | h0
  · exact .inl h0
  · obtain ⟨g, cap, hv, _, hg, hc, _⟩ := h.rows h0
    injection hv with hA
    exact .inr ⟨g, 0, hA, hg, fun k hk => by rw [Nat.zero_add]; exact hc k hk⟩
abbrev sn0 : Sn := (0, ⟨#[]⟩)
/-- The bytes of the first k commands. -/
def totN (fs : List Sn) : Nat → Nat
  | 0 => 0
  | k + 1 => totN fs k + (fs.getD k sn0).2.size
theorem totN_le (fs : List Sn) {j k : Nat} (h : j ≤ k) : totN fs j ≤ totN fs k := by
  induction k with
  | zero => obtain rfl : j = 0 := by omega
            exact Nat.le_refl _
  | succ k ih =>
    rcases Nat.lt_or_ge j (k + 1) with h1 | h1
    · exact Nat.le_trans (ih (by omega)) (Nat.le_add_right _ _)
    · obtain rfl : j = k + 1 := by omega
      exact Nat.le_refl _
theorem getN_at {l : List Sn} {k : Nat} (h : k < l.length) : l.getD k sn0 = l[k] := by
  rw [List.getD_eq_getElem?_getD, List.getElem?_eq_getElem h]
  rfl
theorem totN_at (l : List Sn) {k : Nat} (h : k < l.length) : l[k].2.size ≤ totN l l.length := by
  have h1 : totN l (k + 1) = totN l k + l[k].2.size := by simp only [totN]; rw [getN_at h]
  have h2 := totN_le l (show k + 1 ≤ l.length from h)
  omega

theorem take2 (xs : List Value) (j : Nat) (a b : Value) (h : j + 2 ≤ xs.length) : (((xs.set j a).set (j + 1) b)).take (j + 2) = xs.take j ++ [a, b] := by
  apply List.ext_getElem?
  intro i
  rw [List.getElem?_append, List.length_take, Nat.min_eq_left (by omega)]
  by_cases h1 : i < j
  · rw [if_pos h1, List.getElem?_take_of_lt (by omega), List.getElem?_set_ne (by omega), List.getElem?_set_ne (by omega), List.getElem?_take_of_lt h1]
  · rw [if_neg h1]
    by_cases h2 : i < j + 2
    · rw [List.getElem?_take_of_lt h2]
      rcases (show i = j ∨ i = j + 1 by omega) with rfl | rfl
      · rw [List.getElem?_set_ne (by omega), List.getElem?_set_self (by omega)]; simp
      · rw [List.getElem?_set_self (by simp; omega)]; simp
    · rw [List.getElem?_eq_none (by simp; omega), List.getElem?_eq_none (by simp; omega)]
/-- A slice of n commands in the making: its cells. -/
def RowN (w : World) (base g n : Nat) (xs : List Value) : Prop := w.ownsRow base 48 2 (.slice (some ⟨g, 0, none⟩) n n) n xs ∧ xs.length = n * 2
theorem RowN.more {w w' : World} {base g n : Nat} {xs : List Value} (h : RowN w base g n xs) (hb : Below w.heap.size w w') : RowN w' base g n xs :=
  ⟨World.ownsRow.kept (row := none) h.1 ⟨hb.os, hb.tape, hb.output, hb.size, fun k hk _ => hb.block k hk⟩ (.inr (by simp [Value.ownBlock])), h.2⟩
theorem RowN.store {w : World} {base g n : Nat} {xs : List Value} (h : RowN w base g n xs) (j : Nat) (u : Value) : RowN (w.setCell ⟨g, j, none⟩ u) base g n (xs.set j u) := ⟨(World.ownsRow.stored h.1 j u).1, by rw [List.length_set]; exact h.2⟩
theorem RowN.cell {w : World} {base g n : Nat} {xs : List Value} (h : RowN w base g n xs) (j : Nat) (hj : j < n * 2) : ∃ u, w.cell? ⟨g, j, none⟩ = some u :=
  ⟨xs[j]'(by rw [h.2]; exact hj), by rw [World.ownsRow.cellAt h.1 j hj]; exact List.getElem?_eq_getElem _⟩
theorem make_sns (W : World) (n : Nat) (hn : n ≤ 1048576) : ∃ cs, (Instr.makeSlice 24 (.int .i64 (n : Int)) (.int .i64 (n : Int))).run Tryd.prog W = .ok (.slice (some ⟨W.heap.size, 0, none⟩) n n) (W.alloc (.cells cs 48)) ∧ RowN (W.alloc (.cells cs 48)) W.heap.size W.heap.size n cs.toList := by
  obtain ⟨i, hi, hz0, hz1, hz2⟩ := info_parts info_snt
  have h := run_make (P := Tryd.prog) W 24 48 i (snV 0 ⟨#[]⟩) Tryd.underlying24 hi hz0 .i64 .i64 n n (by omega) (by omega) (by rw [hz2]; omega) (by omega)
  rw [hz1] at h
  refine ⟨_, by simpa using h, World.ownsRow_lit (base := W.heap.size) (e := 48) (size := 2) W _ n (Nat.le_refl _) (by unfold maxLen; omega) (by rw [size_madeCells]), by rw [Array.length_toList, size_madeCells]⟩

end Go.Proofs.YtebfefkknaalpaaDoor
/- What this text proves: a sender as a value; what stays of a list of structs when a cell elsewhere is stored. -/
namespace Go.Proofs.YtebfefkknaalpaaDoor
open Go.ChangeShapes Go.WideShapes Go.ChangeAt Go.RowKit
set_option linter.unusedVariables false

/-- A sender as a value; v: the slice of its Waiting. -/
abbrev seV (n b : Int) (v : Value) (d : Int) : Value := .agg #[.int .i64 n, .int .i64 b, v, .int .i64 d]
abbrev seL (n b : Int) (v : Value) (d : Int) : List Value := [.int .i64 n, .int .i64 b, v, .int .i64 d]
abbrev Cells4S (W : World) (g : Nat) (x y z u : Value) : Prop := W.cell? ⟨g, 0, none⟩ = some x ∧ W.cell? ⟨g, 1, none⟩ = some y ∧ W.cell? ⟨g, 2, none⟩ = some z ∧ W.cell? ⟨g, 3, none⟩ = some u
theorem Box.fourS {W : World} {g : Nat} {x y z u : Value} (h : Box W g [x, y, z, u]) : Cells4S W g x y z u := ⟨h.cell 0 (by simp), h.cell 1 (by simp), h.cell 2 (by simp), h.cell 3 (by simp)⟩
theorem OwnR.past {E : TypeId} {sz : Nat} {W : World} {b g j : Nat} {v : Value} {l : List (List Value)} (h : OwnR E sz W b v l) (hg : g < b) (u : Value) : OwnR E sz (W.setCell ⟨g, j, none⟩ u) b v l := by
  refine ⟨World.ownsRow.kept (row := some g) h.1 ⟨rfl, rfl, rfl, by simp, fun k hk hne => Below.heap_setCell W _ u k (fun e => hne (by rw [e]))⟩ ?_, h.2⟩
  by_cases he : v.ownBlock = none
  · exact .inl he
  · refine .inr fun e => ?_
    have := (World.ownsRow.lt h.1 g e).1
    omega
theorem OwnR.cellsPast {E : TypeId} {sz : Nat} {b g : Nat} {v : Value} {l : List (List Value)} (hg : g < b) : ∀ (us : List Value) (o : Nat) (W : World), OwnR E sz W b v l → OwnR E sz (W.setCells g o us) b v l := by
  intro us
  induction us with
  | nil => intro o W h; exact h
  | cons u r ih => intro o W h; exact ih _ _ (h.past hg u)
end Go.Proofs.YtebfefkknaalpaaDoor
/- What this text proves: the contract of the model's SenderOk. -/
namespace Go.Proofs.YtebfefkknaalpaaDoor
open Go.ChangeShapes Go.WideShapes Go.ChangeAt Go.RowKit
set_option linter.unusedVariables false

/-- The first k commands that wait bear the numbers before n, in order, and some bytes each. -/
def SnTo (n : Int) (l : List Sn) (k : Nat) : Prop := ∀ i (hi : i < l.length), i < k → l[i].1 = (n - (l.length : Int) + (i : Int)) % 256 ∧ 1 ≤ l[i].2.size ∧ l[i].2.size ≤ 40
def SnHd (n b d : Int) (l : List Sn) : Prop := (0 ≤ n ∧ n ≤ 255) ∧ (1 ≤ b ∧ b ≤ 20) ∧ (0 ≤ d ∧ d ≤ 1000000) ∧ (l.length : Int) ≤ b
def SnOk (n b : Int) (l : List Sn) (d : Int) : Prop := SnHd n b d l ∧ SnTo n l l.length
open Classical in
noncomputable def snB (n b : Int) (l : List Sn) (d : Int) : Bool := decide (SnOk n b l d)
theorem snB_yes {n b d : Int} {l : List Sn} (h : SnOk n b l d) : snB n b l d = true := by unfold snB; exact @decide_eq_true _ (Classical.propDecidable _) h
theorem snB_no {n b d : Int} {l : List Sn} (h : ¬ SnOk n b l d) : snB n b l d = false := by unfold snB; exact @decide_eq_false _ (Classical.propDecidable _) h
theorem snB_of {n b d : Int} {l : List Sn} (h : snB n b l d = true) : SnOk n b l d := by
  by_cases h1 : SnOk n b l d
  · exact h1
  · rw [snB_no h1] at h; cases h
theorem SnTo.succ {n : Int} {l : List Sn} {k : Nat} (h : SnTo n l k) (hk : k < l.length) (h1 : l[k].1 = (n - (l.length : Int) + (k : Int)) % 256) (h2 : 1 ≤ l[k].2.size ∧ l[k].2.size ≤ 40) : SnTo n l (k + 1) := fun i hi hlt => by
  rcases Nat.lt_or_ge i k with h3 | h3
  · exact h i hi h3
  · obtain rfl : i = k := by omega
    exact ⟨h1, h2⟩

end Go.Proofs.YtebfefkknaalpaaDoor
/- What this text proves: the contracts of isWithin and of the program's PacketOk. -/
namespace Go.Proofs.YtebfefkknaalpaaDoor
open Go.ChangeShapes Go.WideShapes Go.ChangeAt Go.RowKit
set_option linter.unusedVariables false

theorem iw_yes (a b c : Int) (h1 : b ≤ a) (h2 : a ≤ c) (w : World) :
    Calls Tryd.prog 26 #[.int .i64 a, .int .i64 b, .int .i64 c] w fun e w' => e = .returned (.bool true) ∧ w = w' := by
  go_enter Tryd.func26, Tryd.ntmps26
  go_wp2
  go_ret
  exact ⟨rfl, rfl⟩
theorem iw_no (a b c : Int) (h : ¬ (b ≤ a ∧ a ≤ c)) (w : World) :
    Calls Tryd.prog 26 #[.int .i64 a, .int .i64 b, .int .i64 c] w fun e w' => e = .returned (.bool false) ∧ w = w' := by
  by_cases h1 : b ≤ a
  · have hd : decide (a ≤ c) = false := by simp; omega
    clear h
    go_enter Tryd.func26, Tryd.ntmps26
    go_wp2
    go_ret
    exact ⟨rfl, rfl⟩
  · have h2 : a < b := by omega
    clear h h1
    go_enter Tryd.func26, Tryd.ntmps26
    go_wp2
    go_ret
    exact ⟨rfl, rfl⟩
end Go.Proofs.YtebfefkknaalpaaDoor
/- What this text proves: the contracts of the program's small functions over the numbers of commands. -/
namespace Go.Proofs.YtebfefkknaalpaaDoor
open Go.ChangeShapes Go.WideShapes Go.ChangeAt Go.RowKit
set_option linter.unusedVariables false

theorem iq_yes (a : Int) (h : 0 ≤ a ∧ a ≤ 255) (w : World) :
    Calls Tryd.prog 24 #[.int .i64 a] w fun e w' => e = .returned (.bool true) ∧ w = w' := by
  have H := Lib.hid (iw_yes a 0 255 h.1 h.2)
  clear h
  go_enter Tryd.func24, Tryd.ntmps24
  go_wp2_with fail
  refine (H.out _).mono ?_
  rintro e w' ⟨rfl, rfl⟩
  go_wp2
  go_ret
  exact ⟨rfl, rfl⟩
theorem iq_no (a : Int) (h : ¬ (0 ≤ a ∧ a ≤ 255)) (w : World) :
    Calls Tryd.prog 24 #[.int .i64 a] w fun e w' => e = .returned (.bool false) ∧ w = w' := by
  have H := Lib.hid (iw_no a 0 255 h)
  clear h
  go_enter Tryd.func24, Tryd.ntmps24
  go_wp2_with fail
  refine (H.out _).mono ?_
  rintro e w' ⟨rfl, rfl⟩
  go_wp2
  go_ret
  exact ⟨rfl, rfl⟩
theorem seq_minus (a b : Int) (ha : 0 ≤ a ∧ a ≤ 255) (hb : 0 ≤ b ∧ b ≤ 255) (w : World) :
    Calls Tryd.prog 25 #[.int .i64 a, .int .i64 b] w fun e w' => e = .returned (.int .i64 ((a - b) % 256)) ∧ w = w' := by
  obtain ⟨a0, a1⟩ := ha
  obtain ⟨b0, b1⟩ := hb
  go_enter Tryd.func25, Tryd.ntmps25
  go_wp2
  go_ret
  exact ⟨ret_i (by omega), rfl⟩
theorem next_cnt (n : Int) (hn : 0 ≤ n ∧ n ≤ 255) (w : World) :
    Calls Tryd.prog 18 #[.int .i64 n] w fun e w' => e = .returned (.int .i64 ((n + 1) % 256)) ∧ w = w' := by
  have h : Int.tmod (n + 1) 256 = (n + 1) % 256 := Int.tmod_eq_emod_of_nonneg (by omega)
  go_enter Tryd.func18, Tryd.ntmps18
  go_wp2
  go_ret
  exact ⟨by rw [← h]; first | done | rfl, rfl⟩
end Go.Proofs.YtebfefkknaalpaaDoor
