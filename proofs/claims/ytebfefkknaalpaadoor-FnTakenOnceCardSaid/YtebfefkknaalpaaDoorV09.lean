/- What this text proves: the parts MarkT, SntM, SntO of the proof, each under its own words. -/
import Derived.Test.YtebfefkknaalpaaDoorV00
import Derived.WalkKit
import Derived.LoopTactic
import Derived.IntWalk
import Derived.OwnWalk
import Derived.Laws.AppendOwn
import Derived.Laws.OwnMore
import Derived.Lib.Hide
import Derived.Laws.Concat
import Derived.Test.YtebfefkknaalpaaDoorV05
import Derived.Test.YtebfefkknaalpaaDoorV06
import Derived.Laws.Slices
/- What this text proves: the contract of the laws' own mark of a number as a text. -/
namespace Go.Proofs.YtebfefkknaalpaaDoor
open Go.ChangeShapes Go.WideShapes Go.ChangeAt Go.RowKit
set_option linter.unusedVariables false

/-- The digits of a number, by at most f of them. -/
def dgF : Nat → Nat → List UInt8
  | 0, _ => []
  | f + 1, k => if k = 0 then [] else dgF f (k / 10) ++ [UInt8.ofNat (48 + k % 10)]
theorem dgF_zero (f : Nat) : dgF f 0 = [] := by cases f <;> rfl
def markV (k : Nat) : ByteArray := ⟨#[109]⟩ ++ ⟨(dgF 64 k).toArray⟩
theorem one_text (w : World) (d : UInt8) : (convert 22 9 (.slice (some ⟨w.heap.size, 0, none⟩) 1 1)).run Tryd.prog (w.alloc (.cells #[.int .u8 (d.toNat : Int)] 5)) = .ok (.string ⟨#[d]⟩) (w.alloc (.cells #[.int .u8 (d.toNat : Int)] 5)) := by
  have h := run_convert_bytes_back (P := Tryd.prog) (w.alloc (.cells #[.int .u8 (d.toNat : Int)] 5)) 22 9 5 ⟨w.heap.size, 0, none⟩ 1 [d] Tryd.underlying22 Tryd.underlying5 Tryd.underlying9 (fun j hj => by
    obtain rfl : j = 0 := by simp at hj; omega
    show (w.alloc (.cells #[.int .u8 (d.toNat : Int)] 5)).cell? ⟨w.heap.size, 0, none⟩ = _
    rw [World.cell?_alloc_at _ _ _ _ rfl]
    rfl)
  simpa using h

end Go.Proofs.YtebfefkknaalpaaDoor
/- What this text proves: the contracts of the laws' marks over lists of commands that wait: marks that were written are found again, and change nothing else. -/
namespace Go.Proofs.YtebfefkknaalpaaDoor
open Go.ChangeShapes Go.WideShapes Go.ChangeAt Go.RowKit
set_option linter.unusedVariables false

/-- Block g has N cells that no string shares. -/
structure Pad (W : World) (g N : Nat) : Prop where
  lt : g < W.heap.size
  has : ∀ j, j < N → ∃ v, W.cell? ⟨g, j, none⟩ = some v
  ice : ∀ j, W.frozen? ⟨g, j, none⟩ = false
theorem Pad.more {W W' : World} {g N : Nat} (h : Pad W g N) (hb : Below W.heap.size W W') : Pad W' g N :=
  ⟨Nat.lt_of_lt_of_le h.lt hb.size, fun j hj => by obtain ⟨v, hv⟩ := h.has j hj; exact ⟨v, (hb.cell (p := ⟨g, j, none⟩) h.lt).trans hv⟩, fun j => (hb.frozen (p := ⟨g, j, none⟩) h.lt).trans (h.ice j)⟩
theorem Pad.set {W : World} {g N : Nat} (h : Pad W g N) (i : Nat) (u : Value) : Pad (W.setCell ⟨g, i, none⟩ u) g N := by
  refine ⟨by simpa using h.lt, fun j hj => ?_, fun j => by rw [World.frozen?_setCell]; exact h.ice j⟩
  obtain ⟨v, hv⟩ := h.has j hj
  by_cases e : i = j
  · subst e
    exact ⟨u, World.cell?_setCell_same _ _ _ hv⟩
  · exact ⟨v, by rw [World.cell?_setCell_other _ _ _ _ (fun he => e (congrArg Addr.off he))]; exact hv⟩
/-- The first k commands of block g bear their marks. -/
def MkN (W : World) (g M k : Nat) : Prop := ∀ i, i < k → W.cell? ⟨g, i * 2, none⟩ = some (.int .i64 ((M : Int) + 2 * (i : Int))) ∧ W.cell? ⟨g, i * 2 + 1, none⟩ = some (.string (markV (M + 2 * i + 1)))
theorem MkN.more {W W' : World} {g M k n : Nat} (h : MkN W g M k) (hb : Below n W W') (hg : g < n) : MkN W' g M k := fun i hi =>
  ⟨(hb.cell (p := ⟨g, i * 2, none⟩) hg).trans (h i hi).1, (hb.cell (p := ⟨g, i * 2 + 1, none⟩) hg).trans (h i hi).2⟩
theorem MkN.past {W : World} {g M k : Nat} (h : MkN W g M k) (j : Nat) (hj : k * 2 ≤ j) (u : Value) : MkN (W.setCell ⟨g, j, none⟩ u) g M k := fun i hi => by
  refine ⟨?_, ?_⟩
  · rw [World.cell?_setCell_other _ _ _ _ (fun he => by have := congrArg Addr.off he; simp at this; omega)]; exact (h i hi).1
  · rw [World.cell?_setCell_other _ _ _ _ (fun he => by have := congrArg Addr.off he; simp at this; omega)]; exact (h i hi).2
theorem MkN.succ {W : World} {g M k : Nat} (h : MkN W g M k) (h0 : W.cell? ⟨g, k * 2, none⟩ = some (.int .i64 ((M : Int) + 2 * (k : Int)))) (h1 : W.cell? ⟨g, k * 2 + 1, none⟩ = some (.string (markV (M + 2 * k + 1)))) : MkN W g M (k + 1) := fun i hi => by
  rcases Nat.lt_or_ge i k with h3 | h3
  · exact h i h3
  · obtain rfl : i = k := by omega
    exact ⟨h0, h1⟩
/-- The marks of a list of commands lie there. -/
def MksN (W : World) (M : Nat) (v : Value) (n : Nat) : Prop := ∃ A c, v = .slice A n c ∧ (0 < n → ∃ g, A = some ⟨g, 0, none⟩ ∧ g < W.heap.size ∧ MkN W g M n)
theorem MksN.more {W W' : World} {M n : Nat} {v : Value} (h : MksN W M v n) (hb : Below W.heap.size W W') : MksN W' M v n := by
  obtain ⟨A, c, h1, h2⟩ := h
  refine ⟨A, c, h1, fun h0 => ?_⟩
  obtain ⟨g, h3, h4, h5⟩ := h2 h0
  exact ⟨g, h3, Nat.lt_of_lt_of_le h4 hb.size, h5.more hb h4⟩

end Go.Proofs.YtebfefkknaalpaaDoor
/- What this text proves: a list of commands that lies somewhere in a block of the call's own (s[k:]): the laws' own comparison, marks and their reading. -/
namespace Go.Proofs.YtebfefkknaalpaaDoor
open Go.ChangeShapes Go.WideShapes Go.ChangeAt Go.RowKit
set_option linter.unusedVariables false

structure OwnO (w : World) (base : Nat) (v : Value) (l : List Sn) : Prop where
  form : ∃ A c, v = .slice A l.length c
  up : ∀ k, v.ownBlock = some k → base ≤ k ∧ k < w.heap.size
  rows : 0 < l.length → ∃ g off, (∃ c, v = .slice (some ⟨g, off, none⟩) l.length c) ∧ (∀ k (hk : k < l.length), w.cell? ⟨g, off + k * 2, none⟩ = some (.int .i64 l[k].1) ∧ w.cell? ⟨g, off + k * 2 + 1, none⟩ = some (.string l[k].2)) ∧ (∀ j, w.frozen? ⟨g, j, none⟩ = false)
theorem OwnO.block {w : World} {base : Nat} {v : Value} {l : List Sn} (h : OwnO w base v l) {g off c : Nat} (e : v = .slice (some ⟨g, off, none⟩) l.length c) : base ≤ g ∧ g < w.heap.size := h.up g (by rw [e]; rfl)
theorem OwnN.toO {w : World} {base : Nat} {v : Value} {l : List Sn} (h : OwnN w base v l) : OwnO w base v l :=
  ⟨h.nform, World.ownsRow.lt h.1, fun h0 => by
    obtain ⟨g, c, hv, _, _, hc, hf⟩ := h.rows h0
    exact ⟨g, 0, ⟨c, hv⟩, fun k hk => by rw [Nat.zero_add]; exact hc k hk, hf⟩⟩
theorem OwnO.lower {w : World} {base base' : Nat} {v : Value} {l : List Sn} (h : OwnO w base v l) (hb : base' ≤ base) : OwnO w base' v l := ⟨h.form, fun k hk => ⟨Nat.le_trans hb (h.up k hk).1, (h.up k hk).2⟩, h.rows⟩
theorem OwnO.keep {w w' : World} {base : Nat} {v : Value} {l : List Sn} (h : OwnO w base v l) (hz : w.heap.size ≤ w'.heap.size) (hk : ∀ g, v.ownBlock = some g → ∀ j, w'.cell? ⟨g, j, none⟩ = w.cell? ⟨g, j, none⟩ ∧ w'.frozen? ⟨g, j, none⟩ = w.frozen? ⟨g, j, none⟩) : OwnO w' base v l :=
  ⟨h.form, fun k hk' => ⟨(h.up k hk').1, Nat.lt_of_lt_of_le (h.up k hk').2 hz⟩, fun h0 => by
    obtain ⟨g, off, ⟨c, hv⟩, hc, hf⟩ := h.rows h0
    have hb := hk g (by rw [hv]; rfl)
    exact ⟨g, off, ⟨c, hv⟩, fun k hk => ⟨(hb _).1.trans (hc k hk).1, (hb _).1.trans (hc k hk).2⟩, fun j => (hb j).2.trans (hf j)⟩⟩
theorem OwnO.more {w w' : World} {base : Nat} {v : Value} {l : List Sn} (h : OwnO w base v l) (hb : Below w.heap.size w w') : OwnO w' base v l :=
  h.keep hb.size fun g hg j => ⟨hb.cell (p := ⟨g, j, none⟩) (h.up g hg).2, hb.frozen (p := ⟨g, j, none⟩) (h.up g hg).2⟩
theorem OwnO.grown {w w' : World} {base : Nat} {v : Value} {l : List Sn} {row : Option Nat} (h : OwnO w base v l) (hg : w.grownBy w' row) (hne : ∀ k, v.ownBlock = some k → row ≠ some k) : OwnO w' base v l :=
  h.keep hg.size fun g hv j => by
    have hb : w'.heap[g]? = w.heap[g]? := hg.block g (h.up g hv).2 (fun e => hne g hv e.symm)
    exact ⟨by simp [World.cell?, hb], by simp [World.frozen?, hb]⟩
theorem OwnO.past {w : World} {b g j : Nat} {v : Value} {l : List Sn} (h : OwnO w b v l) (hg : v.ownBlock ≠ some g) (u : Value) : OwnO (w.setCell ⟨g, j, none⟩ u) b v l :=
  h.keep (by simp) fun k hk i => by
    have hne : g ≠ k := fun e => hg (by rw [e]; exact hk)
    exact ⟨World.cell?_setCell_other _ _ _ _ (fun he => hne (congrArg Addr.block he)), by rw [World.frozen?_setCell]⟩
theorem OwnO.cellsPast {b g : Nat} {v : Value} {l : List Sn} (hg : v.ownBlock ≠ some g) : ∀ (us : List Value) (o : Nat) (W : World), OwnO W b v l → OwnO (W.setCells g o us) b v l := by
  intro us
  induction us with
  | nil => intro o W h; exact h
  | cons u r ih => intro o W h; exact ih _ _ (h.past hg u)
theorem OwnO.ats {W : World} {base : Nat} {A : Option Addr} {c n : Nat} {l : List Sn} (h : OwnO W base (.slice A n c) l) : SnsAt W W.heap.size A l := by
  rcases Nat.eq_zero_or_pos l.length with h0 | h0
  · exact .inl h0
  · obtain ⟨g, off, ⟨c', hv⟩, hc, _⟩ := h.rows h0
    have hg := (h.block hv).2
    injection hv with hA
    exact .inr ⟨g, off, hA, hg, hc⟩
/-- s[k:] of a slice of the call's own. -/
theorem OwnN.drop {w : World} {base : Nat} {A : Option Addr} {c : Nat} {l : List Sn} (h : OwnN w base (.slice A l.length c) l) (k : Nat) (hk : k ≤ l.length) : l.length ≤ c ∧ OwnO w base (.slice (if c = k then A else A.map (·.add (k * 2))) (l.drop k).length (c - k)) (l.drop k) := by
  have hcap : l.length ≤ c := by
    rcases h.1.2 with ⟨hv, hn⟩ | ⟨g, cap, cur, hv, _, _, hn, _⟩
    · rw [List.length_map] at hn; omega
    · rw [List.length_map] at hn
      injection hv with _ _ hc
      omega
  refine ⟨hcap, ⟨_, _, rfl⟩, fun g hg => ?_, fun h0 => ?_⟩
  · refine World.ownsRow.lt h.1 g ?_
    cases A with
    | none => split at hg <;> cases hg
    | some a =>
      have ha : (a.add (k * 2)).block = a.block := by unfold Addr.add; split <;> rfl
      split at hg
      · exact hg
      · rw [← hg]; exact congrArg some ha.symm
  · rw [List.length_drop] at h0
    obtain ⟨g, c', hv, _, _, hc, hf⟩ := h.rows (by omega)
    injection hv with hA _ _
    subst hA
    refine ⟨g, k * 2, ⟨c - k, by rw [if_neg (by omega)]; simp [Addr.add]; omega⟩, fun i hi => ?_, hf⟩
    rw [List.length_drop] at hi
    obtain ⟨c0, c1⟩ := hc (k + i) (by omega)
    simp only [List.getElem_drop]
    rw [← c0, ← c1]
    exact ⟨by rw [show k * 2 + i * 2 = (k + i) * 2 by omega], by rw [show k * 2 + i * 2 + 1 = (k + i) * 2 + 1 by omega]⟩

/-- Block g has N cells from off on that no string shares. -/
structure PadO (W : World) (g off N : Nat) : Prop where
  lt : g < W.heap.size
  has : ∀ j, j < N → ∃ v, W.cell? ⟨g, off + j, none⟩ = some v
  ice : ∀ j, W.frozen? ⟨g, j, none⟩ = false
theorem PadO.more {W W' : World} {g off N : Nat} (h : PadO W g off N) (hb : Below W.heap.size W W') : PadO W' g off N :=
  ⟨Nat.lt_of_lt_of_le h.lt hb.size, fun j hj => by obtain ⟨v, hv⟩ := h.has j hj; exact ⟨v, (hb.cell (p := ⟨g, off + j, none⟩) h.lt).trans hv⟩, fun j => (hb.frozen (p := ⟨g, j, none⟩) h.lt).trans (h.ice j)⟩
theorem PadO.set {W : World} {g off N : Nat} (h : PadO W g off N) (i : Nat) (u : Value) : PadO (W.setCell ⟨g, i, none⟩ u) g off N := by
  refine ⟨by simpa using h.lt, fun j hj => ?_, fun j => by rw [World.frozen?_setCell]; exact h.ice j⟩
  obtain ⟨v, hv⟩ := h.has j hj
  by_cases e : i = off + j
  · subst e
    exact ⟨u, World.cell?_setCell_same _ _ _ hv⟩
  · exact ⟨v, by rw [World.cell?_setCell_other _ _ _ _ (fun he => e (congrArg Addr.off he))]; exact hv⟩
/-- The first k commands of block g bear their marks. -/
def MkO (W : World) (g off M k : Nat) : Prop := ∀ i, i < k → W.cell? ⟨g, off + i * 2, none⟩ = some (.int .i64 ((M : Int) + 2 * (i : Int))) ∧ W.cell? ⟨g, off + i * 2 + 1, none⟩ = some (.string (markV (M + 2 * i + 1)))
theorem MkO.more {W W' : World} {g off M k n : Nat} (h : MkO W g off M k) (hb : Below n W W') (hg : g < n) : MkO W' g off M k := fun i hi =>
  ⟨(hb.cell (p := ⟨g, off + i * 2, none⟩) hg).trans (h i hi).1, (hb.cell (p := ⟨g, off + i * 2 + 1, none⟩) hg).trans (h i hi).2⟩
theorem MkO.past {W : World} {g off M k : Nat} (h : MkO W g off M k) (j : Nat) (hj : off + k * 2 ≤ j) (u : Value) : MkO (W.setCell ⟨g, j, none⟩ u) g off M k := fun i hi => by
  refine ⟨?_, ?_⟩
  · rw [World.cell?_setCell_other _ _ _ _ (fun he => by have := congrArg Addr.off he; simp at this; omega)]; exact (h i hi).1
  · rw [World.cell?_setCell_other _ _ _ _ (fun he => by have := congrArg Addr.off he; simp at this; omega)]; exact (h i hi).2
theorem MkO.succ {W : World} {g off M k : Nat} (h : MkO W g off M k) (h0 : W.cell? ⟨g, off + k * 2, none⟩ = some (.int .i64 ((M : Int) + 2 * (k : Int)))) (h1 : W.cell? ⟨g, off + k * 2 + 1, none⟩ = some (.string (markV (M + 2 * k + 1)))) : MkO W g off M (k + 1) := fun i hi => by
  rcases Nat.lt_or_ge i k with h3 | h3
  · exact h i h3
  · obtain rfl : i = k := by omega
    exact ⟨h0, h1⟩
/-- The marks of a list of commands lie there. -/
def MksO (W : World) (M : Nat) (v : Value) (n : Nat) : Prop := ∃ A c, v = .slice A n c ∧ (0 < n → ∃ g off, A = some ⟨g, off, none⟩ ∧ g < W.heap.size ∧ MkO W g off M n)
theorem MksO.more {W W' : World} {M n : Nat} {v : Value} (h : MksO W M v n) (hb : Below W.heap.size W W') : MksO W' M v n := by
  obtain ⟨A, c, h1, h2⟩ := h
  refine ⟨A, c, h1, fun h0 => ?_⟩
  obtain ⟨g, off, h3, h4, h5⟩ := h2 h0
  exact ⟨g, off, h3, Nat.lt_of_lt_of_le h4 hb.size, h5.more hb h4⟩

end Go.Proofs.YtebfefkknaalpaaDoor
