/- What this text proves: the parts BufS, TxS, MarkT, TxM, TxT of the proof, each under its own words. -/
import Derived.Test.YtckofkdeedbbgaaV00
import Derived.WalkKit
import Derived.LoopTactic
import Derived.IntWalk
import Derived.OwnWalk
import Derived.Laws.AppendOwn
import Derived.Laws.OwnMore
import Derived.Lib.Hide
import Derived.Test.YtckofkdeedbbgaaV11
import Derived.Laws.Concat
import Derived.Deep.LoopGhost
import Derived.BigQuiet
import Derived.BigRegion
import Derived.Outline
import Derived.Test.YtckofkdeedbbgaaV10
import Derived.Deep.RegionLaw
import Derived.Laws.MakeOwn
/- What this text proves: a list of texts that grows in a slice of the call's own: what an append of one text makes of it. -/
namespace Go.Proofs.Ytckofkdeedbbgaa
open Go.ChangeShapes Go.WideShapes Go.ChangeAt Go.RowKit

/-- A slice of strings that holds the texts l in a block of its own, from block 'base' on. -/
def OwnS (w : World) (base : Nat) (v : Value) (l : List ByteArray) : Prop := w.ownsRow base 9 1 v l.length (l.map Value.string)

theorem info_str : (Try.prog.info? 9).map (fun i => (i.zero, i.size, i.bytes)) = some (some (.string ⟨#[]⟩), 1, 16) := by kernel_rfl

theorem OwnS.more {w w' : World} {base : Nat} {v : Value} {l : List ByteArray} (h : OwnS w base v l) (hb : Below w.heap.size w w') : OwnS w' base v l := by
  refine World.ownsRow.kept (row := none) h ⟨hb.os, hb.tape, hb.output, hb.size, fun k hk _ => hb.block k hk⟩ ?_
  by_cases he : v.ownBlock = none
  · exact .inl he
  · exact .inr he
theorem OwnS.nil (w : World) (base : Nat) : OwnS w base (.slice none 0 0) [] := World.ownsRow_nil w base _ 1
theorem OwnS.empty (w : World) (base : Nat) (hb : base ≤ w.heap.size) : OwnS (w.alloc (.cells #[] 9)) base (.slice (some ⟨w.heap.size, 0, none⟩) 0 0) [] :=
  World.ownsRow_lit w #[] 0 hb (by decide) rfl
theorem OwnS.form {w : World} {base : Nat} {v : Value} {l : List ByteArray} (h : OwnS w base v l) : ∃ A c, v = .slice A l.length c := by
  rcases h.2 with ⟨rfl, hn⟩ | ⟨g, cap, cur, rfl, _⟩
  · exact ⟨none, 0, by rw [hn]⟩
  · exact ⟨_, cap, rfl⟩
theorem OwnS.lower {w : World} {base base' : Nat} {v : Value} {l : List ByteArray} (h : OwnS w base v l) (hb : base' ≤ base) : OwnS w base' v l := by
  refine ⟨h.1, ?_⟩
  rcases h.2 with h1 | ⟨g, cap, cur, h1, h2, h3⟩
  · exact .inl h1
  · exact .inr ⟨g, cap, cur, h1, Nat.le_trans hb h2, h3⟩

theorem app_text {ops : Array Oper} {rest : List Oper} {o : Oper} {a : Act} {Q : Exit → Act → World → Prop} (w : World) (hgd : o.guard = none) (s x : Operand)
    (ho : o.op = .call { callee := .builtin .append, args := #[s, x], argTypes := #[65, 65] })
    (base : Nat) (v : Value) (l : List ByteArray) (t : ByteArray) (hs : a.eval s = v) (hown : OwnS w base v l) (T : TypeId) (c : Nat)
    (hx : a.eval x = .slice (some ⟨w.heap.size, 0, none⟩) 1 c)
    (hlen : l.length ≤ 1099511627) (hbase : base ≤ w.heap.size)
    (h : ∀ v' w', OwnS w' base v' (l ++ [t]) → Below base w w' → w.heap.size ≤ w'.heap.size → wpList Try.prog ops Q rest (a.put o.dst v') w') :
    wpList Try.prog ops Q (o :: rest) a (w.alloc (.cells #[.string t] T)) := by
  obtain ⟨i, hi, hz0, hz1, hz2⟩ := info_parts info_str
  have hown' : (w.alloc (.cells #[.string t] T)).ownsRow base 9 1 v l.length (l.map Value.string) := World.ownsRow.alloc hown _
  refine wpList_append_own _ hgd s x 65 ho base 9 i (.string ⟨#[]⟩) 1 16 Try.underlying65 hi hz0 hz1 hz2 rfl (by decide) v l.length (l.map Value.string) hs hown'
    ⟨w.heap.size, 0, none⟩ 1 c [.string t] hx rfl (fun j u hu => ?_) (fun u hu => ?_) (by unfold maxLen; omega) (by omega) (by simp; omega) (fun v' w' hown2 hg _ => ?_)
  · rw [show (⟨w.heap.size, 0, none⟩ : Addr).add j = ⟨w.heap.size, j, none⟩ from by unfold Addr.add; split <;> simp_all]
    rw [World.cell?_alloc_at _ _ _ _ rfl]
    simpa using hu
  · obtain rfl : u = .string t := by simpa using hu
    rfl
  · have hz : w.heap.size ≤ w'.heap.size := by have := hg.size; simp at this; omega
    refine h v' w' ?_ ?_ hz
    · unfold OwnS
      rw [List.length_append, List.map_append]
      exact hown2
    · exact ((Below.refl base w).alloc hbase _).grown hg (by simp; omega) fun k hk => (World.ownsRow.lt hown' k hk).1
end Go.Proofs.Ytckofkdeedbbgaa
/- What this text proves: lists of texts somewhere in a block of the call's own: their cells; the laws' own comparison finds equal ones equal. -/
namespace Go.Proofs.Ytckofkdeedbbgaa
open Go.ChangeShapes Go.WideShapes Go.ChangeAt Go.RowKit
set_option linter.unusedVariables false


abbrev txC (i : ByteArray) : List Value := [.string i]
abbrev OwnTx (w : World) (base : Nat) (v : Value) (l : List ByteArray) : Prop := LsO 1 w base v (l.map txC)
theorem tx_len (l : List ByteArray) : ∀ x ∈ l.map txC, x.length = 1 := fun x hx => by obtain ⟨q, _, rfl⟩ := List.mem_map.1 hx; rfl
theorem tx_one (l : List ByteArray) : ∀ x ∈ l.map txC, ∀ u ∈ x, u.oneCell' = true := fun x hx u hu => by
  obtain ⟨q, _, rfl⟩ := List.mem_map.1 hx
  simp only [txC, List.mem_cons, List.not_mem_nil, or_false] at hu
  subst hu
  rfl
theorem tx_flat (l : List ByteArray) : (l.map txC).flatten = l.map (Value.string) := by
  induction l with
  | nil => rfl
  | cons a r ih => rw [List.map_cons, List.flatten_cons, ih]; rfl
theorem txCells {w : World} {base g off N c : Nat} {l : List ByteArray} (h : OwnTx w base (.slice (some ⟨g, off, none⟩) N c) l) (k : Nat) (hk : k < l.length) : w.cell? ⟨g, off + k, none⟩ = some (.string l[k]) := by
  have hc := (h.at rfl (by rw [List.length_map]; omega)).1
  have h0 := hc k (by rw [List.length_map]; exact hk) 0 (by decide)
  simp only [List.getElem_map, Nat.mul_one] at h0
  exact h0
theorem txCellsI {w : World} {B : Nat} {A : Option Addr} {l : List ByteArray} (h : LsI 1 w B A (l.map txC)) (h0 : 0 < l.length) : ∃ b off, A = some ⟨b, off, none⟩ ∧ b < B ∧ ∀ k (hk : k < l.length), w.cell? ⟨b, off + k, none⟩ = some (.string l[k]) := by
  rcases h with h | ⟨b, off, hA, hb, hc⟩
  · rw [List.length_map] at h; omega
  · refine ⟨b, off, hA, hb, fun k hk => ?_⟩
    have h0 := hc k (by rw [List.length_map]; exact hk) 0 (by decide)
    simp only [List.getElem_map, Nat.mul_one] at h0
    exact h0
theorem OwnTx.nform {w : World} {base : Nat} {v : Value} {l : List ByteArray} (h : OwnTx w base v l) : ∃ A c, v = .slice A l.length c := by
  obtain ⟨A, c, h1⟩ := LsO.form h
  exact ⟨A, c, by rw [h1, List.length_map]⟩

end Go.Proofs.Ytckofkdeedbbgaa
/- What this text proves: the contract of the laws' own mark of a number as a text. -/
namespace Go.Proofs.Ytckofkdeedbbgaa
open Go.ChangeShapes Go.WideShapes Go.ChangeAt Go.RowKit
set_option linter.unusedVariables false

/-- The digits of a number, by at most f of them. -/
def dgF : Nat → Nat → List UInt8
  | 0, _ => []
  | f + 1, k => if k = 0 then [] else dgF f (k / 10) ++ [UInt8.ofNat (48 + k % 10)]
theorem dgF_zero (f : Nat) : dgF f 0 = [] := by cases f <;> rfl
def markV (k : Nat) : ByteArray := ⟨#[109]⟩ ++ ⟨(dgF 64 k).toArray⟩
theorem one_text (w : World) (d : UInt8) : (convert 22 9 (.slice (some ⟨w.heap.size, 0, none⟩) 1 1)).run Try.prog (w.alloc (.cells #[.int .u8 (d.toNat : Int)] 5)) = .ok (.string ⟨#[d]⟩) (w.alloc (.cells #[.int .u8 (d.toNat : Int)] 5)) := by
  have h := run_convert_bytes_back (P := Try.prog) (w.alloc (.cells #[.int .u8 (d.toNat : Int)] 5)) 22 9 5 ⟨w.heap.size, 0, none⟩ 1 [d] Try.underlying22 Try.underlying5 Try.underlying9 (fun j hj => by
    obtain rfl : j = 0 := by simp at hj; omega
    show (w.alloc (.cells #[.int .u8 (d.toNat : Int)] 5)).cell? ⟨w.heap.size, 0, none⟩ = _
    rw [World.cell?_alloc_at _ _ _ _ rfl]
    rfl)
  simpa using h

set_option maxHeartbeats 1000000 in
theorem mark_text (n : Nat) (h0 : 0 < n) (hn : n < 1000000000) (w : World) :
    Calls Try.prog 150 #[.int .i64 n] w fun e w' => e = .returned (.string (markV n)) ∧ Below w.heap.size w w' := by
  have hd : decide ((n : Int) ≤ 0) = false := by simp; omega
  go_enter Try.func150, Try.ntmps150
  go_wp2
  go_loopw [0, 3] (fun i s wr => ∃ (f k : Nat) (t : ByteArray), i = .int .i64 (k : Int) ∧ s = .string t ∧ k < 2 ^ f ∧ k < 1000000000 ∧ t.size + f ≤ 64 ∧ dgF 64 n = dgF f k ++ t.data.toList ∧ Below w.heap.size w wr) (fun i _ _ => (intOf i).toNat)
  case atStart => exact ⟨64, n, ⟨#[]⟩, rfl, rfl, by omega, hn, by simp; rfl, by simp, Below.refl _ _⟩
  case round =>
    obtain ⟨f, k, t, rfl, rfl, hf, hk, ht, he, hbel⟩ := hrel
    have He := Lib.hid he
    clear he
    by_cases hpos : 0 < k
    · have hp : decide (0 < k) = true := by simp; omega
      obtain ⟨f', hff⟩ : ∃ j, f = j + 1 := ⟨f - 1, by
        rcases Nat.eq_zero_or_pos f with h1 | h1
        · rw [h1] at hf; simp at hf; omega
        · omega⟩
      rw [hff] at hf ht He
      have hf2 := Lib.hid (show k / 10 < 2 ^ f' by rw [Nat.pow_succ] at hf; omega)
      clear hf hff
      have hdig := Lib.hid (show dgF (f' + 1) k = dgF f' (k / 10) ++ [UInt8.ofNat (48 + k % 10)] by simp only [dgF]; rw [if_neg (by omega)])
      have hval : ((UInt8.ofNat (48 + k % 10)).toNat : Int) = 48 + (k : Int) % 10 := by rw [UInt8.toNat_ofNat']; omega
      have hcv := one_text wr (UInt8.ofNat (48 + k % 10))
      rw [hval] at hcv
      clear hval
      generalize UInt8.ofNat (48 + k % 10) = d at *
      have hds : (⟨#[d]⟩ : ByteArray).size = 1 := rfl
      go_wp2
      refine ⟨⟨f', k / 10, ⟨#[d]⟩ ++ t, by go_num, rfl, hf2.out, by omega, by rw [ByteArray.size_append, hds]; omega, ?_, hbel.alloc hbel.size _⟩, by simp [intOf]; omega⟩
      rw [He.out, hdig.out]
      simp [ByteArray.data_append]
    · obtain rfl : k = 0 := by omega
      have hfin := Lib.hid (show t = ⟨(dgF 64 n).toArray⟩ by
        have h := He.out
        rw [dgF_zero, List.nil_append] at h
        rw [h])
      have h1 : (⟨#[109]⟩ : ByteArray).size = 1 := rfl
      clear hpos
      go_wp2
      go_ret
      exact ⟨by rw [hfin.out]; rfl, hbel⟩
end Go.Proofs.Ytckofkdeedbbgaa
/- What this text proves: the contracts of the laws' marks over lists of texts: marks that were written are found again, and change nothing else. -/
namespace Go.Proofs.Ytckofkdeedbbgaa
open Go.ChangeShapes Go.WideShapes Go.ChangeAt Go.RowKit
set_option linter.unusedVariables false


/-- The mark of the i-th. -/
def mkTx (M i : Nat) : List Value := [.string (markV (M + i))]

end Go.Proofs.Ytckofkdeedbbgaa
/- What this text proves: the contracts of the laws' own functions over a list of texts that was handed to them: its size, its copy. -/
namespace Go.Proofs.Ytckofkdeedbbgaa
open Go.ChangeShapes Go.WideShapes Go.ChangeAt Go.RowKit
set_option linter.unusedVariables false

/-- The bytes of the first k. -/
def totTx (fs : List ByteArray) : Nat → Nat
  | 0 => 0
  | k + 1 => totTx fs k + (fs.getD k ⟨#[]⟩).size
theorem totTx_le (fs : List ByteArray) {j k : Nat} (h : j ≤ k) : totTx fs j ≤ totTx fs k := by
  induction k with
  | zero => obtain rfl : j = 0 := by omega
            exact Nat.le_refl _
  | succ k ih =>
    rcases Nat.lt_or_ge j (k + 1) with h1 | h1
    · exact Nat.le_trans (ih (by omega)) (Nat.le_add_right _ _)
    · obtain rfl : j = k + 1 := by omega
      exact Nat.le_refl _
theorem getTx_at {l : List ByteArray} {k : Nat} (h : k < l.length) : l.getD k ⟨#[]⟩ = l[k] := by
  rw [List.getD_eq_getElem?_getD, List.getElem?_eq_getElem h]
  rfl
theorem totTx_succ {l : List ByteArray} {k : Nat} (h : k < l.length) : totTx l (k + 1) = totTx l k + l[k].size := by simp only [totTx]; rw [getTx_at h]
theorem totTx_at (l : List ByteArray) {k : Nat} (h : k < l.length) : l[k].size ≤ totTx l l.length := by
  have h1 := totTx_succ h
  have h2 := totTx_le l (show k + 1 ≤ l.length from h)
  omega

/-- What is left of a limit. -/
def szV (n L : Nat) : Int := if n ≤ L then ((L - n : Nat) : Int) else -1
theorem szV_yes {n L : Nat} (h : n ≤ L) : szV n L = ((L - n : Nat) : Int) := if_pos h
theorem szV_no {n L : Nat} (h : ¬ n ≤ L) : szV n L = -1 := if_neg h

/-- Block g holds the n texts m. -/
def RowX (w : World) (base g n c : Nat) (m : List ByteArray) : Prop := w.ownsRow base 9 1 (.slice (some ⟨g, 0, none⟩) n c) n (m.map Value.string)
theorem RowX.len {w : World} {base g n c : Nat} {m : List ByteArray} (h : RowX w base g n c m) : m.length = n := by have := h.1; simpa using this
theorem RowX.store {w : World} {base g n c : Nat} {m : List ByteArray} (h : RowX w base g n c m) (j : Nat) (t : ByteArray) : RowX (w.setCell ⟨g, j, none⟩ (.string t)) base g n c (m.set j t) := by
  have h2 := (World.ownsRow.stored h j (.string t)).1
  unfold RowX
  rw [List.map_set]
  exact h2
theorem RowX.cell {w : World} {base g n c : Nat} {m : List ByteArray} (h : RowX w base g n c m) (j : Nat) (hj : j < n) : w.cell? ⟨g, j, none⟩ = some (.string (m[j]'(by rw [h.len]; exact hj))) := by
  rw [World.ownsRow.cellAt h j (by omega)]
  have := h.len
  simp [show j < m.length by omega]
theorem RowX.frozen {w : World} {base g n c : Nat} {m : List ByteArray} (h : RowX w base g n c m) (j : Nat) : w.frozen? ⟨g, j, none⟩ = false := World.ownsRow.frozenAt h j
theorem make_fullX (W : World) (n : Nat) (hn : n ≤ 109951162777) :
    (Instr.makeSlice 65 (.int .i64 (n : Int)) (.int .i64 (n : Int))).run Try.prog W = .ok (.slice (some ⟨W.heap.size, 0, none⟩) n n) (W.alloc (.cells (madeCells (Value.string ⟨#[]⟩).cells n) 9)) := by
  obtain ⟨i, hi, hz0, hz1, hz2⟩ := info_parts info_str
  have h := run_make (P := Try.prog) W 65 9 i (.string ⟨#[]⟩) Try.underlying65 hi hz0 .i64 .i64 n n (by omega) (by omega) (by rw [hz2]; omega) (by omega)
  rw [hz1] at h
  simpa using h
theorem make_rowX (W : World) (n : Nat) (hn : n ≤ 109951162777) : RowX (W.alloc (.cells (madeCells (Value.string ⟨#[]⟩).cells n) 9)) W.heap.size W.heap.size n n (List.replicate n ⟨#[]⟩) := by
  have h := World.ownsRow_lit (base := W.heap.size) (e := 9) (size := 1) W (madeCells (Value.string ⟨#[]⟩).cells n) n (Nat.le_refl _) (by unfold maxLen; omega) (by rw [size_madeCells]; omega)
  have e : (madeCells (Value.string ⟨#[]⟩).cells n).toList = (List.replicate n (⟨#[]⟩ : ByteArray)).map Value.string := by
    rw [show (Value.string ⟨#[]⟩).cells = #[Value.string ⟨#[]⟩] from rfl, toList_madeCells_one, List.map_replicate]
  rw [e] at h
  exact h
theorem RowX.own {w : World} {base g n c : Nat} {m : List ByteArray} (h : RowX w base g n c m) : OwnR 9 1 w base (.slice (some ⟨g, 0, none⟩) n c) (m.map txC) := by
  refine ⟨?_, tx_len m⟩
  rw [tx_flat, List.length_map, h.len]
  exact h
theorem LsI.texts {w : World} {B : Nat} {A : Option Addr} {l : List ByteArray} (h : LsI 1 w B A (l.map txC)) : l.length = 0 ∨ ∃ b off, A = some ⟨b, off, none⟩ ∧ b < B ∧ ∀ k (hk : k < l.length), w.cell? ⟨b, off + k, none⟩ = some (.string l[k]) := by
  rcases Nat.eq_zero_or_pos l.length with h0 | h0
  · exact .inl h0
  · exact .inr (txCellsI h h0)

end Go.Proofs.Ytckofkdeedbbgaa
