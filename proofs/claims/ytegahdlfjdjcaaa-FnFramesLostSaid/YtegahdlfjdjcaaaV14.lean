/- What this text proves: the parts Pak of the proof, each under its own words. -/
import Derived.Test.YtegahdlfjdjcaaaV00
import Derived.Test.YtegahdlfjdjcaaaV13
import Derived.Laws.MakeOwn
import Derived.Deep.LoopGhost
/- What this text proves: the contracts of the laws' own functions over packers: their sizes, copies, comparisons and marks. -/
namespace Go.Proofs.Ytegahdlfjdjcaaa
open Go.ChangeShapes Go.WideShapes Go.ChangeAt Go.RowKit
set_option linter.unusedVariables false

/-- A packer as a value; v: the slice of its Starts. -/
abbrev paV (c n : Int) (r : ByteArray) (v : Value) : Value := .agg #[.int .i64 c, .int .i64 n, .string r, v]
abbrev paL (c n : Int) (r : ByteArray) (v : Value) : List Value := [.int .i64 c, .int .i64 n, .string r, v]

/-- Numbers that are there to be read: the argument of a law. -/
def IntsAt (w : World) (B : Nat) (A : Option Addr) (l : List Int) : Prop :=
  l.length = 0 ∨ ∃ b off, A = some ⟨b, off, none⟩ ∧ b < B ∧ ∀ j (hj : j < l.length), w.cell? ⟨b, off + j, none⟩ = some (.int .i64 l[j])
theorem IntsAt.more {w w' : World} {B : Nat} {A : Option Addr} {l : List Int} (h : IntsAt w B A l) (hb : Below B w w') : IntsAt w' B A l := by
  rcases h with h | ⟨b, off, hA, hlt, hc⟩
  · exact .inl h
  · exact .inr ⟨b, off, hA, hlt, fun j hj => (hb.cell (p := ⟨b, off + j, none⟩) hlt).trans (hc j hj)⟩

theorem make_fullI (W : World) (n : Nat) (hn : n ≤ 1099511627776) :
    (Instr.makeSlice 32 (.int .i64 (n : Int)) (.int .i64 (n : Int))).run Try.prog W = .ok (.slice (some ⟨W.heap.size, 0, none⟩) n n) (W.alloc (.cells (madeCells (Value.int .i64 0).cells n) 3)) := by
  obtain ⟨i, hi, hz0, hz1, hz2⟩ := info_parts info_int
  have h := run_make (P := Try.prog) W 32 3 i (.int .i64 0) Try.underlying32 hi hz0 .i64 .i64 n n (by omega) (by omega) (by rw [hz2]; omega) (by omega)
  rw [hz1] at h
  simpa using h
theorem make_rowI (W : World) (n : Nat) (hn : n ≤ 1099511627776) : RowI (W.alloc (.cells (madeCells (Value.int .i64 0).cells n) 3)) W.heap.size W.heap.size n n (List.replicate n 0) := by
  have h := World.ownsRow_lit (base := W.heap.size) (e := 3) (size := 1) W (madeCells (Value.int .i64 0).cells n) n (Nat.le_refl _) (by unfold maxLen; omega) (by rw [size_madeCells]; omega)
  have e : (madeCells (Value.int .i64 0).cells n).toList = (List.replicate n (0 : Int)).map (Value.int .i64) := by
    rw [show (Value.int .i64 0).cells = #[Value.int .i64 0] from rfl, toList_madeCells_one, List.map_replicate]
  rw [e] at h
  exact h
theorem RowI.own {w : World} {base g n c : Nat} {m : List Int} (h : RowI w base g n c m) : OwnI w base (.slice (some ⟨g, 0, none⟩) n c) m := by
  unfold OwnI
  rw [h.len]
  exact h

set_option maxHeartbeats 2000000 in
theorem toI_any (A : Option Addr) (l : List Int) (c : Nat) (hl : l.length ≤ 1048576) (w : World) (h : IntsAt w w.heap.size A l) :
    Calls Try.prog 74 #[.slice A l.length c] w fun e w' => ∃ v, e = .returned v ∧ OwnI w' w.heap.size v l ∧ Below w.heap.size w w' := by
  have hmk := fun W => make_fullI W l.length (by omega)
  have HR0 := Lib.hid (make_rowI w l.length (by omega))
  have HB0 := Lib.hid ((Below.refl _ w).alloc (Nat.le_refl _) (.cells (madeCells (Value.int .i64 0).cells l.length) 3))
  have HI := Lib.hid (fun W (hb : Below w.heap.size w W) => h.more hb)
  clear h
  go_enter Try.func74, Try.ntmps74
  go_wp2
  clear hmk
  go_loopg [4] l.length (fun gh v4 wx => ∃ (k : Nat) (m : List Int), k ≤ l.length ∧ gh = l.length - k ∧ v4 = .int .i64 (k : Int) ∧ m.take k = l.take k ∧ RowI wx w.heap.size w.heap.size l.length l.length m ∧ Below w.heap.size w wx)
  case atStart => exact ⟨0, List.replicate l.length 0, by omega, rfl, rfl, rfl, HR0.out, HB0.out⟩
  case round =>
    obtain ⟨k, m, hk, rfl, rfl, htk, hrow, hbel⟩ := hrel
    have HTK := Lib.hid htk
    have HB := Lib.hid hbel
    clear htk
    by_cases hlt : k < l.length
    · have hd : decide (k < l.length) = true := by simp; omega
      have hd' : decide ((k : Int) < (l.length : Int)) = true := by simp; omega
      rcases HI.out _ hbel with h0 | ⟨b, off, rfl, hb, hc⟩
      · omega
      · have hck := hc k hlt
        have hml := hrow.len
        have hcell := hrow.cell k hlt
        have hf := hrow.frozen k
        have HST := Lib.hid (hrow.store k l[k])
        have HLK := Lib.hid (show (m.set k l[k]).take (k + 1) = l.take (k + 1) by
          rw [List.take_succ_eq_append_getElem (by rw [List.length_set]; omega), List.getElem_set_self, List.take_set_of_le (Nat.le_refl _), HTK.out, ← List.take_succ_eq_append_getElem hlt])
        obtain ⟨x, hx⟩ : ∃ x, l[k] = x := ⟨_, rfl⟩
        rw [hx] at hck HST HLK
        clear hc hx hbel
        go_wp2
        go_roundg (l.length - (k + 1))
        case measure => omega
        case rel => exact ⟨k + 1, _, by omega, rfl, by go_num, HLK.out, HST.out, HB.out.setCell (p := ⟨w.heap.size, k, none⟩) (Nat.le_refl _) _⟩
    · have hd : decide (k < l.length) = false := by simp; omega
      have hd' : decide ((k : Int) < (l.length : Int)) = false := by simp; omega
      have hml := hrow.len
      have HF := Lib.hid (show m = l by
        have h := HTK.out
        rw [List.take_of_length_le (by omega), List.take_of_length_le (by omega)] at h
        exact h)
      have HO := Lib.hid (show OwnI wr w.heap.size (.slice (some ⟨w.heap.size, 0, none⟩) l.length l.length) l by
        have ho := hrow.own
        rw [HF.out] at ho
        exact ho)
      clear hrow hml
      go_wp2
      go_ret
      exact ⟨_, rfl, HO.out, HB.out⟩
theorem szI_any (A : Option Addr) (n c L : Nat) (hn : n ≤ maxLen) (hL : L ≤ 1048576) (w : World) :
    Calls Try.prog 73 #[.slice A n c, .int .i64 (L : Int)] w fun e w' => e = .returned (.int .i64 (if n ≤ L then (L : Int) - (n : Int) else -1)) ∧ w = w' := by
  have hn' : n ≤ 9223372036854775807 := by unfold maxLen at hn; omega
  by_cases h : n ≤ L
  · rw [if_pos h]
    have hd0 : decide ((L : Int) - (n : Int) < 0) = false := by simp; omega
    go_enter Try.func73, Try.ntmps73
    go_wp2
    go_ret
    exact ⟨rfl, rfl⟩
  · rw [if_neg h]
    have hd0 : decide ((L : Int) - (n : Int) < 0) = true := by simp; omega
    go_enter Try.func73, Try.ntmps73
    go_wp2
    go_ret
    exact ⟨rfl, rfl⟩
theorem eq_pak (c n : Int) (r : ByteArray) (l : List Int) (hl : l.length ≤ 2000000) (v1 v2 : Value) (b1 b2 : Nat) (w : World) (h1 : OwnI w b1 v1 l) (h2 : OwnI w b2 v2 l) :
    Calls Try.prog 49 #[paV c n r v1, paV c n r v2] w fun e w' => e = .returned (.bool true) ∧ Below w.heap.size w w' := by
  have hself : (r.toList == r.toList) = true := beq_self_eq_true _
  obtain ⟨A1, c1, rfl⟩ := h1.form
  obtain ⟨A2, c2, rfl⟩ := h2.form
  have HE := Lib.hid (fun W (hb : Below w.heap.size w W) => eqI_any W b1 b2 (.slice A1 l.length c1) (.slice A2 l.length c2) l hl (h1.more hb) (h2.more hb))
  clear h1 h2
  go_enter Try.func49, Try.ntmps49
  go_wp2_with fail
  refine (HE.out _ (((Below.refl _ w).alloc (Nat.le_refl _) _).alloc (by simp) _)).mono ?_
  rintro e w' ⟨rfl, d, rfl⟩
  go_wp2
  go_ret
  exact ⟨rfl, below_draws (((Below.refl _ w).alloc (Nat.le_refl _) _).alloc (by simp) _) d⟩
theorem mark_pak (c n : Int) (r : ByteArray) (l : List Int) (hl : l.length ≤ 2000000) (v : Value) (b : Nat) (w : World) (h : OwnI w b v l) (hb : b ≤ w.heap.size) :
    Calls Try.prog 51 #[paV c n r v, .int .i64 1] w fun e w' => e = .returned (.int .i64 ((1 + l.length : Nat) : Int)) ∧ OwnI w' b v (marksI 1 l.length) ∧ Below b w w' ∧ w.heap.size ≤ w'.heap.size := by
  obtain ⟨A1, c1, rfl⟩ := h.form
  have HE := Lib.hid (fun W (hW : Below w.heap.size w W) => markI_any W b (.slice A1 l.length c1) l hl (h.more hW) (Nat.le_trans hb hW.size))
  clear h
  go_enter Try.func51, Try.ntmps51
  go_wp2_with fail
  refine (HE.out _ ((Below.refl _ w).alloc (Nat.le_refl _) _)).mono ?_
  rintro e w' ⟨rfl, hown, hbel, hz⟩
  have HO := Lib.hid hown
  have HB := Lib.hid (((Below.refl b w).alloc hb _).trans hbel)
  have HZ := Lib.hid (show w.heap.size ≤ w'.heap.size by simp at hz; omega)
  clear hown hbel hz
  go_wp2
  go_ret
  exact ⟨rfl, HO.out, HB.out, HZ.out⟩
theorem held_pak (c n : Int) (r : ByteArray) (N : Nat) (hN : N ≤ 2000000) (v : Value) (b : Nat) (w : World) (h : OwnI w b v (marksI 1 N)) :
    Calls Try.prog 52 #[paV c n r v, .int .i64 1] w fun e w' => e = .returned (.int .i64 ((1 + N : Nat) : Int)) ∧ Below w.heap.size w w' := by
  obtain ⟨A1, c1, rfl⟩ := h.form
  have hd : decide (((1 + N : Nat) : Int) < 0) = false := by simp; omega
  have HE := Lib.hid (fun W (hW : Below w.heap.size w W) => heldI_any W b N (.slice A1 (marksI 1 N).length c1) hN (h.more hW))
  clear h
  go_enter Try.func52, Try.ntmps52
  go_wp2_with fail
  refine (HE.out _ ((Below.refl _ w).alloc (Nat.le_refl _) _)).mono ?_
  rintro e w' ⟨rfl, d, rfl⟩
  obtain ⟨K, hK⟩ : ∃ K, ((1 + N : Nat) : Int) = K := ⟨_, rfl⟩
  have HK := Lib.hid hK
  rw [hK] at hd ⊢
  clear hK
  go_wp2
  go_ret
  exact ⟨by rw [HK.out]; rfl, below_draws ((Below.refl _ w).alloc (Nat.le_refl _) _) d⟩

theorem sz_pak (c n : Int) (r : ByteArray) (A : Option Addr) (m k L : Nat) (hL : L ≤ 1048576) (hr : r.size ≤ maxLen) (hm : m ≤ maxLen) (w : World) :
    Calls Try.prog 46 #[paV c n r (.slice A m k), .int .i64 (L : Int)] w fun e w' => e = .returned (.int .i64 (if r.size + m ≤ L then (L : Int) - ((r.size + m : Nat) : Int) else -1)) ∧ Below w.heap.size w w' := by
  have hr' : r.size ≤ 9223372036854775807 := by unfold maxLen at hr; omega
  by_cases h : r.size ≤ L
  · have hd0 : decide ((L : Int) - (r.size : Int) < 0) = false := by simp; omega
    have hc := szI_any A m k (L - r.size) hm (by omega)
    rw [show ((L - r.size : Nat) : Int) = (L : Int) - (r.size : Int) by omega] at hc
    by_cases h2 : r.size + m ≤ L
    · rw [if_pos (by omega)] at hc
      rw [if_pos h2, show (L : Int) - ((r.size + m : Nat) : Int) = (L : Int) - (r.size : Int) - (m : Int) by omega]
      have HC := Lib.hid hc
      have hd1 : decide ((L : Int) - (r.size : Int) - (m : Int) < 0) = false := by simp; omega
      clear hc
      go_enter Try.func46, Try.ntmps46
      go_wp2_with fail
      refine (HC.out _).mono ?_
      rintro e w' ⟨rfl, rfl⟩
      go_wp2
      go_ret
      exact ⟨rfl, (Below.refl _ w).alloc (Nat.le_refl _) _⟩
    · rw [if_neg (by omega)] at hc
      rw [if_neg h2]
      have HC := Lib.hid hc
      clear hc
      go_enter Try.func46, Try.ntmps46
      go_wp2_with fail
      refine (HC.out _).mono ?_
      rintro e w' ⟨rfl, rfl⟩
      go_wp2
      go_ret
      exact ⟨rfl, (Below.refl _ w).alloc (Nat.le_refl _) _⟩
  · have hd0 : decide ((L : Int) - (r.size : Int) < 0) = true := by simp; omega
    rw [if_neg (by omega)]
    go_enter Try.func46, Try.ntmps46
    go_wp2
    go_ret
    exact ⟨rfl, (Below.refl _ w).alloc (Nat.le_refl _) _⟩
end Go.Proofs.Ytegahdlfjdjcaaa
