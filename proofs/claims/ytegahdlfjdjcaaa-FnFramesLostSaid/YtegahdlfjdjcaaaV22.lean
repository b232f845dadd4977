/- What this text proves: the parts IPk1, IPk of the proof, each under its own words. -/
import Derived.Test.YtegahdlfjdjcaaaV15
import Derived.Lib.SliceRun
import Derived.Deep.RegionHeld3
import Derived.Deep.Cut
import Derived.Deep.CutRange
import Derived.BigRegion
import Derived.RegionTactic
import Derived.Laws.Strings2
import Derived.Laws.Concat
import Derived.Test.YtegahdlfjdjcaaaV02
/- What this text proves: the contracts of the program's queue of bytes and of slices.Clone; what a packer at work is made of. -/
namespace Go.Proofs.Ytegahdlfjdjcaaa
open Go.ChangeShapes Go.WideShapes Go.ChangeAt Go.RowKit
set_option linter.unusedVariables false

/-- The cells of a packer at work: its queue, its channel, its count, its starts. -/
abbrev kL (c n : Int) (r : ByteArray) (v : Value) : List Value := [.string r, .int .i64 c, .int .i64 n, v]
abbrev ptr (g : Nat) : Value := .pointer (some ⟨g, 0, none⟩)
abbrev CellsK (W : World) (g : Nat) (x y z u : Value) : Prop := W.cell? ⟨g, 0, none⟩ = some x ∧ W.cell? ⟨g, 1, none⟩ = some y ∧ W.cell? ⟨g, 2, none⟩ = some z ∧ W.cell? ⟨g, 3, none⟩ = some u
theorem Box.fourK {W : World} {g : Nat} {x y z u : Value} (h : Box W g [x, y, z, u]) : CellsK W g x y z u := ⟨h.cell 0 (by simp), h.cell 1 (by simp), h.cell 2 (by simp), h.cell 3 (by simp)⟩

theorem size_q (r : ByteArray) (g : Nat) (w : World) (h : w.cell? ⟨g, 0, none⟩ = some (.string r)) :
    Calls Try.prog 84 #[ptr g] w fun e w' => e = .returned (.int .i64 (r.size : Int)) ∧ w = w' := by
  go_enter Try.func84, Try.ntmps84
  go_wp2
  go_ret
  exact ⟨rfl, rfl⟩
theorem put_q (r s : ByteArray) (g : Nat) (w : World) (h : w.cell? ⟨g, 0, none⟩ = some (.string r)) (hi : w.frozen? ⟨g, 0, none⟩ = false) (hz : r.size + s.size ≤ 1099511627) :
    Calls Try.prog 85 #[ptr g, .string s] w fun e w' => e = .returned (.tuple #[]) ∧ w' = w.setCell ⟨g, 0, none⟩ (.string (r ++ s)) := by
  have b1 : ¬ 9223372036854775807 < r.size + s.size := by omega
  go_enter Try.func85, Try.ntmps85
  go_wp2
  go_end0
  exact ⟨rfl, rfl⟩
theorem take_q (r : ByteArray) (n g : Nat) (w : World) (h : w.cell? ⟨g, 0, none⟩ = some (.string r)) (hi : w.frozen? ⟨g, 0, none⟩ = false) (hn : n ≤ r.size) :
    Calls Try.prog 86 #[ptr g, .int .i64 (n : Int)] w fun e w' => e = .returned (.string (r.extract 0 n)) ∧ w' = w.setCell ⟨g, 0, none⟩ (.string (r.extract n r.size)) := by
  have h1 : ∀ W : World, (Instr.slice 9 (.string r) none (some (.int .i64 (n : Int))) none).run Try.prog W = .ok (.string (r.extract 0 n)) W := fun W => by
    have h := run_slice_string_to_if W 9 r .i64 (n : Int) Try.underlying9
    rw [if_pos (by omega)] at h
    exact h
  have h2 : ∀ W : World, (Instr.slice 9 (.string r) (some (.int .i64 (n : Int))) none none).run Try.prog W = .ok (.string (r.extract n r.size)) W := fun W => by
    have h := run_slice_string_from_if W 9 r .i64 (n : Int) Try.underlying9
    rw [if_pos (by omega)] at h
    exact h
  go_enter Try.func86, Try.ntmps86
  go_wp2
  go_ret
  exact ⟨rfl, rfl⟩
theorem next_count (n : Int) (hn : 0 ≤ n ∧ n ≤ 255) (w : World) :
    Calls Try.prog 87 #[.int .i64 n] w fun e w' => e = .returned (.int .i64 ((n + 1) % 256)) ∧ w = w' := by
  have h : Int.tmod (n + 1) 256 = (n + 1) % 256 := Int.tmod_eq_emod_of_nonneg (by omega)
  go_enter Try.func87, Try.ntmps87
  go_wp2
  go_ret
  exact ⟨by rw [← h]; first | done | rfl, rfl⟩

set_option maxHeartbeats 1000000 in
theorem clone_any (A : Option Addr) (l : List Int) (k : Nat) (hl : l.length ≤ 1099511627) (w : World) (h : IntsAt w w.heap.size A l) :
    Calls Try.prog 83 #[.slice A l.length k] w fun e w' => ∃ v, e = .returned v ∧ OwnI w' w.heap.size v l ∧ Below w.heap.size w w' := by
  have hq : ∀ (w : World) (a : Option Addr) (n c n' c' : Nat), (binOp .eql 32 (.slice a n c) (.slice none n' c')).run Try.prog w = .ok (.bool a.isNone) w := fun w a n c n' c' => Lib.run_eql_slice_nil w _ _ a n c n' c' Try.underlying32
  have HB := Lib.hid ((Below.refl _ w).alloc (Nat.le_refl _) (.cells #[] 3))
  have HE := Lib.hid (OwnI.empty w w.heap.size (Nat.le_refl _))
  cases A with
  | none =>
    have h0 : l = [] := by
      rcases h with h0 | ⟨b, off, hA, _⟩
      · exact List.eq_nil_of_length_eq_zero h0
      · cases hA
    subst h0
    clear h
    go_enter Try.func83, Try.ntmps83
    go_wp2
    go_ret
    exact ⟨_, rfl, OwnI.nil _ _, Below.refl _ _⟩
  | some a =>
    have HI := Lib.hid (h.more HB.out)
    clear h
    go_enter Try.func83, Try.ntmps83
    go_wp2_with (at_builtin; go_loud (refine app_ints _ rfl _ _ rfl w.heap.size (.slice (some ⟨w.heap.size, 0, none⟩) 0 0) [] rfl HE.out w.heap.size (some a) l k rfl HI.out (by simpa using hl) (by simp) ?_))
    intro v w2 hown hg _
    have HO := Lib.hid hown
    have HB2 := Lib.hid (HB.out.grown hg (by simp) fun k hk => (World.ownsRow.lt HE.out k hk).1)
    clear hown hg
    go_wp2
    go_ret
    exact ⟨_, rfl, HO.out, HB2.out⟩

set_option maxHeartbeats 2000000 in
theorem packing_of (c n : Int) (r : ByteArray) (A : Option Addr) (l : List Int) (k : Nat) (hl : l.length ≤ 1099511627) (w : World) (h : IntsAt w w.heap.size A l) :
    Calls Try.prog 61 #[paV c n r (.slice A l.length k)] w fun e w' => ∃ v g, e = .returned (ptr g) ∧ w.heap.size ≤ g ∧ Box w' g (kL c n r v) ∧ OwnI w' w.heap.size v l ∧ v.ownBlock ≠ some g ∧ Below w.heap.size w w' := by
  have BX := Lib.hid (Box.made w (paL c n r (.slice A l.length k)) 34 _ rfl).drew
  have BB := Lib.hid ((Below.refl _ w).alloc (Nat.le_refl _) (.cells (paL c n r (.slice A l.length k)).toArray 34)).drew
  have HC := Lib.hid ((clone_any A l k hl _ ((h.more BB.out).raise BB.out.size)).mono fun e w' hh => (show ∃ A1 c1, e = .returned (.slice A1 l.length c1) ∧ OwnI w' (w.heap.size + 1) (.slice A1 l.length c1) l ∧ Below (w.alloc (.cells (paL c n r (.slice A l.length k)).toArray 34)).drew.heap.size (w.alloc (.cells (paL c n r (.slice A l.length k)).toArray 34)).drew w' ∧ Box w' w.heap.size (paL c n r (.slice A l.length k)) from by
    obtain ⟨v, h1, h2, h3⟩ := hh
    obtain ⟨A1, c1, rfl⟩ := h2.form
    exact ⟨A1, c1, h1, h2.lower (by simp), h3, BX.out.more h3⟩))
  obtain ⟨k0, k1, k2, k3⟩ := BX.out.fourP
  clear h
  go_enter Try.func61, Try.ntmps61
  go_wp2
  go_region_held3 (fun w' => w'.cell? ⟨w.heap.size, 0, none⟩ = some (.int .i64 c) ∧ w'.cell? ⟨w.heap.size, 1, none⟩ = some (.int .i64 n) ∧ w'.cell? ⟨w.heap.size, 2, none⟩ = some (.string r) ∧ w'.cell? ⟨w.heap.size, 3, none⟩ = some (.slice A l.length k)) (first | exact ⟨k0, k1, k2, k3⟩ | exact BX2.fourP | exact (BX2.alloc _).fourP)
    ((go_at_call 83; (with_reducible refine HC.out.mono ?_); rintro e w2 ⟨A1, c1, rfl, ho, hb, BX2⟩))
  all_goals
    have HF := Lib.hid (show w.heap.size ≤ w2.heap.size ∧ Box (w2.alloc (.cells #[.string r, .int .i64 c, .int .i64 n, .slice A1 l.length c1] 111)) w2.heap.size (kL c n r (.slice A1 l.length c1)) ∧ OwnI (w2.alloc (.cells #[.string r, .int .i64 c, .int .i64 n, .slice A1 l.length c1] 111)) w.heap.size (.slice A1 l.length c1) l ∧ (Value.slice A1 l.length c1).ownBlock ≠ some w2.heap.size ∧ Below w.heap.size w (w2.alloc (.cells #[.string r, .int .i64 c, .int .i64 n, .slice A1 l.length c1] 111)) from
      ⟨Nat.le_trans BB.out.size hb.size, Box.made w2 (kL c n r (.slice A1 l.length c1)) _ _ rfl, (ho.lower (by omega)).more ((Below.refl _ _).alloc (Nat.le_refl _) _), fun e => by have := (World.ownsRow.lt ho _ e).2; omega, (BB.out.trans (hb.mono BB.out.size)).alloc (Nat.le_trans BB.out.size hb.size) _⟩)
    clear ho hb BX2
  all_goals go_wp2
  all_goals go_ret
  all_goals exact ⟨_, _, rfl, HF.out⟩
/-- The boxes of a walk over PackPacket: the packer, the packet, the answer. -/
structure QP (w W : World) (p x r : List Value) : Prop where
  below : Below w.heap.size w W
  bp : Box W w.heap.size p
  bx : Box W (w.heap.size + 1) x
  br : Box W (w.heap.size + 2) r
theorem QP.far {w W : World} {p x r : List Value} (h : QP w W p x r) : w.heap.size + 3 ≤ W.heap.size := by have := h.br.lt; omega
theorem QP.moreAt {w W W' : World} {n : Nat} {p x r : List Value} (h : QP w W p x r) (hb : Below n W W') (hn : w.heap.size + 3 ≤ n) : QP w W' p x r :=
  ⟨h.below.trans (hb.mono (by omega)), h.bp.moreAt hb (by omega) hb.size, h.bx.moreAt hb (by omega) hb.size, h.br.moreAt hb (by omega) hb.size⟩
theorem QP.more {w W W' : World} {p x r : List Value} (h : QP w W p x r) (hb : Below W.heap.size W W') : QP w W' p x r := h.moreAt hb h.far
end Go.Proofs.Ytegahdlfjdjcaaa
/- What this text proves: the contracts of isWithin and of the program's PacketOk. -/
namespace Go.Proofs.Ytegahdlfjdjcaaa
open Go.ChangeShapes Go.WideShapes Go.ChangeAt Go.RowKit
set_option linter.unusedVariables false

theorem iw_yes (a b c : Int) (h1 : b ≤ a) (h2 : a ≤ c) (w : World) :
    Calls Try.prog 59 #[.int .i64 a, .int .i64 b, .int .i64 c] w fun e w' => e = .returned (.bool true) ∧ w = w' := by
  go_enter Try.func59, Try.ntmps59
  go_wp2
  go_ret
  exact ⟨rfl, rfl⟩
theorem iw_no (a b c : Int) (h : ¬ (b ≤ a ∧ a ≤ c)) (w : World) :
    Calls Try.prog 59 #[.int .i64 a, .int .i64 b, .int .i64 c] w fun e w' => e = .returned (.bool false) ∧ w = w' := by
  by_cases h1 : b ≤ a
  · have hd : decide (a ≤ c) = false := by simp; omega
    clear h
    go_enter Try.func59, Try.ntmps59
    go_wp2
    go_ret
    exact ⟨rfl, rfl⟩
  · have h2 : a < b := by omega
    clear h h1
    go_enter Try.func59, Try.ntmps59
    go_wp2
    go_ret
    exact ⟨rfl, rfl⟩
theorem pk_impl (a q : Int) (d : ByteArray) (w : World) :
    Calls Try.prog 19 #[pkV a q d] w fun e w' => e = .returned (.bool (decide (PkOk a q d))) ∧ Below w.heap.size w w' := by
  have HO := Lib.hid (show ∀ B : Bool, (B = (decide (0 ≤ a ∧ a ≤ 15) && (decide (0 ≤ q ∧ q ≤ 65535) && decide (d.size ≤ 40)))) → B = decide (PkOk a q d) from fun B h => by
    rw [h, Bool.eq_iff_iff]
    simp only [Bool.and_eq_true, decide_eq_true_iff]
    exact Iff.rfl)
  by_cases h1 : 0 ≤ a ∧ a ≤ 15
  · by_cases h2 : 0 ≤ q ∧ q ≤ 65535
    · have e1 := Lib.hid (decide_eq_true h1)
      have e2 := Lib.hid (decide_eq_true h2)
      have H1 := Lib.hid (iw_yes a 0 15 h1.1 h1.2)
      have H2 := Lib.hid (iw_yes q 0 65535 h2.1 h2.2)
      have hcast : decide ((d.size : Int) ≤ 40) = decide (d.size ≤ 40) := by rw [decide_eq_decide]; omega
      go_enter Try.func19, Try.ntmps19
      go_wp2_with fail
      refine (H1.out _).mono ?_
      rintro e w' ⟨rfl, rfl⟩
      go_wp2_with fail
      refine (H2.out _).mono ?_
      rintro e w' ⟨rfl, rfl⟩
      go_wp2
      go_ret
      exact ⟨by rw [← HO.out _ rfl, e1.out, e2.out]; simp, (Below.refl _ w).alloc (Nat.le_refl _) _⟩
    · have e1 := Lib.hid (decide_eq_true h1)
      have e2 := Lib.hid (decide_eq_false h2)
      have H1 := Lib.hid (iw_yes a 0 15 h1.1 h1.2)
      have H2 := Lib.hid (iw_no q 0 65535 h2)
      go_enter Try.func19, Try.ntmps19
      go_wp2_with fail
      refine (H1.out _).mono ?_
      rintro e w' ⟨rfl, rfl⟩
      go_wp2_with fail
      refine (H2.out _).mono ?_
      rintro e w' ⟨rfl, rfl⟩
      go_wp2
      go_ret
      exact ⟨by rw [← HO.out _ rfl, e1.out, e2.out]; simp, (Below.refl _ w).alloc (Nat.le_refl _) _⟩
  · have e1 := Lib.hid (decide_eq_false h1)
    have H1 := Lib.hid (iw_no a 0 15 h1)
    go_enter Try.func19, Try.ntmps19
    go_wp2_with fail
    refine (H1.out _).mono ?_
    rintro e w' ⟨rfl, rfl⟩
    go_wp2
    go_ret
    exact ⟨by rw [← HO.out _ rfl, e1.out]; simp, (Below.refl _ w).alloc (Nat.le_refl _) _⟩
end Go.Proofs.Ytegahdlfjdjcaaa
