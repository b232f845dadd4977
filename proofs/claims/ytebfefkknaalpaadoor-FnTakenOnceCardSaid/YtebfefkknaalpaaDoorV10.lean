/- What this text proves: the parts Rcv, HrM of the proof, each under its own words. -/
import Derived.Test.YtebfefkknaalpaaDoorV00
import Derived.Test.YtebfefkknaalpaaDoorV05
import Derived.Test.YtebfefkknaalpaaDoorV06
import Derived.Test.YtebfefkknaalpaaDoorV07
import Derived.Test.YtebfefkknaalpaaDoorV09
import Derived.ChangeKeysEq
/- What this text proves: receivers and notices as values: the contracts of the laws' own functions, of the model's and the program's ReceiverOk and NoticeOf. -/
namespace Go.Proofs.YtebfefkknaalpaaDoor
open Go.ChangeShapes Go.WideShapes Go.ChangeAt Go.RowKit
set_option linter.unusedVariables false

/-- A receiver as a value. -/
abbrev rcV (x : Int) (p q : Bool) (t : Int) : Value := .agg #[.int .i64 x, .bool p, .bool q, .int .i64 t]
abbrev rcL (x : Int) (p q : Bool) (t : Int) : List Value := [.int .i64 x, .bool p, .bool q, .int .i64 t]
/-- A notice as a value. -/
abbrev ntV (x : Int) (p q : Bool) : Value := .agg #[.int .i64 x, .bool p, .bool q]
abbrev ntL (x : Int) (p q : Bool) : List Value := [.int .i64 x, .bool p, .bool q]
def RcOk (x t : Int) : Prop := (0 ≤ x ∧ x ≤ 255) ∧ (0 ≤ t ∧ t ≤ 1000000)
instance (x t : Int) : Decidable (RcOk x t) := by unfold RcOk; infer_instance
abbrev Cells4R (W : World) (g : Nat) (x y z u : Value) : Prop := W.cell? ⟨g, 0, none⟩ = some x ∧ W.cell? ⟨g, 1, none⟩ = some y ∧ W.cell? ⟨g, 2, none⟩ = some z ∧ W.cell? ⟨g, 3, none⟩ = some u
theorem Box.fourR {W : World} {g : Nat} {x y z u : Value} (h : Box W g [x, y, z, u]) : Cells4R W g x y z u := ⟨h.cell 0 (by simp), h.cell 1 (by simp), h.cell 2 (by simp), h.cell 3 (by simp)⟩
abbrev Cells3R (W : World) (g : Nat) (x y z : Value) : Prop := W.cell? ⟨g, 0, none⟩ = some x ∧ W.cell? ⟨g, 1, none⟩ = some y ∧ W.cell? ⟨g, 2, none⟩ = some z
theorem Box.threeR {W : World} {g : Nat} {x y z : Value} (h : Box W g [x, y, z]) : Cells3R W g x y z := ⟨h.cell 0 (by simp), h.cell 1 (by simp), h.cell 2 (by simp)⟩

theorem ro_impl (x : Int) (p q : Bool) (t : Int) (w : World) :
    Calls Tryd.prog 16 #[rcV x p q t] w fun e w' => e = .returned (.bool (decide (RcOk x t))) ∧ Below w.heap.size w w' := by
  by_cases h1 : 0 ≤ x ∧ x ≤ 255
  · have H1 := Lib.hid (iq_yes x h1)
    by_cases h2 : 0 ≤ t ∧ t ≤ 1000000
    · have H2 := Lib.hid (iw_yes t 0 1000000 h2.1 h2.2)
      rw [decide_eq_true (show RcOk x t from ⟨h1, h2⟩)]
      clear h1 h2
      go_enter Tryd.func16, Tryd.ntmps16
      go_wp2_with fail
      refine (H1.out _).mono ?_
      rintro e w' ⟨rfl, rfl⟩
      go_wp2_with fail
      refine (H2.out _).mono ?_
      rintro e w' ⟨rfl, rfl⟩
      go_wp2
      go_ret
      exact ⟨rfl, (Below.refl _ w).alloc (Nat.le_refl _) _⟩
    · have H2 := Lib.hid (iw_no t 0 1000000 h2)
      rw [decide_eq_false (show ¬ RcOk x t from fun h => h2 h.2)]
      clear h1 h2
      go_enter Tryd.func16, Tryd.ntmps16
      go_wp2_with fail
      refine (H1.out _).mono ?_
      rintro e w' ⟨rfl, rfl⟩
      go_wp2_with fail
      refine (H2.out _).mono ?_
      rintro e w' ⟨rfl, rfl⟩
      go_wp2
      go_ret
      exact ⟨rfl, (Below.refl _ w).alloc (Nat.le_refl _) _⟩
  · have H1 := Lib.hid (iq_no x h1)
    rw [decide_eq_false (show ¬ RcOk x t from fun h => h1 h.1)]
    clear h1
    go_enter Tryd.func16, Tryd.ntmps16
    go_wp2_with fail
    refine (H1.out _).mono ?_
    rintro e w' ⟨rfl, rfl⟩
    go_wp2
    go_ret
    exact ⟨rfl, (Below.refl _ w).alloc (Nat.le_refl _) _⟩
theorem no_impl (x : Int) (p q : Bool) (t : Int) (w : World) :
    Calls Tryd.prog 13 #[rcV x p q t] w fun e w' => e = .returned (ntV x p q) ∧ Below w.heap.size w w' := by
  go_enter Tryd.func13, Tryd.ntmps13
  go_wp2
  refine bodyPost_ret (v := ntV x p q) (by simp [results, Tryd.results13, go_sem]) rfl ⟨rfl, ((Below.refl _ w).alloc (Nat.le_refl _) _).alloc (by simp) _⟩
end Go.Proofs.YtebfefkknaalpaaDoor
/- What this text proves: what HearNotice answers, as numbers and lists; the boxes of a walk over it. -/
namespace Go.Proofs.YtebfefkknaalpaaDoor
open Go.ChangeShapes Go.WideShapes Go.ChangeAt Go.RowKit
set_option linter.unusedVariables false

/-- How many commands the notice takes off. -/
def heK (l : List Sn) (x : Int) : Nat := ((x - (l.getD 0 sn0).1) % 256).toNat
def HeOk (n b d : Int) (l : List Sn) (x : Int) : Prop := SnOk n b l d ∧ 0 < l.length ∧ (0 ≤ x ∧ x ≤ 255) ∧ heK l x ≤ l.length
open Classical in
noncomputable def heL (n b d : Int) (l : List Sn) (x : Int) : List Sn := if HeOk n b d l x then l.drop (heK l x) else l
open Classical in
noncomputable def heD (n b d : Int) (l : List Sn) (x : Int) : Int := if HeOk n b d l x then (if 1000000 < d + (heK l x : Int) then 1000000 else d + (heK l x : Int)) else d
theorem he_yes {n b d : Int} {l : List Sn} {x : Int} (h : HeOk n b d l x) : heL n b d l x = l.drop (heK l x) ∧ heD n b d l x = (if 1000000 < d + (heK l x : Int) then 1000000 else d + (heK l x : Int)) := ⟨by unfold heL; rw [if_pos h], by unfold heD; rw [if_pos h]⟩
theorem he_no {n b d : Int} {l : List Sn} {x : Int} (h : ¬ HeOk n b d l x) : heL n b d l x = l ∧ heD n b d l x = d := ⟨by unfold heL; rw [if_neg h], by unfold heD; rw [if_neg h]⟩
theorem heL_len (n b d : Int) (l : List Sn) (x : Int) : (heL n b d l x).length ≤ l.length := by
  by_cases h : HeOk n b d l x
  · rw [(he_yes h).1, List.length_drop]; omega
  · rw [(he_no h).1]; exact Nat.le_refl _
/-- The sender, the notice, the result, the copy with its list. -/
structure HP (w W : World) (g6 : Nat) (zs zn zr z6 : List Value) (v : Value) (l : List Sn) : Prop where
  below : Below w.heap.size w W
  b2 : Box W w.heap.size zs
  b3 : Box W (w.heap.size + 1) zn
  b4 : Box W (w.heap.size + 2) zr
  b6 : Box W g6 z6
  g : w.heap.size + 3 ≤ g6
  own : OwnO W (w.heap.size + 3) v l
  nv : v.ownBlock ≠ some g6
theorem HP.more {w W W' : World} {g6 : Nat} {zs zn zr z6 : List Value} {v : Value} {l : List Sn} (h : HP w W g6 zs zn zr z6 v l) (hb : Below W.heap.size W W') : HP w W' g6 zs zn zr z6 v l :=
  ⟨h.below.trans (hb.mono h.below.size), h.b2.more hb, h.b3.more hb, h.b4.more hb, h.b6.more hb, h.g, h.own.more hb, h.nv⟩
theorem HP.fin {w W : World} {g6 : Nat} {zs zn zr z6 : List Value} {v : Value} {l : List Sn} (h : HP w W g6 zs zn zr z6 v l) (hr : z6.length = zr.length) : Below w.heap.size w (W.setCells (w.heap.size + 2) 0 z6) ∧ Box (W.setCells (w.heap.size + 2) 0 z6) (w.heap.size + 2) z6 ∧ OwnO (W.setCells (w.heap.size + 2) 0 z6) (w.heap.size + 3) v l :=
  ⟨below_setCells (by omega) z6 0 _ h.below, h.b4.all hr, OwnO.cellsPast (fun e => by have := (h.own.up _ e).1; omega) z6 0 _ h.own⟩
theorem HP.set {w W : World} {g6 : Nat} {zs zn zr z6 : List Value} {v : Value} {l : List Sn} (h : HP w W g6 zs zn zr z6 v l) (j : Nat) (hj : j < z6.length) (u : Value) : HP w (W.setCell ⟨g6, j, none⟩ u) g6 zs zn zr (z6.set j u) v l := by
  have := h.g
  exact ⟨h.below.setCell (p := ⟨g6, j, none⟩) (by show w.heap.size ≤ g6; omega) u, h.b2.other (by omega) j u, h.b3.other (by omega) j u, h.b4.other (by omega) j u, h.b6.set j hj u, h.g, h.own.past h.nv u, h.nv⟩
/-- s[K:] of a slice of commands. -/
theorem cut_sns (A : Option Addr) (n c K : Nat) (hK : K ≤ n) (W : World) : (Instr.slice 24 (.slice A n c) (some (.int .i64 (K : Int))) none none).run Tryd.prog W = .ok (.slice (if c = K then A else A.map (·.add (K * 2))) (n - K) (c - K)) W := by
  have ht : Tryd.prog.underlying 24 = some (.slice 48) := Tryd.underlying24
  have he : Tryd.prog.elem 24 = 48 := by simp [Program.elem, ht]
  have hc : Tryd.prog.cellsOf 48 = 2 := by kernel_rfl
  obtain ⟨i, hi, _, _, _⟩ := info_parts info_snt
  rw [run_slice_l W 24 _ _ _ (by rw [he]; exact ht) .i64 _ (by omega) (by omega), he, run_sizeOf _ hi, hc]
  simp [Result.andThen, sliced]
theorem HP.start {w w1 : World} (n b d : Int) (A A1 : Option Addr) (l : List Sn) (c c1 : Nat) (x : Int) (p q : Bool) (TS TN TI : TypeId)
    (hb : Below (((w.alloc (.cells (seL n b (.slice A l.length c) d).toArray TS)).alloc (.cells (ntL x p q).toArray TN)).alloc (.cells (seL 0 0 (.slice none 0 0) 0).toArray TI)).heap.size (((w.alloc (.cells (seL n b (.slice A l.length c) d).toArray TS)).alloc (.cells (ntL x p q).toArray TN)).alloc (.cells (seL 0 0 (.slice none 0 0) 0).toArray TI)) w1)
    (ho : OwnN w1 (((w.alloc (.cells (seL n b (.slice A l.length c) d).toArray TS)).alloc (.cells (ntL x p q).toArray TN)).alloc (.cells (seL 0 0 (.slice none 0 0) 0).toArray TI)).heap.size (.slice A1 l.length c1) l) :
    HP w (w1.alloc (.cells (seL n b (.slice A1 l.length c1) d).toArray TI)) w1.heap.size (seL n b (.slice A l.length c) d) (ntL x p q) (seL 0 0 (.slice none 0 0) 0) (seL n b (.slice A1 l.length c1) d) (.slice A1 l.length c1) l := by
  have hz : (((w.alloc (.cells (seL n b (.slice A l.length c) d).toArray TS)).alloc (.cells (ntL x p q).toArray TN)).alloc (.cells (seL 0 0 (.slice none 0 0) 0).toArray TI)).heap.size = w.heap.size + 3 := by simp
  have h2 := ((Box.made w (seL n b (.slice A l.length c) d) TS w.heap.size rfl).alloc (.cells (ntL x p q).toArray TN)).alloc (.cells (seL 0 0 (.slice none 0 0) 0).toArray TI)
  have h3 := (Box.made (w.alloc (.cells (seL n b (.slice A l.length c) d).toArray TS)) (ntL x p q) TN (w.heap.size + 1) (by simp)).alloc (.cells (seL 0 0 (.slice none 0 0) 0).toArray TI)
  have h4 := Box.made ((w.alloc (.cells (seL n b (.slice A l.length c) d).toArray TS)).alloc (.cells (ntL x p q).toArray TN)) (seL 0 0 (.slice none 0 0) 0) TI (w.heap.size + 2) (by simp)
  have hB : Below w.heap.size w (((w.alloc (.cells (seL n b (.slice A l.length c) d).toArray TS)).alloc (.cells (ntL x p q).toArray TN)).alloc (.cells (seL 0 0 (.slice none 0 0) 0).toArray TI)) := (((Below.refl _ w).alloc (Nat.le_refl _) _).alloc (by simp) _).alloc (by simp; omega) _
  have h5 := hb.size
  rw [hz] at h5 ho
  have h6 := hB.trans (hb.mono hB.size)
  exact ⟨h6.alloc h6.size _, (h2.more hb).alloc _, (h3.more hb).alloc _, (h4.more hb).alloc _, Box.made w1 _ TI _ rfl, h5, (OwnN.toO ho).more ((Below.refl _ _).alloc (Nat.le_refl _) _), fun e => by have := (OwnR.upto ho _ e).2; omega⟩
end Go.Proofs.YtebfefkknaalpaaDoor
