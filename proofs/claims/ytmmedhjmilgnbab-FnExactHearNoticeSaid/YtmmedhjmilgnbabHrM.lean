/- What this text proves: what HearNotice answers, as numbers and lists; the boxes of a walk over it. -/
import Derived.Test.YtmmedhjmilgnbabISo
import Derived.Test.YtmmedhjmilgnbabSnC
import Derived.Test.YtmmedhjmilgnbabSntO
import Derived.Test.YtmmedhjmilgnbabRcv
import Derived.ChangeKeysEq
namespace Go.Proofs.Ytmmedhjmilgnbab
open Go.ChangeShapes Go.WideShapes Go.ChangeAt Go.RowKit
set_option linter.unusedVariables false

/-- How many commands the notice takes off. -/
def heK (l : List Sn) (x : Int) : Nat := ((x - (l.getD 0 sn0).1) % 256).toNat
def HeOk (n b d : Int) (l : List Sn) (x : Int) : Prop := SnOk n b l d ∧ 0 < l.length ∧ (0 ≤ x ∧ x ≤ 255) ∧ heK l x ≤ l.length
open Classical in
noncomputable def heL (n b d : Int) (l : List Sn) (x : Int) : List Sn := if HeOk n b d l x then l.drop (heK l x) else l
open Classical in
noncomputable def heD (n b d : Int) (l : List Sn) (x : Int) : Int := if HeOk n b d l x then (if 1000000 < d + (heK l x : Int) then 1000000 else d + (heK l x : Int)) else d
theorem he_yes {n b d : Int} {l : List Sn} {x : Int} (h : HeOk n b d l x) : heL n b d l x = l.drop (heK l x) ∧ heD n b d l x = (if 1000000 < d + (heK l x : Int) then 1000000 else d + (heK l x : Int)) := ⟨by unfold heL; rw [if_pos h], by unfold heD; rw [if_pos h]⟩
theorem he_no {n b d : Int} {l : List Sn} {x : Int} (h : ¬ HeOk n b d l x) : heL n b d l x = l ∧ heD n b d l x = d := ⟨by unfold heL; rw [if_neg h], by unfold heD; rw [if_neg h]⟩
theorem heL_len (n b d : Int) (l : List Sn) (x : Int) : (heL n b d l x).length ≤ l.length := by
  by_cases h : HeOk n b d l x
  · rw [(he_yes h).1, List.length_drop]; omega
  · rw [(he_no h).1]; exact Nat.le_refl _
/-- The sender, the notice, the result, the copy with its list. -/
structure HP (w W : World) (g6 : Nat) (zs zn zr z6 : List Value) (v : Value) (l : List Sn) : Prop where
  below : Below w.heap.size w W
  b2 : Box W w.heap.size zs
  b3 : Box W (w.heap.size + 1) zn
  b4 : Box W (w.heap.size + 2) zr
  b6 : Box W g6 z6
  g : w.heap.size + 3 ≤ g6
  own : OwnO W (w.heap.size + 3) v l
  nv : v.ownBlock ≠ some g6
theorem HP.more {w W W' : World} {g6 : Nat} {zs zn zr z6 : List Value} {v : Value} {l : List Sn} (h : HP w W g6 zs zn zr z6 v l) (hb : Below W.heap.size W W') : HP w W' g6 zs zn zr z6 v l :=
  ⟨h.below.trans (hb.mono h.below.size), h.b2.more hb, h.b3.more hb, h.b4.more hb, h.b6.more hb, h.g, h.own.more hb, h.nv⟩
theorem HP.fin {w W : World} {g6 : Nat} {zs zn zr z6 : List Value} {v : Value} {l : List Sn} (h : HP w W g6 zs zn zr z6 v l) (hr : z6.length = zr.length) : Below w.heap.size w (W.setCells (w.heap.size + 2) 0 z6) ∧ Box (W.setCells (w.heap.size + 2) 0 z6) (w.heap.size + 2) z6 ∧ OwnO (W.setCells (w.heap.size + 2) 0 z6) (w.heap.size + 3) v l :=
  ⟨below_setCells (by omega) z6 0 _ h.below, h.b4.all hr, OwnO.cellsPast (fun e => by have := (h.own.up _ e).1; omega) z6 0 _ h.own⟩
theorem HP.set {w W : World} {g6 : Nat} {zs zn zr z6 : List Value} {v : Value} {l : List Sn} (h : HP w W g6 zs zn zr z6 v l) (j : Nat) (hj : j < z6.length) (u : Value) : HP w (W.setCell ⟨g6, j, none⟩ u) g6 zs zn zr (z6.set j u) v l := by
  have := h.g
  exact ⟨h.below.setCell (p := ⟨g6, j, none⟩) (by show w.heap.size ≤ g6; omega) u, h.b2.other (by omega) j u, h.b3.other (by omega) j u, h.b4.other (by omega) j u, h.b6.set j hj u, h.g, h.own.past h.nv u, h.nv⟩
/-- s[K:] of a slice of commands. -/
theorem cut_sns (A : Option Addr) (n c K : Nat) (hK : K ≤ n) (W : World) : (Instr.slice 36 (.slice A n c) (some (.int .i64 (K : Int))) none none).run Try.prog W = .ok (.slice (if c = K then A else A.map (·.add (K * 2))) (n - K) (c - K)) W := by
  have ht : Try.prog.underlying 36 = some (.slice 52) := Try.underlying36
  have he : Try.prog.elem 36 = 52 := by simp [Program.elem, ht]
  have hc : Try.prog.cellsOf 52 = 2 := by kernel_rfl
  obtain ⟨i, hi, _, _, _⟩ := info_parts info_snt
  rw [run_slice_l W 36 _ _ _ (by rw [he]; exact ht) .i64 _ (by omega) (by omega), he, run_sizeOf _ hi, hc]
  simp [Result.andThen, sliced]
theorem HP.start {w w1 : World} (n b d : Int) (A A1 : Option Addr) (l : List Sn) (c c1 : Nat) (x : Int) (p q : Bool) (TS TN TI : TypeId)
    (hb : Below (((w.alloc (.cells (seL n b (.slice A l.length c) d).toArray TS)).alloc (.cells (ntL x p q).toArray TN)).alloc (.cells (seL 0 0 (.slice none 0 0) 0).toArray TI)).heap.size (((w.alloc (.cells (seL n b (.slice A l.length c) d).toArray TS)).alloc (.cells (ntL x p q).toArray TN)).alloc (.cells (seL 0 0 (.slice none 0 0) 0).toArray TI)) w1)
    (ho : OwnN w1 (((w.alloc (.cells (seL n b (.slice A l.length c) d).toArray TS)).alloc (.cells (ntL x p q).toArray TN)).alloc (.cells (seL 0 0 (.slice none 0 0) 0).toArray TI)).heap.size (.slice A1 l.length c1) l) :
    HP w (w1.alloc (.cells (seL n b (.slice A1 l.length c1) d).toArray TI)) w1.heap.size (seL n b (.slice A l.length c) d) (ntL x p q) (seL 0 0 (.slice none 0 0) 0) (seL n b (.slice A1 l.length c1) d) (.slice A1 l.length c1) l := by
  have hz : (((w.alloc (.cells (seL n b (.slice A l.length c) d).toArray TS)).alloc (.cells (ntL x p q).toArray TN)).alloc (.cells (seL 0 0 (.slice none 0 0) 0).toArray TI)).heap.size = w.heap.size + 3 := by simp
  have h2 := ((Box.made w (seL n b (.slice A l.length c) d) TS w.heap.size rfl).alloc (.cells (ntL x p q).toArray TN)).alloc (.cells (seL 0 0 (.slice none 0 0) 0).toArray TI)
  have h3 := (Box.made (w.alloc (.cells (seL n b (.slice A l.length c) d).toArray TS)) (ntL x p q) TN (w.heap.size + 1) (by simp)).alloc (.cells (seL 0 0 (.slice none 0 0) 0).toArray TI)
  have h4 := Box.made ((w.alloc (.cells (seL n b (.slice A l.length c) d).toArray TS)).alloc (.cells (ntL x p q).toArray TN)) (seL 0 0 (.slice none 0 0) 0) TI (w.heap.size + 2) (by simp)
  have hB : Below w.heap.size w (((w.alloc (.cells (seL n b (.slice A l.length c) d).toArray TS)).alloc (.cells (ntL x p q).toArray TN)).alloc (.cells (seL 0 0 (.slice none 0 0) 0).toArray TI)) := (((Below.refl _ w).alloc (Nat.le_refl _) _).alloc (by simp) _).alloc (by simp; omega) _
  have h5 := hb.size
  rw [hz] at h5 ho
  have h6 := hB.trans (hb.mono hB.size)
  exact ⟨h6.alloc h6.size _, (h2.more hb).alloc _, (h3.more hb).alloc _, (h4.more hb).alloc _, Box.made w1 _ TI _ rfl, h5, (OwnN.toO ho).more ((Below.refl _ _).alloc (Nat.le_refl _) _), fun e => by have := (OwnR.upto ho _ e).2; omega⟩
end Go.Proofs.Ytmmedhjmilgnbab
