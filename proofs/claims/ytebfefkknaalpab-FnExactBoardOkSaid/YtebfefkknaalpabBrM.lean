/- What this text proves: a board as a value, and what makes it valid. -/
import Derived.Test.YtebfefkknaalpabBdM
import Derived.Test.YtebfefkknaalpabPktE
namespace Go.Proofs.Ytebfefkknaalpab
open Go.ChangeShapes Go.WideShapes Go.ChangeAt Go.RowKit
set_option linter.unusedVariables false

structure Bd where
  cl : Int
  ps : List Int
  sf : Bool
  ls : List Lm
  os : List Wt
  ds : List Dn
  r : Int
  rs : List Rc
  xs : List Int
  md : Int
  tk : Int
  qs : List Int
structure BdA where
  aP : Option Addr
  cP : Nat
  aL : Option Addr
  cL : Nat
  aO : Option Addr
  cO : Nat
  aD : Option Addr
  cD : Nat
  aR : Option Addr
  cR : Nat
  aX : Option Addr
  cX : Nat
  aQ : Option Addr
  cQ : Nat
abbrev bdL (b : Bd) (a : BdA) : List Value := [.int .i64 b.cl, .slice a.aP b.ps.length a.cP, .bool b.sf, .slice a.aL b.ls.length a.cL, .slice a.aO b.os.length a.cO, .slice a.aD b.ds.length a.cD, .int .i64 b.r, .slice a.aR b.rs.length a.cR, .slice a.aX b.xs.length a.cX, .int .i64 b.md, .int .i64 b.tk, .slice a.aQ b.qs.length a.cQ]
abbrev bdV (b : Bd) (a : BdA) : Value := .agg #[.int .i64 b.cl, .slice a.aP b.ps.length a.cP, .bool b.sf, .slice a.aL b.ls.length a.cL, .slice a.aO b.os.length a.cO, .slice a.aD b.ds.length a.cD, .int .i64 b.r, .slice a.aR b.rs.length a.cR, .slice a.aX b.xs.length a.cX, .int .i64 b.md, .int .i64 b.tk, .slice a.aQ b.qs.length a.cQ]
/-- The lists of a board are there to be read. -/
structure BdAt (w : World) (B : Nat) (b : Bd) (a : BdA) : Prop where
  ps : LsI 1 w B a.aP (b.ps.map inC)
  ls : LsI 3 w B a.aL (b.ls.map lmC)
  os : LsI 5 w B a.aO (b.os.map wtC)
  ds : LsI 3 w B a.aD (b.ds.map dnC)
  rs : LsI 4 w B a.aR (b.rs.map rcC)
  xs : LsI 1 w B a.aX (b.xs.map inC)
  qs : LsI 1 w B a.aQ (b.qs.map inC)
theorem BdAt.full {w w' : World} {b : Bd} {a : BdA} (h : BdAt w w.heap.size b a) (hb : Below w.heap.size w w') : BdAt w' w'.heap.size b a := ⟨h.ps.full hb, h.ls.full hb, h.os.full hb, h.ds.full hb, h.rs.full hb, h.xs.full hb, h.qs.full hb⟩
theorem BdAt.more {w w' : World} {B : Nat} {b : Bd} {a : BdA} (h : BdAt w B b a) (hb : Below B w w') : BdAt w' B b a := ⟨h.ps.more hb, h.ls.more hb, h.os.more hb, h.ds.more hb, h.rs.more hb, h.xs.more hb, h.qs.more hb⟩
/-- Its lists are short enough to be walked. -/
structure BdSz (b : Bd) : Prop where
  ps : b.ps.length ≤ 2000000
  ls : b.ls.length ≤ 2000000
  os : b.os.length ≤ 2000000
  ds : b.ds.length ≤ 2000000
  rs : b.rs.length ≤ 2000000
  tot : totRc b.rs b.rs.length ≤ 4000000
  xs : b.xs.length ≤ 2000000
  qs : b.qs.length ≤ 2000000
structure BrdOk (b : Bd) : Prop where
  cl : 0 ≤ b.cl ∧ b.cl ≤ 1000000
  md : (0 ≤ b.md ∧ b.md ≤ 65535)
  tk : (0 ≤ b.tk ∧ b.tk ≤ 65535)
  p8 : b.ps.length = 8
  ps : Within b.ps 0 65535
  q5 : b.qs.length ≤ 5000
  qs : Within b.qs 0 7
  rok : RcrOk b.r b.rs b.xs
  ids : ∀ j (hj : j < b.rs.length), b.rs[j].1 < b.md
  ls : LimsOk b.ls ∧ b.ls.length ≤ 8
  os : b.os.length ≤ 40 ∧ OrdTo b.tk b.os b.os.length
  ds : DnsOk b.tk b.ds ∧ b.ds.length ≤ 5000
noncomputable def brdB (b : Bd) : Bool := @decide (BrdOk b) (Classical.propDecidable _)
theorem brdB_yes {b : Bd} (h : BrdOk b) : brdB b = true := by unfold brdB; exact @decide_eq_true _ (Classical.propDecidable _) h
theorem brdB_no {b : Bd} (h : ¬ BrdOk b) : brdB b = false := by unfold brdB; exact @decide_eq_false _ (Classical.propDecidable _) h
/-- A Bool that says whether a part holds: where it does not, the board is not valid. -/
theorem brdB_arm {b : Bd} {P : Prop} {t : Bool} (hp : BrdOk b → P) (ht : t = true ↔ P) (hf : t = false) : brdB b = false := brdB_no (fun h => by
  have := ht.2 (hp h)
  rw [hf] at this
  exact Bool.noConfusion this)
theorem winB_iff {d : List Int} {a b : Int} : winB d a b = true ↔ Within d a b := by
  by_cases h : Within d a b
  · simp [winB_yes h, h]
  · simp [winB_no h, h]
theorem limB_iff {l : List Lm} : limB l = true ↔ (LimsOk l ∧ l.length ≤ 8) := by
  by_cases h : LimsOk l ∧ l.length ≤ 8
  · simp only [limB_yes h, true_iff]; exact h
  · simp only [limB_no h, Bool.false_eq_true, false_iff]; exact h
theorem dnB_iff {T : Int} {l : List Dn} : dnB T l = true ↔ (DnsOk T l ∧ l.length ≤ 5000) := by
  by_cases h : DnsOk T l ∧ l.length ≤ 5000
  · simp only [dnB_yes h, true_iff]; exact h
  · simp only [dnB_no h, Bool.false_eq_true, false_iff]; exact h
theorem ordB_iff {T : Int} {l : List Wt} : ordB T l = true ↔ (l.length ≤ 40 ∧ OrdTo T l l.length) := by
  by_cases h : l.length ≤ 40 ∧ OrdTo T l l.length
  · simp only [ordB_yes h, true_iff]; exact h
  · simp only [ordB_no h, Bool.false_eq_true, false_iff]; exact h
/-- The last Id is the greatest. -/
theorem upTo_lt {l : List Rc} {m : Nat} (h : UpTo l l.length) (hm : l.length = m + 1) : ∀ j (hj : j < l.length), l[j].1 ≤ (l[m]'(by omega)).1 := by
  have hs : ∀ d j (hj : j + d < l.length), (l[j]'(by omega)).1 ≤ (l[j + d]'hj).1 := by
    intro d
    induction d with
    | zero => intro j hj; exact Int.le_refl _
    | succ d ih =>
      intro j hj
      have h1 := ih j (by omega)
      have h2 := (upTo_at h (k := j + d + 1) hj hj).2
      have h3 : befR l (j + d + 1) = (l[j + d]'(by omega)).1 := by
        show (l.getD (j + d) rc0).1 = _
        rw [getRc_at (show j + d < l.length by omega)]
      rw [h3] at h2
      have h4 : (l[j + d + 1]'hj).1 = (l[j + (d + 1)]'hj).1 := rfl
      omega
  intro j hj
  have := hs (m - j) j (by omega)
  have e : j + (m - j) = m := by omega
  simp only [e] at this
  exact this
theorem ids_iff {b : Bd} {m : Nat} (h : UpTo b.rs b.rs.length) (hm : b.rs.length = m + 1) : (b.rs[m]'(by omega)).1 < b.md ↔ ∀ j (hj : j < b.rs.length), b.rs[j].1 < b.md :=
  ⟨fun g j hj => by have := upTo_lt h hm j hj; omega, fun g => g m (by omega)⟩
end Go.Proofs.Ytebfefkknaalpab
