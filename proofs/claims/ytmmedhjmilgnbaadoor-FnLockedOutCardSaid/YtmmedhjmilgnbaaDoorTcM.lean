/- What this text proves: what TakeCommand answers, as numbers, bits and bytes. -/
import Derived.Test.YtmmedhjmilgnbaaDoorCmdD
import Derived.Test.YtmmedhjmilgnbaaDoorRcv
namespace Go.Proofs.YtmmedhjmilgnbaaDoor
open Go.ChangeShapes Go.WideShapes Go.ChangeAt Go.RowKit
set_option linter.unusedVariables false

theorem size_of_toList {a b : ByteArray} (h : (a.toList == b.toList) = true) : a = b := by
  have h1 := eq_of_beq h
  rw [Lib.toList_data, Lib.toList_data] at h1
  exact ByteArray.ext (Array.toList_inj.1 h1)
theorem decC_ok {s : ByteArray} {k n : Int} {d : ByteArray} (h : decC s = (k, n, d, true)) : CmOk k n d ∧ s = cmT k n d := by
  obtain ⟨⟨t, b⟩, hP⟩ : ∃ P, openV s = P := ⟨_, rfl⟩
  by_cases hh : b = true ∧ DcOk s t
  · obtain ⟨rfl, h2, h3⟩ := hh
    rw [decC_yes hP ⟨h2, h3⟩] at h
    obtain ⟨rfl, rfl, rfl⟩ : ((byteAt t 0 : Nat) : Int) = k ∧ ((byteAt t 1 : Nat) : Int) = n ∧ t.extract 2 t.size = d := by simpa using h
    have hs := size_of_toList h3
    by_cases hc : CmOk ((byteAt t 0 : Nat) : Int) ((byteAt t 1 : Nat) : Int) (t.extract 2 t.size)
    · exact ⟨hc, hs.symm⟩
    · rw [cmT_no hc] at hs
      have ho : OpenOk s := by
        by_cases ho : OpenOk s
        · exact ho
        · rw [openV_no ho] at hP
          exact absurd (congrArg Prod.snd hP) (by simp)
      have h4 := ho.1
      rw [← hs] at h4
      exact absurd h4 (by decide)
  · rw [decC_no hP hh] at h
    exact absurd (congrArg (fun q => q.2.2.2) h) (by simp)

/-- What TakeCommand answers: Expect, Locked, Again, Taken, the data, whether it is taken. -/
abbrev Tk := Int × Bool × Bool × Int × ByteArray × Bool
def retT (r : Tk) : Ending := .returned (.tuple #[rcV r.1 r.2.1 r.2.2.1 r.2.2.2.1, .string r.2.2.2.2.1, .bool r.2.2.2.2.2])
/-- Of a command of the KindData with number n. -/
def tkD (x : Int) (p q : Bool) (t n : Int) (d : ByteArray) : Tk :=
  if p = true then (x, p, q, t, ⟨#[]⟩, false)
  else if (n - x) % 256 = 0 ∧ t < 1000000 then ((x + 1) % 256, p, false, t + 1, d, true)
  else if 1 ≤ (n - x) % 256 ∧ (n - x) % 256 ≤ 40 then (x, p, true, t, ⟨#[]⟩, false)
  else if 41 ≤ (n - x) % 256 ∧ (n - x) % 256 ≤ 215 then (x, true, q, t, ⟨#[]⟩, false)
  else (x, p, q, t, ⟨#[]⟩, false)
noncomputable def tkC (x : Int) (p q : Bool) (t : Int) (s : ByteArray) : Tk :=
  if (decC s).2.2.2 = true ∧ RcOk x t then (if (decC s).1 = 1 then (x, false, false, t, ⟨#[]⟩, false) else tkD x p q t (decC s).2.1 (decC s).2.2.1)
  else (x, p, q, t, ⟨#[]⟩, false)
theorem tkC_bad {x : Int} {p q : Bool} {t : Int} {s : ByteArray} {k n : Int} {d : ByteArray} {b : Bool} (hd : decC s = (k, n, d, b)) (h : ¬ (b = true ∧ RcOk x t)) : tkC x p q t s = (x, p, q, t, ⟨#[]⟩, false) := by
  unfold tkC; rw [hd, if_neg h]
theorem tkC_unlock {x : Int} {p q : Bool} {t : Int} {s : ByteArray} {n : Int} {d : ByteArray} (hd : decC s = (1, n, d, true)) (h : RcOk x t) : tkC x p q t s = (x, false, false, t, ⟨#[]⟩, false) := by
  unfold tkC; rw [hd, if_pos ⟨rfl, h⟩, if_pos rfl]
theorem tkC_data {x : Int} {p q : Bool} {t : Int} {s : ByteArray} {n : Int} {d : ByteArray} (hd : decC s = (0, n, d, true)) (h : RcOk x t) : tkC x p q t s = tkD x p q t n d := by
  unfold tkC; rw [hd, if_pos ⟨rfl, h⟩, if_neg (fun h => by simp at h)]
theorem tkD_locked {x : Int} {q : Bool} {t n : Int} {d : ByteArray} : tkD x true q t n d = (x, true, q, t, ⟨#[]⟩, false) := by unfold tkD; rw [if_pos rfl]
theorem tkD_take {x : Int} {q : Bool} {t n : Int} {d : ByteArray} (h : (n - x) % 256 = 0 ∧ t < 1000000) : tkD x false q t n d = ((x + 1) % 256, false, false, t + 1, d, true) := by unfold tkD; rw [if_neg (by decide), if_pos h]
theorem tkD_again {x : Int} {q : Bool} {t n : Int} {d : ByteArray} (h : 1 ≤ (n - x) % 256 ∧ (n - x) % 256 ≤ 40) : tkD x false q t n d = (x, false, true, t, ⟨#[]⟩, false) := by unfold tkD; rw [if_neg (by decide), if_neg (fun h1 => by omega), if_pos h]
theorem tkD_lock {x : Int} {q : Bool} {t n : Int} {d : ByteArray} (h : 41 ≤ (n - x) % 256 ∧ (n - x) % 256 ≤ 215) : tkD x false q t n d = (x, true, q, t, ⟨#[]⟩, false) := by unfold tkD; rw [if_neg (by decide), if_neg (fun h1 => by omega), if_neg (fun h1 => by omega), if_pos h]
theorem tkD_none {x : Int} {q : Bool} {t n : Int} {d : ByteArray} (h : ¬ ((n - x) % 256 = 0 ∧ t < 1000000)) (h1 : ¬ (1 ≤ (n - x) % 256 ∧ (n - x) % 256 ≤ 40)) (h2 : ¬ (41 ≤ (n - x) % 256 ∧ (n - x) % 256 ≤ 215)) : tkD x false q t n d = (x, false, q, t, ⟨#[]⟩, false) := by unfold tkD; rw [if_neg (by decide), if_neg h, if_neg h1, if_neg h2]

/-- The boxes of a walk over TakeCommand: the receiver, the answer. -/
structure RP (w W : World) (a : List Value) : Prop where
  below : Below w.heap.size w W
  b2 : Box W w.heap.size a
  b4 : Box W (w.heap.size + 1) (rcL 0 false false 0)
theorem RP.start (w : World) (x : Int) (p q : Bool) (t : Int) : RP w ((w.alloc (.cells (rcL x p q t).toArray 31)).alloc (.cells (rcL 0 false false 0).toArray 31)) (rcL x p q t) :=
  ⟨((Below.refl _ w).alloc (Nat.le_refl _) _).alloc (by simp) _, (Box.made w (rcL x p q t) _ _ rfl).alloc _, Box.made _ (rcL 0 false false 0) _ _ (by simp)⟩
theorem RP.more {w W W' : World} {a : List Value} (h : RP w W a) (hb : Below W.heap.size W W') : RP w W' a := ⟨h.below.trans (hb.mono h.below.size), h.b2.more hb, h.b4.more hb⟩
theorem RP.set {w W : World} {a : List Value} (h : RP w W a) (j : Nat) (hj : j < a.length) (v : Value) : RP w (W.setCell ⟨w.heap.size, j, none⟩ v) (a.set j v) :=
  ⟨h.below.setCell (p := ⟨w.heap.size, j, none⟩) (Nat.le_refl _) v, h.b2.set j hj v, h.b4.other (by omega) j v⟩
theorem RP.fin {w W : World} {a : List Value} (h : RP w W a) (ha : a.length = 4) : Below w.heap.size w (W.setCells (w.heap.size + 1) 0 a) ∧ Box (W.setCells (w.heap.size + 1) 0 a) (w.heap.size + 1) a :=
  ⟨below_setCells (by omega) a 0 _ h.below, h.b4.all ha⟩
end Go.Proofs.YtmmedhjmilgnbaaDoor
