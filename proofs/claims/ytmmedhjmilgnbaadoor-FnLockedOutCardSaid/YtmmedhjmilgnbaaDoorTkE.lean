/- What this text proves: what a receiver makes of the block of a command. -/
import Derived.Test.YtmmedhjmilgnbaaDoorTcM
import Derived.Test.YtmmedhjmilgnbaaDoorCmBack
namespace Go.Proofs.YtmmedhjmilgnbaaDoor
open Go.ChangeShapes Go.WideShapes Go.ChangeAt Go.RowKit
set_option linter.unusedVariables false

theorem tk_enc {x t : Int} (p q : Bool) {n : Nat} {d : ByteArray} (hn : n ≤ 255) (hd : d.size ≤ 40) (h : RcOk x t) : tkC x p q t (cmT 0 (n : Int) d) = tkD x p q t (n : Int) d :=
  tkC_data (decC_back (k := 0) (q := n) (d := d) ⟨by omega, by omega, hd⟩) h
theorem tk_unl {x t : Int} (p q : Bool) {n : Nat} {d : ByteArray} (hn : n ≤ 255) (hd : d.size ≤ 40) (h : RcOk x t) : tkC x p q t (cmT 1 (n : Int) d) = (x, false, false, t, ⟨#[]⟩, false) :=
  tkC_unlock (decC_back (k := 1) (q := n) (d := d) ⟨by omega, by omega, hd⟩) h
theorem cmT_le (k q : Int) (d : ByteArray) (hd : d.size ≤ 40) : (cmT k q d).size ≤ 50 := by
  by_cases h : CmOk k q d
  · rw [cmT_yes h, sealS_size, ByteArray.size_append, ByteArray.size_append]
    have h1 := putS_four_le k 1
    have h2 := putS_four_le q 1
    omega
  · rw [cmT_no h]; decide
end Go.Proofs.YtmmedhjmilgnbaaDoor
