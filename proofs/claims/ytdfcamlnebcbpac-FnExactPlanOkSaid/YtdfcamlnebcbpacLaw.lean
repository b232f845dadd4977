/- What this text proves: a step of every row: a law that returned true, and that wrote into nothing that was there before the call, left each argument as it was. -/
import Derived.Test.YtdfcamlnebcbpacRows
import Derived.ProofKit
import Derived.OpenShut
import Derived.ShutString
import Derived.Below
import Derived.Deep.Draws
namespace Go.Proofs.Ytdfcamlnebcbpac
open Go.ChangeShapes Go.WideShapes Go.ChangeAt Go.RowKit

theorem calm_post {H : Type} {enc : TypeId × Value → H} {P : Program} {f : Func} {s : ChangeSpec} {apart fresh handsOn : Bool} {W W' : World} {args : Array Value} {v : Value}
    {ds gs : List (DataW H)} {before : List MemPlace} (whole : DataW.Whole enc P f.params.toList s.vars apart W args.toList ds gs before) (calm : Below W.heap.size W W')
    (told : ∀ b sp hd, DataW.TrodAll enc P W' b sp hd f.resultTypes.toList (v.resultList f.resultTypes.size) (s.fn H (ds ++ gs)).results [])
    (kept : ∀ sp : Nat → Bool, (∀ p ∈ before, sp p.block = true) → DataW.TrodAll enc P W' 0 sp true f.params.toList args.toList (s.fn H (ds ++ gs)).args before)
    (none : ∀ sp, DataW.TrodVars enc P W' sp s.vars (s.fn H (ds ++ gs)).vars []) :
    s.post enc P f apart fresh handsOn false W args v W' :=
  ⟨ds, gs, before, [], before, [], whole, told _ _ _, kept _ (fun p hp => decide_eq_true (whole.lt p hp)), none _, World.keptBut_mono (fun _ hp => ⟨hp, .inr (.inl hp)⟩) (calm.frame (· ∈ before)), fun h => nomatch h⟩

theorem below_draws {B : Nat} {a w : World} (h : Below B a w) (n : Nat) : Below B a (w.drewN n) := ⟨h.os, h.tape, h.output, h.size, h.block⟩
end Go.Proofs.Ytdfcamlnebcbpac
