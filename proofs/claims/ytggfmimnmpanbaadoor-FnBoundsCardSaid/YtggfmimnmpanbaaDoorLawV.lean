/- What this text proves: a step of every row that names a variable of the program's own: a law that returned true, and that wrote into nothing that was there before the call, left each argument and the variable as it was. -/
import Derived.Test.YtggfmimnmpanbaaDoorLaw
import Derived.OpenVars
import Derived.ChangeVars
namespace Go.Proofs.YtggfmimnmpanbaaDoor
open Go.ChangeShapes Go.WideShapes Go.ChangeAt Go.RowKit

theorem calm_post_v {H : Type} {enc : TypeId × Value → H} {P : Program} {f : Func} {s : ChangeSpec} {apart fresh handsOn : Bool} {W W' : World} {args : Array Value} {v : Value}
    {ds gs : List (DataW H)} {p q : List MemPlace} (hV : DataW.TrodVars enc P W (fun _ => true) s.vars gs q) (whole : DataW.Whole enc P f.params.toList s.vars apart W args.toList ds gs (p ++ q)) (hl : laidOutB P = true) (hr : varsRowed P s.vars = true) (calm : Below W.heap.size W W')
    (told : ∀ b sp hd, DataW.TrodAll enc P W' b sp hd f.resultTypes.toList (v.resultList f.resultTypes.size) (s.fn H (ds ++ gs)).results [])
    (kept : ∀ sp : Nat → Bool, (∀ x ∈ p, sp x.block = true) → DataW.TrodAll enc P W' 0 sp true f.params.toList args.toList (s.fn H (ds ++ gs)).args p)
    (same : (s.fn H (ds ++ gs)).vars = gs) :
    s.post enc P f apart fresh handsOn false W args v W' :=
  ⟨ds, gs, p ++ q, [], p, q, whole, told _ _ _, kept _ (fun x hx => decide_eq_true (whole.lt x (List.mem_append_left _ hx))), by rw [same]; exact Below.trodVars hl calm hr hV,
    World.keptBut_mono (fun _ hx => ⟨hx, .inr (List.mem_append.1 hx)⟩) (calm.frame (· ∈ p ++ q)), fun h => nomatch h⟩
end Go.Proofs.YtggfmimnmpanbaaDoor
