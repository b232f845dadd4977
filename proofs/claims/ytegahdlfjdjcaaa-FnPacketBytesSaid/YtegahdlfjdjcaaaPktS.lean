/- What this text proves: the contracts of the laws' own functions over lists of packets: two lists that hold the same packets are found equal; marks that were written are found again. -/
import Derived.Test.YtegahdlfjdjcaaaRowG
import Derived.Test.YtegahdlfjdjcaaaPkt
import Derived.Laws.Concat
import Derived.Deep.RegionLaw
import Derived.Deep.LoopGhost
import Derived.BigRegion
import Derived.Outline
namespace Go.Proofs.Ytegahdlfjdjcaaa
open Go.ChangeShapes Go.WideShapes Go.ChangeAt Go.RowKit
set_option linter.unusedVariables false

/-- A packet: Apid, Seq, Data. -/
abbrev Pk := Int × Int × ByteArray
abbrev pkC (p : Pk) : List Value := [.int .i64 p.1, .int .i64 p.2.1, .string p.2.2]
abbrev OwnP (w : World) (base : Nat) (v : Value) (l : List Pk) : Prop := OwnR 28 3 w base v (l.map pkC)
theorem OwnP.rows {w : World} {base : Nat} {v : Value} {l : List Pk} (h : OwnP w base v l) (hn : 0 < l.length) :
    ∃ g cap, v = .slice (some ⟨g, 0, none⟩) l.length cap ∧ base ≤ g ∧ g < w.heap.size ∧ (∀ k (hk : k < l.length), w.cell? ⟨g, k * 3, none⟩ = some (.int .i64 l[k].1) ∧ w.cell? ⟨g, k * 3 + 1, none⟩ = some (.int .i64 l[k].2.1) ∧ w.cell? ⟨g, k * 3 + 2, none⟩ = some (.string l[k].2.2)) ∧ (∀ j, w.frozen? ⟨g, j, none⟩ = false) := by
  obtain ⟨g, cap, hv, hb, hg, hc, hf⟩ := OwnR.rows h (by simpa using hn)
  refine ⟨g, cap, by rw [hv, List.length_map], hb, hg, fun k hk => ?_, hf⟩
  have h0 := hc k (by simpa using hk) 0 (by decide)
  have h1 := hc k (by simpa using hk) 1 (by decide)
  have h2 := hc k (by simpa using hk) 2 (by decide)
  simp only [List.getElem_map] at h0 h1 h2
  exact ⟨h0, h1, h2⟩

end Go.Proofs.Ytegahdlfjdjcaaa
