/- What this text proves: True times lie within the bounds of a clock's pairs, and the estimate between two pairs is right up to three, for every bytes that it draws from: the call of the law returns true, and the bytes read afterwards as they read before. No condition. -/
import Derived.Test.YtggfmimnmpanbaaDoorLBndLaw
import Derived.Test.YtggfmimnmpanbaaDoorPvr
import Derived.Test.YtggfmimnmpanbaaDoorLawV
import Derived.Test.YtggfmimnmpanbaaDoorCards
import Derived.Test.YtggfmimnmpanbaaDoorTie
import Derived.Test.YtggfmimnmpanbaaDoorCodeRow
import Derived.ChangeSlices
import Derived.JoinedAt
import Derived.LaidMore
import Derived.Stop.Joined
import Derived.SevenTiedAt
namespace Go.Proofs.YtggfmimnmpanbaaDoor.fnBounds
open Go.ChangeShapes Go.WideShapes Go.ChangeAt Go.RowKit
set_option linter.unusedVariables false

theorem own : ownKnob Tryd.prog.godebug = none := by kernel_rfl
theorem cellsU : Tryd.prog.cellsOf 5 = 1 := by kernel_rfl

/-- What the listed variables read as. -/
def laidNow {H : Type} : List (String × DataW H) := [("loop.example/g03316/impl.beforeAll", Rows.laid_loop_example_g03316_impl_beforeAll), ("loop.example/g03316/impl.behindAll", Rows.laid_loop_example_g03316_impl_behindAll)]
/-- The door's own heap meets the condition. -/
theorem door_met (os : Os) (args : Array Value) : laidMetH Tryd.prog laidNow ((World.doorLaid Tryd.prog 400 os).forCall (fun _ _ => 0) ⟨#[], args, []⟩).memory :=
  laidMetH_of_parts3 (fuel := 8) (laidMet_of_run' 8 (by kernel_rfl) (by kernel_rfl)) (by kernel_rfl) (by kernel_rfl)

set_option maxRecDepth 100000 in
theorem lifted (os : Os) (started : os.Started) (H : Type) (enc : TypeId × Value → H) :
    ReturnsInHanded {} Tryd.checked os 3 .any (fun w args => (Rows.fnBoundsSpec.pre enc Tryd.prog Tryd.f3 [] false w args ∧ laidMetH Tryd.prog laidNow w) ∧ sizedMet enc Tryd.prog Tryd.f3 (OpenSpec.ofChange Rows.fnBoundsSpec) false w args)
      (Rows.fnBoundsSpec.post enc Tryd.prog Tryd.f3 false true false false) := by
  refine returnsInHanded_of_change_and (C := Tryd.checked) (X := fun w _ => laidMetH Tryd.prog laidNow w) (fun _ _ _ hh h => h.of_heap hh) own started (by kernel_rfl) Tryd.func3
    (ChangeSpec.witness_shaped (enc := enc) (C := Tryd.checked) (os := os) (X := fun w _ => laidMetH Tryd.prog laidNow w) false (World.doorLaid Tryd.prog 400 os) #[.slice none 0 0] 8 rfl (World.shaped_of_RefB (by kernel_rfl) (by kernel_rfl)) (by kernel_rfl) (by kernel_rfl) (by kernel_rfl) (door_met os _)) ?_
  intro W base args ds gs before hval0 hW _ _ hL _
  have hlaid : laidMet Tryd.prog laidNow W := by rw [MakeChecks.laidMetH_plain _ _ _ (by kernel_rfl)] at hL; exact hL
  have hBf : Bfr W := bfr_laid hlaid
  have hBh : Bhd W := bhd_laid hlaid
  have hval : ∀ (j : Nat) t v, Tryd.f3.params[j]? = some t → args[j]? = some v → Value.okWide Tryd.prog W .any base t v := hval0
  have hW' := hW
  obtain ⟨p, q, hA0, hV, rfl, hfz, hnd⟩ := hW
  have hA : DataW.TrodAll enc Tryd.prog W 0 (fun _ => true) true Tryd.f3.params.toList args.toList ds p := hA0
  rw [Tryd.params3] at hA hval
  obtain ⟨v0, d0, rfl, rfl, h0⟩ := trodAll_one hA
  obtain ⟨g1, g2, rfl⟩ := trodVars_l2 hV
  obtain ⟨a0, len, cap, rfl⟩ := okWide_slice Tryd.underlying22 (hval 0 22 v0 rfl rfl)
  obtain ⟨fuel, hf⟩ := h0
  clear hA0 hval0
  rcases open_ints Tryd.underlying22 Tryd.underlying5 cellsU hf with ⟨hcs, hx⟩ | ⟨a, len', cap', zs, hcs, _, hl, hm, hz, hx, hcell, hwz⟩
  · simp [Value.cells] at hcs
    obtain ⟨rfl, rfl, rfl⟩ := hcs
    simp only [Prod.mk.injEq] at hx
    obtain ⟨rfl, rfl⟩ := hx
    refine (law_bounds none 0 0 (Nat.zero_le _) W (.inl rfl) hBf hBh).mono fun e W' ⟨he, hg⟩ => ?_
    subst he
    exact ⟨_, rfl, calm_post_v (p := []) hV hW' (by kernel_rfl) (by kernel_rfl) hg (fun _ _ _ => trodAll_mk1 (shut_bool Tryd.underlying4 _)) (fun sp _ => trodAll_mk1 (shut_slice_nil Tryd.underlying22)) rfl⟩
  · simp [Value.cells] at hcs
    obtain ⟨rfl, rfl, rfl⟩ := hcs
    simp only [Prod.mk.injEq] at hx
    obtain ⟨rfl, rfl⟩ := hx
    simp only [if_true] at hz
    have hcode : CodeOk W W.heap.size (some a) len := code_of_cells hl hz hcell hwz
    refine (law_bounds (some a) len cap (Nat.le_trans hl hm) W hcode hBf hBh).mono fun e W' ⟨he, hg⟩ => ?_
    subst he
    have hcell' : ∀ i, i < zs.length → W'.cell? (a.add i) = some (.int .u8 (zs.getD i 0)) := fun i hi => by
      have h := hcell i hi
      rw [hg.cell (cell_lt h)]
      exact h
    refine ⟨_, rfl, calm_post_v (p := MemPlace.row a zs.length) hV hW' (by kernel_rfl) (by kernel_rfl) hg (fun _ _ _ => trodAll_mk1 (shut_bool Tryd.underlying4 _)) (fun sp hsp => ?_) rfl⟩
    have hspb : zs.length = (if sp a.block then cap else len) := by
      by_cases hz0 : zs.length = 0
      · split <;> omega
      · have h : sp a.block = true := hsp (.cell a.block a.off) (MemPlace.mem_row.2 ⟨0, by omega, by simp⟩)
        rw [h]
        exact hz
    have t0 := shut_ints (enc := enc) (w := W') (base := 0) (spare := sp) (held := true) (a := a) (len := len) (cap := cap) (zs := zs) 0 Tryd.underlying22 Tryd.underlying5 cellsU (Nat.zero_le _) hl hm hspb hcell' hwz
    have again : DataW.TrodAll enc Tryd.prog W' 0 sp true [22] [.slice (some a) len cap] [.slice (lits .u8 (zs.take len)) (lits .u8 (zs.drop len))] (MemPlace.row a zs.length) := trodAll_mk1 ⟨2, by simpa [Value.cells] using t0⟩
    exact again

theorem over : Rows.fnBoundsRow.holds Tryd.pinned (OpenSpec.ofChange Rows.fnBoundsSpec) :=
  OpenClaim.holds_of_wide 3 Tryd.f3 rfl rfl rfl rfl rfl rfl rfl ⟨rfl, rfl, rfl, rfl, rfl⟩ rfl rfl rfl rfl rfl (by kernel_rfl) Tryd.func3 (by kernel_rfl)
    (of_decide_eq_true (by kernel_rfl)) (by unfold Func.isWrapper; first | (rw [if_pos (by decide +kernel)]; kernel_rfl) | (rw [if_neg (by decide +kernel)]; exact ⟨rfl, rfl⟩))
    (fun os started H enc _ => lifted os started H enc)

theorem said : Rows.FnBoundsSaid := over
theorem proved : Rows.FnBoundsCardSaid :=
  Claim7.holds_tied_plain_at .later [] [.data, .data] true (true, "42bb7047878b2844a0df5a1559a9f1f4f8769bc37d177b2701a6774f816ead8f") false
    said (fun _ h => by cases h) (by kernel_rfl) (fun _ h => by cases h) fnBounds_row_tie rfl ⟨rfl, rfl⟩ (by kernel_rfl) rfl
    (fun f fn hf hfn => by
      obtain rfl : f = 3 := Option.some.inj ((show Tryd.prog.funcNamed "loop.example/g03316/laws.FnBounds" = some 3 by kernel_rfl).symm.trans hf) |>.symm
      obtain rfl : fn = Tryd.f3 := (Option.some.inj (Tryd.func3.symm.trans hfn)).symm
      exact ⟨by kernel_rfl, fun j t ht => by
        rw [Tryd.params3] at ht
        have hm : t ∈ [22] := by simpa using Array.mem_of_getElem? ht
        have hall : ([22].all fun u => !Tryd.prog.wantsStandIn u) = true := by kernel_rfl
        exact (show Tryd.prog.wantsStandIn t = false by simpa using List.all_eq_true.1 hall t hm)⟩)
    (by kernel_rfl)
#print axioms proved
end Go.Proofs.YtggfmimnmpanbaaDoor.fnBounds
