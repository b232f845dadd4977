/- What this text proves: visible times are counted as they are, the next one is the next one, and those of a pass have its number, for every bytes that it draws from: the call of the law returns true, and the bytes read afterwards as they read before. No condition. -/
import Derived.Test.YtdfcamlnebcbpaaLViLaw
import Derived.Test.YtdfcamlnebcbpaaCodeRow
import Derived.ChangeSlices
import Derived.JoinedAt
namespace Go.Proofs.Ytdfcamlnebcbpaa.fnVisible
open Go.ChangeShapes Go.WideShapes Go.ChangeAt Go.RowKit
set_option linter.unusedVariables false

theorem own : ownKnob Try.prog.godebug = none := by kernel_rfl
theorem cellsU : Try.prog.cellsOf 5 = 1 := by kernel_rfl

set_option maxRecDepth 100000 in
theorem lifted (os : Os) (started : os.Started) (H : Type) (enc : TypeId × Value → H) :
    ReturnsInHanded {} Try.checked os 3 .any (Rows.fnVisibleSpec.pre6 enc Try.prog Try.f3 Rows.fnVisibleRow.domain false) (Rows.fnVisibleSpec.post enc Try.prog Try.f3 false true false false) := by
  refine returnsInHanded_of_change (C := Try.checked) own started (by kernel_rfl) Try.func3
    (ChangeSpec.witness6 (enc := enc) (C := Try.checked) false ⟨#[], #[.slice none 0 0], []⟩ 8 (by kernel_rfl) (by kernel_rfl) (by kernel_rfl) (by kernel_rfl)) ?_
  intro W base args ds gs before hval0 hW hcnd _
  have hval : ∀ (j : Nat) t v, Try.f3.params[j]? = some t → args[j]? = some v → Value.okWide Try.prog W .any base t v := hval0
  have hW' := hW
  obtain ⟨p, q, hA0, hV, rfl, hfz, hnd⟩ := hW
  have hA : DataW.TrodAll enc Try.prog W 0 (fun _ => true) true Try.f3.params.toList args.toList ds p := hA0
  rw [Try.params3] at hA hval
  obtain ⟨v0, d0, rfl, rfl, h0⟩ := trodAll_one hA
  obtain ⟨rfl, rfl⟩ := trodVars_none hV
  obtain ⟨a0, len, cap, rfl⟩ := okWide_slice Try.underlying22 (hval 0 22 v0 rfl rfl)
  obtain ⟨fuel, hf⟩ := h0
  clear hA0 hval0
  simp only [List.append_nil] at hW'
  rcases open_ints Try.underlying22 Try.underlying5 cellsU hf with ⟨hcs, hx⟩ | ⟨a, len', cap', zs, hcs, _, hl, hm, hz, hx, hcell, hwz⟩
  · simp [Value.cells] at hcs
    obtain ⟨rfl, rfl, rfl⟩ := hcs
    simp only [Prod.mk.injEq] at hx
    obtain ⟨rfl, rfl⟩ := hx
    refine (law_fnvisible none 0 0 (Nat.zero_le _) W (.inl rfl)).mono fun e W' ⟨he, hg⟩ => ?_
    subst he
    exact ⟨_, rfl, calm_post (before := []) hW' hg (fun _ _ _ => trodAll_mk1 (shut_bool Try.underlying4 _)) (fun sp _ => trodAll_mk1 (shut_slice_nil Try.underlying22)) (fun _ => rfl)⟩
  · simp [Value.cells] at hcs
    obtain ⟨rfl, rfl, rfl⟩ := hcs
    simp only [Prod.mk.injEq] at hx
    obtain ⟨rfl, rfl⟩ := hx
    simp only [if_true] at hz
    have hcode : CodeOk W W.heap.size (some a) len := code_of_cells hl hz hcell hwz
    refine (law_fnvisible (some a) len cap (Nat.le_trans hl hm) W hcode).mono fun e W' ⟨he, hg⟩ => ?_
    subst he
    have hcell' : ∀ i, i < zs.length → W'.cell? (a.add i) = some (.int .u8 (zs.getD i 0)) := fun i hi => by
      have h := hcell i hi
      rw [hg.cell (cell_lt h)]
      exact h
    refine ⟨_, rfl, calm_post (before := MemPlace.row a zs.length) hW' hg (fun _ _ _ => trodAll_mk1 (shut_bool Try.underlying4 _)) (fun sp hsp => ?_) (fun _ => rfl)⟩
    have hspb : zs.length = (if sp a.block then cap else len) := by
      by_cases hz0 : zs.length = 0
      · split <;> omega
      · have h : sp a.block = true := hsp (.cell a.block a.off) (MemPlace.mem_row.2 ⟨0, by omega, by simp⟩)
        rw [h]
        exact hz
    have t0 := shut_ints (enc := enc) (w := W') (base := 0) (spare := sp) (held := true) (a := a) (len := len) (cap := cap) (zs := zs) 0 Try.underlying22 Try.underlying5 cellsU (Nat.zero_le _) hl hm hspb hcell' hwz
    have again : DataW.TrodAll enc Try.prog W' 0 sp true [22] [.slice (some a) len cap] [.slice (lits .u8 (zs.take len)) (lits .u8 (zs.drop len))] (MemPlace.row a zs.length) := trodAll_mk1 ⟨2, by simpa [Value.cells] using t0⟩
    exact again

theorem over : Rows.fnVisibleRow.holds Try.pinned (OpenSpec.ofChange Rows.fnVisibleSpec) :=
  OpenClaim.holds_of_wide 3 Try.f3 rfl rfl rfl rfl rfl rfl rfl ⟨rfl, rfl, rfl, rfl, rfl⟩ rfl rfl rfl rfl rfl (by kernel_rfl) Try.func3 (by kernel_rfl)
    (of_decide_eq_true (by kernel_rfl)) (by unfold Func.isWrapper; first | (rw [if_pos (by decide +kernel)]; kernel_rfl) | (rw [if_neg (by decide +kernel)]; exact ⟨rfl, rfl⟩))
    (fun os started H enc _ => lifted os started H enc)

theorem proved : Rows.FnVisibleSaid := over
#print axioms proved
end Go.Proofs.Ytdfcamlnebcbpaa.fnVisible
