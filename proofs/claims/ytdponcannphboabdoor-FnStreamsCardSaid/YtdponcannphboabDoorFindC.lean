/- What this text proves: the contract of the program's FindBlocks: what its iterator hands is collected in a new slice. -/
import Derived.Test.YtdponcannphboabDoorFindP
namespace Go.Proofs.YtdponcannphboabDoor
open Go.ChangeShapes Go.WideShapes Go.ChangeAt Go.RowKit Go.Shelf
set_option linter.unusedVariables false
attribute [local go_sem] Oper.semAt_some

theorem find_stops (fu : Nat) (hfu : 1 ≤ fu) (bs bt n : Nat) (t : ByteArray) (hn : 1 ≤ n ∧ n ≤ 200) (ht : t.size ≤ 20000) (w : World) (n₀ : Nat) (hn₀ : n₀ ≤ w.heap.size) (hbs : bs < n₀) (hbt : bt < n₀)
    (hb1 : w.cell? ⟨bs, 0, none⟩ = some (.int .i64 (n : Int))) (hb2 : w.cell? ⟨bt, 0, none⟩ = some (.string t)) :
    SeqStopsK Fence.wide fu Tryd.prog 57 #[.pointer (some ⟨bs, 0, none⟩), .pointer (some ⟨bt, 0, none⟩)] (fun x : Int => #[Value.int .i64 x]) (Below n₀) (fun xs => xs = findF t n (t.size + 1) 0) (fun _ => True) (findF t n (t.size + 1) 0).length w := fun l J Jx W hW _ _ hY h0 =>
  find_run fu hfu l bs bt n₀ n t hbs hbt hn ht J Jx hY W ((hW.cell (p := ⟨bs, 0, none⟩) (Nat.lt_of_lt_of_le hbs hn₀)).trans hb1) ((hW.cell (p := ⟨bt, 0, none⟩) (Nat.lt_of_lt_of_le hbt hn₀)).trans hb2) h0

set_option maxRecDepth 100000 in
set_option maxHeartbeats 2000000 in
theorem seq_find (t : ByteArray) (n : Nat) (hn : 1 ≤ n ∧ n ≤ 200) (ht : t.size ≤ 20000) (bs bt : Nat) (w : World) (hbs : bs < w.heap.size) (hbt : bt < w.heap.size)
    (hb1 : w.cell? ⟨bs, 0, none⟩ = some (.int .i64 (n : Int))) (hb2 : w.cell? ⟨bt, 0, none⟩ = some (.string t)) :
    Calls Tryd.prog 56 #[.slice none 0 0, .func (.func 57) #[] #[.pointer (some ⟨bs, 0, none⟩), .pointer (some ⟨bt, 0, none⟩)]] w (IntsRes (findF t n (t.size + 1) 0) w) := by
  have hll := findF_len t n (t.size + 1) 0
  have HSQ := Lib.hid (fun fu hfu w n₀ hn₀ hbs hbt hb1 hb2 => find_stops fu hfu bs bt n t hn ht w n₀ hn₀ hbs hbt hb1 hb2)
  generalize findF t n (t.size + 1) 0 = L at *
  obtain ⟨i0, hi, hz0, hz1, hz2⟩ := info_parts info_int
  refine (callsIn_wide (n := 6)).1 ?_
  refine callsIn_of_wp_marks Tryd.func56 rfl trivial ?_ rfl
  simp only [Tryd.ntmps56, List.size_toArray, List.length_cons, List.length_nil, Nat.reduceAdd, Nat.reduceSub, Array.replicate_succ, Array.replicate_zero, List.push_toArray, List.append_toArray, List.nil_append, List.cons_append]
  gi_wp2
  have bO := Boxed.new w 43 (.slice none 0 0)
  have hB0 : Below w.heap.size w (w.alloc (.cells #[.slice none 0 0] 43)) := (Below.refl _ w).alloc (Nat.le_refl _) _
  have hseq := HSQ.out (6 - 1) (by omega) (w.alloc (.cells #[.slice none 0 0] 43)) w.heap.size (by simp) hbs hbt ((hB0.cell (p := ⟨bs, 0, none⟩) hbs).trans hb1) ((hB0.cell (p := ⟨bt, 0, none⟩) hbt).trans hb2)
  refine wpIn_rangeFunc_ownG (F := Fence.wide) (n := 6) rfl (by omega) (gf := 57) (lb := #[.pointer (some ⟨bs, 0, none⟩), .pointer (some ⟨bt, 0, none⟩)]) rfl trivial (enters_of Tryd.func57 (by kernel_rfl) rfl)
    hseq belowK_t (belowK_b (by simp)) (Below.refl _ _) (fun _ => rfl)
    (fun pre W => (∃ v, Boxed W w.heap.size 43 v ∧ W.ownsRow w.heap.size 3 1 v pre.length (pre.map (Value.int .i64)) ∧ (v = .slice none 0 0 ↔ pre = [])) ∧ Below w.heap.size w W)
    (fun _ _ _ => False)
    (OwnFrom.and (Own.from (holdsRow_own w.heap.size w.heap.size 43 3 1 (fun pre : List Int => pre.length) (fun pre => pre.map (Value.int .i64)) (fun pre v => v = .slice none 0 0 ↔ pre = [])) _) (ownFrom_below (Nat.le_refl _) (by simp)))
    (fun _ _ _ _ _ hs _ _ => hs)
    ⟨⟨_, bO, World.ownsRow_nil _ _ _ _, by simp⟩, hB0⟩
    (fun x => { tmps := #[.slice none 0 0, .func (.func 57) #[] #[.pointer (some ⟨bs, 0, none⟩), .pointer (some ⟨bt, 0, none⟩)], .pointer (some ⟨w.heap.size, 0, none⟩), undef, .slice none 0 0, .int .i64 x, .func (.func 57) #[] #[.pointer (some ⟨bs, 0, none⟩), .pointer (some ⟨bt, 0, none⟩)], .int .i64 x, undef, undef, undef, undef, undef], defers := [] }) ?assign ?body ?done ?stop
  case assign =>
    intro l x W K hK
    gi_wp2
    exact hK
  case body =>
    rintro l pre x W ⟨⟨v, hv, hrow, hnil⟩, hB⟩ hlt
    have hc := hv.cell
    gi_wp2_with (gi_at_builtin; refine wpListIn_append_own _ rfl _ _ 43 rfl w.heap.size 3 i0 (.int .i64 0) 1 8 Tryd.underlying43 hi hz0 hz1 hz2 rfl (by decide) _ _ _ rfl (hrow.alloc _) ⟨W.heap.size, 0, none⟩ 1 1 [.int .i64 x] rfl rfl (cell_one_new _ _ _) (by simp [Value.oneCell']) (by unfold maxLen; omega) (by omega) (by have := hB.size; simp; omega) ?_; intro v' w1 hown' hgrow _; obtain ⟨g', cap', rfl⟩ := ownsRow_succ hown'; obtain ⟨hv1, hv2, hr2, hk2, hb2⟩ := hv.appended (by decide) hrow hB.size (Nat.le_refl _) hown' hgrow; have hc1 := hv1.cell; have hf1 := hv1.frozen)
    exact ⟨hk2.from _, hb2, ⟨_, hv2, by simpa using hr2, by simp⟩, hB.trans hb2⟩
  case done =>
    rintro D ys W hD rfl ⟨⟨v, hv, hrow, hnil⟩, hB⟩ hK
    have hc := hv.cell
    gi_wp2
    refine ⟨by simp, .inl ⟨_, _, rfl, run_takeDeferred hK, ?_⟩⟩
    exact ⟨_, results_tmp rfl _ _ _, v, rfl, by unfold OwnI; exact ownsRow_putObj hrow _ hK rfl, hB.trans (belowK_b (w := w) (Nat.le_refl _) W D _ _ (by simp at hD; omega) hK rfl rfl)⟩
  case stop =>
    rintro D c pre W _ _ h _
    exact h.elim

theorem collect_find (t : ByteArray) (n : Nat) (hn : 1 ≤ n ∧ n ≤ 200) (ht : t.size ≤ 20000) (bs bt : Nat) (w : World) (hbs : bs < w.heap.size) (hbt : bt < w.heap.size)
    (hb1 : w.cell? ⟨bs, 0, none⟩ = some (.int .i64 (n : Int))) (hb2 : w.cell? ⟨bt, 0, none⟩ = some (.string t)) :
    Calls Tryd.prog 44 #[.func (.func 57) #[] #[.pointer (some ⟨bs, 0, none⟩), .pointer (some ⟨bt, 0, none⟩)]] w (IntsRes (findF t n (t.size + 1) 0) w) := by
  have H := Lib.hid (seq_find t n hn ht bs bt w hbs hbt hb1 hb2)
  go_enter Tryd.func44, Tryd.ntmps44
  go_wp2_with fail
  refine H.out.mono ?_
  rintro e w' ⟨v, rfl, hown, hb⟩
  obtain ⟨A, c, rfl⟩ := hown.form
  go_wp2
  go_ret
  exact ⟨_, rfl, hown, hb⟩

set_option maxHeartbeats 2000000 in
theorem find_impl (t : ByteArray) (ht : t.size ≤ 1048576) (n : Int) (w : World) :
    Calls Tryd.prog 24 #[.string t, .int .i64 n] w (IntsRes (findV t n) w) := by
  by_cases hn : 1 ≤ n ∧ n ≤ 200
  · have d0 : decide (n < 1) = false := by simp; omega
    have d1 : decide (200 < n) = false := by simp; omega
    by_cases h2 : t.size ≤ 20000
    · have d2 : decide ((20000 : Int) < (t.size : Int)) = false := by simp; omega
      obtain ⟨n, rfl⟩ := Int.eq_ofNat_of_zero_le (show 0 ≤ n by omega)
      have HV := Lib.hid (findV_in (t := t) (n := n) ⟨hn, h2⟩)
      have cM := Lib.hid (fun W => callsIn_wide.1 (find_make Fence.wide 5 trivial rfl t (n : Int) W))
      have bA := (Boxed.new w 9 (.string t)).alloc (.cells #[.int .i64 (n : Int)] 3)
      have bN := Boxed.new (w.alloc (.cells #[.string t] 9)) 3 (.int .i64 (n : Int))
      rw [World.size_alloc] at bN
      have HC := Lib.hid (collect_find t n (by omega) h2 (w.heap.size + 1) w.heap.size ((w.alloc (.cells #[.string t] 9)).alloc (.cells #[.int .i64 (n : Int)] 3)) (by simp) (by simp; omega) bN.cell bA.cell)
      have hB0 : Below w.heap.size w ((w.alloc (.cells #[.string t] 9)).alloc (.cells #[.int .i64 (n : Int)] 3)) := ((Below.refl _ w).alloc (Nat.le_refl _) _).alloc (by simp) _
      have HB := Lib.hid hB0
      have hz : w.heap.size ≤ ((w.alloc (.cells #[.string t] 9)).alloc (.cells #[.int .i64 (n : Int)] 3)).heap.size := hB0.size
      clear bA bN hB0
      go_enter Tryd.func24, Tryd.ntmps24
      go_wp2_with fail
      refine (cM.out _).mono ?_
      rintro e w' ⟨rfl, rfl⟩
      go_wp2_with fail
      refine HC.out.mono ?_
      rintro e w' ⟨v, rfl, hown, hb⟩
      have hown2 := OwnI.lower hown hz
      obtain ⟨A, c, rfl⟩ := hown2.form
      have HO := Lib.hid hown2
      have HBB := Lib.hid (HB.out.trans (hb.mono hz))
      clear hown hown2 hb
      go_wp2
      go_ret
      exact ⟨_, rfl, by rw [HV.out]; exact HO.out, HBB.out⟩
    · have HV := Lib.hid (findV_out (t := t) (n := n) (fun h => h2 h.2))
      have d2 : decide ((20000 : Int) < (t.size : Int)) = true := by simp; omega
      go_enter Tryd.func24, Tryd.ntmps24
      go_wp2
      go_ret
      exact ⟨_, rfl, by rw [HV.out]; exact OwnI.nil w _, Below.refl _ _⟩
  · have HV := Lib.hid (findV_out (t := t) (n := n) (fun h => hn h.1))
    by_cases h1 : n < 1
    · have d0 : decide (n < 1) = true := by simpa using h1
      go_enter Tryd.func24, Tryd.ntmps24
      go_wp2
      go_ret
      exact ⟨_, rfl, by rw [HV.out]; exact OwnI.nil w _, Below.refl _ _⟩
    · have d0 : decide (n < 1) = false := by simpa using h1
      have d1 : decide (200 < n) = true := by simp; omega
      go_enter Tryd.func24, Tryd.ntmps24
      go_wp2
      go_ret
      exact ⟨_, rfl, by rw [HV.out]; exact OwnI.nil w _, Below.refl _ _⟩
end Go.Proofs.YtdponcannphboabDoor
