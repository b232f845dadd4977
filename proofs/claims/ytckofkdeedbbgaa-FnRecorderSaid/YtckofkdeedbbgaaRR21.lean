/- What this text proves: the parts CtRc of the proof, each under its own words. -/
import Derived.Test.YtckofkdeedbbgaaRR05
import Derived.Test.YtckofkdeedbbgaaRR10
import Derived.Test.YtckofkdeedbbgaaRR20
import Derived.Lib.AppendZeros
import Derived.ChangeKeysEq
import Derived.Laws.Slices
import Derived.Deep.LoopGhost
import Derived.Deep.RegionLaw
/- What this text proves: the contracts of slices.Grow and slices.Concat at the program's queue of records, and of the queue's without. -/
namespace Go.Proofs.Ytckofkdeedbbgaa
open Go.ChangeShapes Go.WideShapes Go.ChangeAt Go.RowKit
set_option linter.unusedVariables false

set_option maxRecDepth 20000 in
set_option maxHeartbeats 2000000 in
theorem grow_rc (n : Nat) (hn : n ≤ 1000000) (w : World) :
    Calls Try.prog 164 #[.slice none 0 0, .int .i64 (n : Int)] w fun e w' => ∃ v, e = .returned v ∧ OwnR 50 4 w' w.heap.size v [] ∧ Below w.heap.size w w' := by
  rcases Nat.eq_zero_or_pos n with h0 | h0
  · subst h0
    go_enter Try.func164, Try.ntmps164
    go_wp2
    go_ret
    exact ⟨_, rfl, OwnR.nil _ _ _ _, Below.refl _ _⟩
  · obtain ⟨i, hi, hz0, hz1, hz2⟩ := info_parts info_rc
    have hr := fun ty => Lib.run_append_nil_zeros w 173 3 ty 50 i (rdV 0 0 0 ⟨#[]⟩) .i64 .i64 Try.underlying173 Try.underlying3 hi hz0 n h0 (by rw [hz1]; decide) (by omega) (by rw [hz2]; omega)
    have hc1 := grownCap_ge w n 0 50
    have hc2 := grownCap_le_maxLen w n 0 50 (by unfold maxLen; omega)
    generalize grownCap w n 0 50 = cap at *
    have hsz : (Builtin.zeroCells ((rdV 0 0 0 ⟨#[]⟩) : Value).cells n ++ Builtin.zeroCells ((rdV 0 0 0 ⟨#[]⟩) : Value).cells (cap - n)).size = cap * 4 := by
      rw [Array.size_append, zc_size, zc_size]
      show n * 4 + (cap - n) * 4 = _
      rw [← Nat.add_mul]
      congr 1
      omega
    generalize (Builtin.zeroCells ((rdV 0 0 0 ⟨#[]⟩) : Value).cells n ++ Builtin.zeroCells ((rdV 0 0 0 ⟨#[]⟩) : Value).cells (cap - n)) = cs at *
    have HO := Lib.hid (show OwnR 50 4 (w.drew.alloc (.cells cs 50)) w.heap.size (.slice (some ⟨w.heap.size, 0, none⟩) 0 cap) [] from ⟨World.ownsRow_made (base := w.heap.size) w.drew cs cap (Nat.le_refl _) hc2 hsz, fun _ h => by cases h⟩)
    have HR := Lib.hid hr
    have HB := Lib.hid (show Below w.heap.size w (w.drew.alloc (.cells cs 50)) from (Below.refl w.heap.size w).drew.alloc (Nat.le_refl _) _)
    have hd : decide ((n : Int) < 0) = false := by simp
    have hd2 : decide ((0 : Int) < (n : Int)) = true := by simp; omega
    have hcap : 0 ≤ cap := Nat.zero_le _
    clear hr hc1 hsz hi hz0 hz1 hz2
    go_enter Try.func164, Try.ntmps164
    go_wp2_with (at_builtin; refine Lib.wpList_append_run _ rfl _ _ _ _ rfl _ _ rfl rfl _ _ (HR.out _) ?_)
    go_wp2
    go_ret
    exact ⟨_, rfl, HO.out, HB.out⟩
set_option maxRecDepth 20000 in
set_option maxHeartbeats 4000000 in
theorem concat_rc (ss : List (Option Addr × List (List Value) × Nat)) (g cap : Nat) (hss : ss.length ≤ 1000) (hsum : sumL ss ss.length ≤ 1000000) (w : World) (hg : g < w.heap.size)
    (hc : ∀ k (hk : k < ss.length), w.cell? ⟨g, k, none⟩ = some (.slice ss[k].1 ss[k].2.1.length ss[k].2.2)) (hr : ∀ k (hk : k < ss.length), LsI 4 w w.heap.size ss[k].1 ss[k].2.1 ∧ (∀ x ∈ ss[k].2.1, x.length = 4) ∧ ∀ x ∈ ss[k].2.1, ∀ u ∈ x, u.oneCell' = true) :
    Calls Try.prog 155 #[.slice (some ⟨g, 0, none⟩) ss.length cap] w fun e w' => ∃ v, e = .returned v ∧ OwnR 50 4 w' w.heap.size v (catL ss ss.length) ∧ Below w.heap.size w w' := by
  have HCW := Lib.hid (fun W (hb : Below w.heap.size w W) k (hk : k < ss.length) => (show W.cell? ⟨g, k, none⟩ = some (.slice ss[k].1 ss[k].2.1.length ss[k].2.2) from (hb.cell (p := ⟨g, k, none⟩) hg).trans (hc k hk)))
  have HRW := Lib.hid (fun W (hb : Below w.heap.size w W) k (hk : k < ss.length) => (show RowsAt W ss[k].1 ss[k].2.1 from ((hr k hk).1.full hb).rows (hr k hk).2.1))
  have HW := Lib.hid (fun k (hk : k < ss.length) => (hr k hk).2)
  have HGR := Lib.hid (grow_rc (sumL ss ss.length) hsum w)
  have HSL := Lib.hid (fun j k (h : j ≤ k) => sumL_le ss h)
  have HCL := Lib.hid (fun k => catL_len ss k)
  obtain ⟨i, hi, hz0, hz1, hz2⟩ := info_parts info_rc
  have HI := Lib.hid (And.intro hi (And.intro hz0 (And.intro hz1 hz2)))
  clear hc hr hi hz0 hz1 hz2
  go_enter Try.func155, Try.ntmps155
  go_wp2
  go_loopg [3, 11] ss.length (fun gh v3 v11 wx => ∃ k : Nat, k ≤ ss.length ∧ gh = ss.length - k ∧ v11 = .int .i64 (k : Int) ∧ v3 = .int .i64 (sumL ss k : Int) ∧ w = wx)
  case atStart => exact ⟨0, by omega, rfl, rfl, rfl, rfl⟩
  case round =>
    obtain ⟨k, hk, rfl, rfl, rfl, rfl⟩ := hrel
    by_cases hlt : k < ss.length
    · have hd : decide (k < ss.length) = true := by simp; omega
      have hd' : decide ((k : Int) < (ss.length : Int)) = true := by simp; omega
      have hck := HCW.out w (Below.refl _ _) k hlt
      have HE := Lib.hid (show sumL ss (k + 1) = sumL ss k + ss[k].2.1.length by simp only [sumL]; rw [getC_at hlt])
      have hle := HSL.out (k + 1) ss.length hlt
      rw [HE.out] at hle
      generalize ss[k].2.1.length = m at *
      generalize ss[k].1 = Ak at *
      generalize ss[k].2.2 = ck at *
      have hs1 : sumL ss k ≤ 1000000 := by omega
      have hm1 : m ≤ 1000000 := by omega
      have hd2 : decide (((sumL ss k : Nat) : Int) + (m : Int) < 0) = false := by simp; omega
      have HE2 := Lib.hid (show ((sumL ss k : Nat) : Int) + (m : Int) = ((sumL ss (k + 1) : Nat) : Int) by rw [HE.out]; omega)
      clear hle
      generalize sumL ss k = U at *
      go_wp2
      go_roundg (ss.length - (k + 1))
      case measure => omega
      case rel => exact ⟨k + 1, by omega, rfl, by go_num, by rw [← HE2.out], rfl⟩
    · have hd : decide (k < ss.length) = false := by simp; omega
      have hd' : decide ((k : Int) < (ss.length : Int)) = false := by simp; omega
      obtain rfl : k = ss.length := by omega
      clear hlt
      go_wp2_with fail
      refine HGR.out.mono ?_
      rintro e w2 ⟨v2, rfl, hv2, hb2⟩
      have O2 := Lib.hid hv2
      have B2 := Lib.hid hb2
      clear hv2 hb2
      go_wp2
      go_loopg [6, 27] ss.length (fun gh v6 v27 wx => ∃ k : Nat, k ≤ ss.length ∧ gh = ss.length - k ∧ v27 = .int .i64 (k : Int) ∧ OwnR 50 4 wx w.heap.size v6 (catL ss k) ∧ Below w.heap.size w wx)
      case atStart => exact ⟨0, by omega, rfl, rfl, O2.out, B2.out⟩
      case round =>
        obtain ⟨k, hk, rfl, rfl, hown, hbel⟩ := hrel
        have HO := Lib.hid hown
        have HB := Lib.hid hbel
        clear hown hbel
        by_cases hlt : k < ss.length
        · have hd : decide (k < ss.length) = true := by simp; omega
          have hd' : decide ((k : Int) < (ss.length : Int)) = true := by simp; omega
          have hck := HCW.out wr HB.out k hlt
          have HRK := Lib.hid (HRW.out wr HB.out k hlt)
          have HWK := Lib.hid (HW.out k hlt)
          have HE := Lib.hid (show catL ss (k + 1) = catL ss k ++ ss[k].2.1 by simp only [catL]; rw [getC_at hlt])
          have HL := Lib.hid (show (catL ss k).length + ss[k].2.1.length ≤ 1099511 from by
            have h1 := HSL.out (k + 1) ss.length hlt
            have h2 : sumL ss (k + 1) = sumL ss k + ss[k].2.1.length := by simp only [sumL]; rw [getC_at hlt]
            rw [HCL.out]
            omega)
          have hm1 : ss[k].2.1.length ≤ 1099511 := by have := HL.out; omega
          generalize ss[k].2.1 = R at *
          generalize ss[k].1 = Ak at *
          generalize ss[k].2.2 = ck at *
          have hwz : w.heap.size ≤ wr.heap.size := HB.out.size
          go_wp2_with (at_builtin; go_loud (refine app_rows 50 173 4 40 (rdV 0 0 0 ⟨#[]⟩) i wr rfl _ _ rfl Try.underlying173 HI.out.1 HI.out.2.1 HI.out.2.2.1 HI.out.2.2.2 rfl (by decide) (by decide) w.heap.size u6 (catL ss k) rfl HO.out Ak R ck rfl HWK.out.1 HWK.out.2 HRK.out HL.out hwz ?_))
          intro v8 w8 hown8 hg8 _
          replace hown8 : OwnR 50 4 w8 w.heap.size v8 (catL ss k ++ R) := hown8
          rw [← HE.out] at hown8
          have O8 := Lib.hid hown8
          have B8 := Lib.hid (HB.out.grown hg8 hwz fun k' hk' => (World.ownsRow.lt HO.out.1 k' hk').1)
          clear hown8 hg8
          go_wp2
          go_roundg (ss.length - (k + 1))
          case measure => omega
          case rel => exact ⟨k + 1, by omega, rfl, by go_num, O8.out, B8.out⟩
        · have hd : decide (k < ss.length) = false := by simp; omega
          have hd' : decide ((k : Int) < (ss.length : Int)) = false := by simp; omega
          obtain rfl : k = ss.length := by omega
          clear hlt
          go_wp2
          go_ret
          exact ⟨_, rfl, HO.out, HB.out⟩

theorem cut_qrc (A : Option Addr) (n c K : Nat) (hK : K ≤ n) (hn : n ≤ 1000000) (W : World) : (Instr.slice 173 (.slice A n c) (some (.int .i64 (K : Int))) none none).run Try.prog W = .ok (.slice (if c = K then A else A.map (·.add (K * 4))) (n - K) (c - K)) W := by
  have ht : Try.prog.underlying 173 = some (.slice 50) := Try.underlying173
  have he : Try.prog.elem 173 = 50 := by simp [Program.elem, ht]
  have hc : Try.prog.cellsOf 50 = 4 := by kernel_rfl
  obtain ⟨i, hi, _, _, _⟩ := info_parts info_rc
  rw [run_slice_l W 173 _ _ _ (by rw [he]; exact ht) .i64 _ (by omega) (by omega), he, run_sizeOf _ hi, hc]
  simp [Result.andThen, sliced]
theorem head_qrc (A : Option Addr) (n c K : Nat) (hK : K ≤ c) (W : World) : (Instr.slice 173 (.slice A n c) none (some (.int .i64 (K : Int))) none).run Try.prog W = .ok (.slice A K c) W := by
  have ht : Try.prog.underlying 173 = some (.slice 50) := Try.underlying173
  have he : Try.prog.elem 173 = 50 := by simp [Program.elem, ht]
  obtain ⟨i, hi, _, _, _⟩ := info_parts info_rc
  rw [run_slice_h W 173 _ _ _ (by rw [he]; exact ht) .i64 _ (by omega) (by omega), he, run_sizeOf _ hi]
  cases A with
  | none => simp [Result.andThen, sliced]
  | some a => simp [Result.andThen, sliced, Addr.add]
set_option maxRecDepth 20000 in
set_option maxHeartbeats 4000000 in
theorem without_rc (A : Option Addr) (l : List Rc) (q k : Nat) (hq : l.length ≤ q) (hk : k < l.length) (hl : l.length ≤ 1000000) (w : World) (h : LsI 4 w w.heap.size A (l.map rcC)) :
    Calls Try.prog 130 #[.slice A l.length q, .int .i64 (k : Int)] w fun e w' => ∃ v, e = .returned v ∧ OwnR 50 4 w' w.heap.size v ((l.eraseIdx k).map rcC) ∧ Below w.heap.size w w' := by
  have s1 := head_qrc A l.length q k (by omega)
  have s2 := cut_qrc A l.length q (k + 1) hk hl
  have e1 : ((k + 1 : Nat) : Int) = (k : Int) + 1 := by omega
  rw [e1] at s2
  have wk : IntKind.i64.wrap ((k : Int) + 1) = (k : Int) + 1 := IntWalk.i64_in _ (by omega)
  have h1 := h.take k
  have h2 := h.drop (k + 1) q (by rw [List.length_map]; exact hq)
  have w1 : ∀ x ∈ (l.map rcC).take k, x.length = 4 := fun x hx => rc_len l x (List.mem_of_mem_take hx)
  have w2 : ∀ x ∈ (l.map rcC).drop (k + 1), x.length = 4 := fun x hx => rc_len l x (List.mem_of_mem_drop hx)
  have n1 : ∀ x ∈ (l.map rcC).take k, ∀ u ∈ x, u.oneCell' = true := fun x hx => rc_one l x (List.mem_of_mem_take hx)
  have n2 : ∀ x ∈ (l.map rcC).drop (k + 1), ∀ u ∈ x, u.oneCell' = true := fun x hx => rc_one l x (List.mem_of_mem_drop hx)
  have t1 : ((l.map rcC).take k).length = k := by rw [List.length_take, List.length_map]; omega
  have t2 : ((l.map rcC).drop (k + 1)).length = l.length - (k + 1) := by rw [List.length_drop, List.length_map]
  obtain ⟨A2, hA2⟩ : ∃ A2, (if q = k + 1 then A else A.map (·.add ((k + 1) * 4))) = A2 := ⟨_, rfl⟩
  rw [hA2] at h2
  simp only [hA2] at s2
  have he : (l.map rcC).take k ++ (l.map rcC).drop (k + 1) = (l.eraseIdx k).map rcC := by
    rw [← List.map_take, ← List.map_drop, ← List.map_append, List.eraseIdx_eq_take_drop_succ]
  have HC := Lib.hid (fun W (hb : Below w.heap.size w W) => (show (∀ j, W.cell? ⟨w.heap.size, j, none⟩ = #[Value.slice A k q, .slice A2 (l.length - (k + 1)) (q - (k + 1))][j]?) → w.heap.size < W.heap.size → Calls Try.prog 155 #[.slice (some ⟨w.heap.size, 0, none⟩) 2 2] W fun e w' => ∃ v, e = .returned v ∧ OwnR 50 4 w' w.heap.size v ((l.eraseIdx k).map rcC) ∧ Below W.heap.size W w' from fun hcl hgl => by
    have hcc := concat_rc [(A, (l.map rcC).take k, q), (A2, (l.map rcC).drop (k + 1), q - (k + 1))] w.heap.size 2 (by simp) (by simp only [sumL, List.length_cons, List.length_nil]; show 0 + ((l.map rcC).take k).length + ((l.map rcC).drop (k + 1)).length ≤ _; rw [t1, t2]; omega) W hgl (fun j hj => by
      rcases j with _ | _ | j
      · rw [hcl]; show _ = some (Value.slice A ((l.map rcC).take k).length q); rw [t1]; rfl
      · rw [hcl]; show _ = some (Value.slice A2 ((l.map rcC).drop (k + 1)).length (q - (k + 1))); rw [t2]; rfl
      · exact absurd hj (by show ¬ (j + 1 + 1 < 2); omega)) (fun j hj => by
      rcases j with _ | _ | j
      · exact ⟨h1.full hb, w1, n1⟩
      · exact ⟨h2.full hb, w2, n2⟩
      · exact absurd hj (by show ¬ (j + 1 + 1 < 2); omega))
    refine hcc.mono fun e w' hh => ?_
    obtain ⟨v, e1, e2, e3⟩ := hh
    refine ⟨v, e1, ?_, e3⟩
    have e4 : catL [(A, (l.map rcC).take k, q), (A2, (l.map rcC).drop (k + 1), q - (k + 1))] 2 = (l.eraseIdx k).map rcC := by
      show ([] ++ (l.map rcC).take k) ++ (l.map rcC).drop (k + 1) = _
      rw [List.nil_append]; exact he
    have e5 := OwnR.lower e2 hb.size
    rw [← e4]
    exact e5))
  have HB := Lib.hid (show Below w.heap.size w ((w.alloc (.cells #[Value.slice A k q, .slice A2 (l.length - (k + 1)) (q - (k + 1))] 173)).drew) from ((Below.refl _ _).alloc (Nat.le_refl _) _).drew)
  have HX := Lib.hid (HC.out _ HB.out (fun j => by
    show (w.alloc (.cells #[Value.slice A k q, .slice A2 (l.length - (k + 1)) (q - (k + 1))] 173)).cell? ⟨w.heap.size, j, none⟩ = _
    rw [World.cell?_alloc_at _ _ _ _ rfl]) (by show w.heap.size < (w.alloc _).heap.size; simp))
  have kk1 : (0 : Int) ≤ (k : Int) := by omega
  have kk2 : (k : Int) ≤ (l.length : Int) := by omega
  have kk3 : (k : Int) + 1 ≤ (l.length : Int) := by omega
  clear h h1 h2 w1 w2 n1 n2 t1 t2 he hA2 e1 HC
  go_enter Try.func130, Try.ntmps130
  go_wp2
  go_region_law ((go_simp; go_at_call 155; (with_reducible refine HX.out.mono ?_); rintro e w2 ⟨v, rfl, ho, hb⟩))
  all_goals
    have O2 := Lib.hid ho
    have B2 := Lib.hid (HB.out.trans (hb.mono HB.out.size))
    clear ho hb HX
    go_wp2
    go_ret
    exact ⟨_, rfl, O2.out, B2.out⟩
end Go.Proofs.Ytckofkdeedbbgaa
