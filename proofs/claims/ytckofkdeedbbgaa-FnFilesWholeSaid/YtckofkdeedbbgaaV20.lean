/- What this text proves: the parts Nxp of the proof, each under its own words. -/
import Derived.Test.YtckofkdeedbbgaaV18
import Derived.Test.YtckofkdeedbbgaaV08
import Derived.Test.YtckofkdeedbbgaaV19
import Derived.Deep.RegionHeld3
import Derived.Deep.Cut
/- What this text proves: the contracts of NextPart, of the program and the model. -/
namespace Go.Proofs.Ytckofkdeedbbgaa
open Go.ChangeShapes Go.WideShapes Go.ChangeAt Go.RowKit
set_option linter.unusedVariables false

/-- The part for which an element of a queue stands. -/
noncomputable def partO (f : Int) (d : ByteArray) (k : Int) : ByteArray := if k = -1 then eeT f d else esT f k (segS d k)
theorem partO_end {f : Int} {d : ByteArray} : partO f d (-1) = eeT f d := if_pos rfl
theorem partO_seg {f : Int} {d : ByteArray} {k : Int} (h : k ≠ -1) : partO f d k = esT f k (segS d k) := if_neg h
/-- What NextPart makes of a sender. -/
noncomputable def nxP (f : Int) (d : ByteArray) (l : List Int) (b : Bool) : Int × ByteArray × List Int × Bool × ByteArray × Bool := open Classical in
  if FoOk f d l ∧ 0 < l.length then (f, d, l.eraseIdx 0, b, partO f d (l.getD 0 0), true) else (f, d, l, b, ⟨#[]⟩, false)
theorem nxP_yes {f : Int} {d : ByteArray} {l : List Int} {b : Bool} (h : FoOk f d l) (h0 : 0 < l.length) : nxP f d l b = (f, d, l.eraseIdx 0, b, partO f d (l.getD 0 0), true) := by unfold nxP; rw [if_pos ⟨h, h0⟩]
theorem nxP_no {f : Int} {d : ByteArray} {l : List Int} {b : Bool} (h : ¬ (FoOk f d l ∧ 0 < l.length)) : nxP f d l b = (f, d, l, b, ⟨#[]⟩, false) := by unfold nxP; rw [if_neg h]
theorem nxP_len (f : Int) (d : ByteArray) (l : List Int) (b : Bool) (hl : l.length ≤ 1048576) : (nxP f d l b).2.2.1.length ≤ 1048576 := by
  by_cases h : FoOk f d l ∧ 0 < l.length
  · rw [nxP_yes h.1 h.2]; show (l.eraseIdx 0).length ≤ _; have := List.length_eraseIdx_le (l := l) (i := 0); omega
  · rw [nxP_no h]; exact hl
def NxEnd (w : World) (r : Int × ByteArray × List Int × Bool × ByteArray × Bool) (e : Ending) (w' : World) : Prop := ∃ v, e = .returned (.tuple #[v, .string r.2.2.2.2.1, .bool r.2.2.2.2.2]) ∧ (foT v r.1 r.2.1 r.2.2.2.1 r.2.2.1).P w' ∧ (∀ k, (foT v r.1 r.2.1 r.2.2.2.1 r.2.2.1).F k → w.heap.size ≤ k) ∧ Below w.heap.size w w'
theorem cut_sin (A : Option Addr) (n c K : Nat) (hK : K ≤ n) (hn : n ≤ 1000000) (W : World) : (Instr.slice 24 (.slice A n c) (some (.int .i64 (K : Int))) none none).run Try.prog W = .ok (.slice (if c = K then A else A.map (·.add (K * 1))) (n - K) (c - K)) W := by
  have ht : Try.prog.underlying 24 = some (.slice 3) := Try.underlying24
  have he : Try.prog.elem 24 = 3 := by simp [Program.elem, ht]
  have hc : Try.prog.cellsOf 3 = 1 := by kernel_rfl
  obtain ⟨i, hi, _, _, _⟩ := info_parts info_int
  rw [run_slice_l W 24 _ _ _ (by rw [he]; exact ht) .i64 _ (by omega) (by omega), he, run_sizeOf _ hi, hc]
  simp [Result.andThen, sliced]
theorem cut_one (A : Option Addr) (n c : Nat) (hK : 0 < n) (hn : n ≤ 1000000) (W : World) : (Instr.slice 24 (.slice A n c) (some (.int .i64 1)) none none).run Try.prog W = .ok (.slice (if c = 1 then A else A.map (·.add (1 * 1))) (n - 1) (c - 1)) W := cut_sin A n c 1 hK hn W
set_option maxRecDepth 20000 in
theorem mk_end (w : World) : Calls Try.prog 80 #[.int .i64 (-1)] w fun e w' => e = .returned (.func (.func 133) #[] #[]) ∧ Below w.heap.size w w' := by
  go_enter Try.func80, Try.ntmps80
  go_wp2
  go_ret
  exact ⟨rfl, (Below.refl _ _).alloc (Nat.le_refl _) _⟩
set_option maxRecDepth 20000 in
theorem mk_seg (k : Int) (hk : k ≠ -1) (w : World) : Calls Try.prog 80 #[.int .i64 k] w fun e w' => e = .returned (.func (.func 134) #[] #[.pointer (some ⟨w.heap.size, 0, none⟩)]) ∧ w.heap.size < w'.heap.size ∧ w'.cell? ⟨w.heap.size, 0, none⟩ = some (.int .i64 k) ∧ Below w.heap.size w w' := by
  have e1 : (k == -1) = false := by simpa using hk
  have hmf : ∀ (fn : Fn) (first cap : Array Value) (w : World), (Instr.makeFunc fn first cap).run Try.prog w = .ok (.func fn first cap) w := fun _ _ _ _ => rfl
  go_enter Try.func80, Try.ntmps80
  go_wp2
  go_ret
  exact ⟨rfl, by simp, World.cell?_alloc_at _ _ _ _ rfl, (Below.refl _ _).alloc (Nat.le_refl _) _⟩
set_option maxRecDepth 20000 in
theorem mk1 (f : Int) (d : ByteArray) (b : Bool) (V : Value) (hd : d.size ≤ 1048576) (hV : ∃ A n c, V = .slice A n c) (w : World) : Calls Try.prog 133 #[foV f d b V] w fun e w' => e = .returned (.string (eeT f d)) ∧ Below w.heap.size w w' := by
  obtain ⟨A, n, c, rfl⟩ := hV
  have S1 := Lib.hid ((St.start w).made (foL f d b (.slice A n c)) 62)
  have HE := Lib.hid (ee_impl f d hd)
  obtain ⟨k0, k1, k2, k3⟩ := (S1.out.box 0 _ _ rfl).fourFo
  go_enter Try.func133, Try.ntmps133
  go_wp2_with fail
  refine (HE.out _).mono ?_
  rintro e w2 ⟨rfl, hb2⟩
  have S2 := Lib.hid (S1.out.more hb2)
  clear S1 hb2 k0 k1 k2 k3
  go_wp2
  go_ret
  exact ⟨rfl, S2.out.below⟩
set_option maxRecDepth 20000 in
theorem mk2 (f : Int) (d : ByteArray) (b : Bool) (V : Value) (hd : d.size ≤ 1048576) (hV : ∃ A n c, V = .slice A n c) (g : Nat) (k : Int) (w : World) (hg : g < w.heap.size) (hc : w.cell? ⟨g, 0, none⟩ = some (.int .i64 k)) : Calls Try.prog 134 #[foV f d b V, .pointer (some ⟨g, 0, none⟩)] w fun e w' => e = .returned (.string (esT f k (segS d k))) ∧ Below w.heap.size w w' := by
  obtain ⟨A, n, c, rfl⟩ := hV
  have S1 := Lib.hid ((St.start w).made (foL f d b (.slice A n c)) 62)
  have HE := Lib.hid (es_impl f k (segS d k) (by have := segS_size d k; omega))
  have HS := Lib.hid (seg_impl d k hd)
  obtain ⟨k0, k1, k2, k3⟩ := (S1.out.box 0 _ _ rfl).fourFo
  have hcw : (w.alloc (.cells (foL f d b (.slice A n c)).toArray 62)).cell? ⟨g, 0, none⟩ = some (.int .i64 k) := (((Below.refl w.heap.size w).alloc (Nat.le_refl _) _).cell hg).trans hc
  clear hc
  go_enter Try.func134, Try.ntmps134
  go_wp2
  go_region_held3 (fun w' => w'.cell? ⟨g, 0, none⟩ = some (.int .i64 k) ∧ w'.cell? ⟨w.heap.size, 0, none⟩ = some (.int .i64 f) ∧ w'.cell? ⟨w.heap.size, 1, none⟩ = some (.string d)) (first | exact ⟨hcw, k0, k1⟩ | exact ⟨hcw5, j0, j1⟩)
    (first
    | (go_at_call 136; (with_reducible refine (HS.out _).mono ?_); rintro e w' ⟨rfl, rfl⟩)
    | (go_at_call 135; (with_reducible refine (HE.out _).mono ?_); rintro e w5 ⟨rfl, hb5⟩; have S5 := Lib.hid (S1.out.drew.more hb5); obtain ⟨j0, j1, j2, j3⟩ := (S5.out.box 0 _ _ rfl).fourFo; have hcw5 : w5.cell? ⟨g, 0, none⟩ = some (.int .i64 k) := (hb5.cell (Nat.lt_of_lt_of_le hg S1.out.below.size)).trans hcw))
  all_goals
    clear S1 hb5 k0 k1 k2 k3 hcw j0 j1 j2 j3 hcw5
    go_wp2
    go_ret
    exact ⟨rfl, S5.out.below⟩

set_option maxRecDepth 20000 in
set_option maxHeartbeats 8000000 in
theorem nx_impl (f : Int) (d : ByteArray) (A : Option Addr) (l : List Int) (q : Nat) (b : Bool) (hd : d.size ≤ 1048576) (hl : l.length ≤ 1048576) (hq : l.length ≤ q) (w : World) (h : LsI 1 w w.heap.size A (l.map inC)) :
    Calls Try.prog 27 #[foV f d b (.slice A l.length q)] w (NxEnd w (nxP f d l b)) := by
  have S0 := (((St.start w).made (foL f d b (.slice A l.length q)) 62).made [.int .i64 0, .string ⟨#[]⟩, .slice none 0 0, .bool false] 62)
  have S1 := Lib.hid (show St w ((w.alloc (.cells (foL f d b (.slice A l.length q)).toArray 62)).alloc (.cells [.int .i64 0, .string ⟨#[]⟩, .slice none 0 0, .bool false].toArray 62)) [boxT (w.heap.size + 1) [.int .i64 0, .string ⟨#[]⟩, .slice none 0 0, .bool false], boxT w.heap.size (foL f d b (.slice A l.length q))] from by simpa using S0)
  have HC := Lib.hid (fun W (hb : Below w.heap.size w W) => cpfo_impl f d A l q b (by omega) W (h.full hb))
  have HK := Lib.hid (fun W (hb : Below w.heap.size w W) => fook_impl f d A l q b hd (by omega) W (h.full hb))
  have HI := Lib.hid (fun W (hb : Below w.heap.size w W) => h.full hb)
  have HP1 := Lib.hid (fun h => nxP_no (f := f) (d := d) (l := l) (b := b) h)
  have HP2 := Lib.hid (fun h h0 => nxP_yes (f := f) (d := d) (l := l) (b := b) h h0)
  clear h S0
  by_cases hfo : FoOk f d l
  · rw [foB_yes hfo] at HK
    by_cases h0 : 0 < l.length
    · have HV := Lib.hid (HP2.out hfo h0)
      have hl1000 : l.length ≤ 1000 := hfo.2.2.1
      have hd0 : ((l.length : Int) == 0) = false := by rw [beq_eq_false_iff_ne]; omega
      have HX := Lib.hid (show l.getD 0 0 = l[0] from by simp [List.getD, h0])
      clear HP1 HP2 hfo
      rw [HX.out] at HV
      by_cases hm : l[0] = -1
      · rw [hm, partO_end] at HV
        have HWO := Lib.hid (fun W (hb : Below w.heap.size w W) => without_in A l q 0 hq h0 (by omega) W (HI.out W hb))
        have HMK := Lib.hid mk_end
        have HM1 := Lib.hid (mk1 f d b (.slice A l.length q) hd ⟨_, _, _, rfl⟩)
        clear HC
        obtain ⟨k0, k1, k2, k3⟩ := (S1.out.box 1 _ _ rfl).fourFo
        have HK3 := Lib.hid (HK.out _ S1.out.below)
        go_enter Try.func27, Try.ntmps27
        go_wp2_with fail
        refine HK3.out.mono ?_
        rintro e w4 ⟨rfl, hb4⟩
        have S4 := Lib.hid (S1.out.more hb4)
        clear S1 hb4 k0 k1 k2 k3 HK3 HK
        obtain ⟨k0, k1, k2, k3⟩ := (S4.out.box 1 _ _ rfl).fourFo
        have ki := (S4.out.box 1 _ _ rfl).ice
        obtain ⟨r0, r1, r2, r3⟩ := (S4.out.box 0 _ _ rfl).fourFo
        have ri := (S4.out.box 0 _ _ rfl).ice
        obtain ⟨bb, off, rfl, hbb, hc⟩ := inCellsI (HI.out _ S4.out.below) h0
        have hck := hc 0 h0
        rw [Nat.add_zero] at hck
        clear hc
        rw [hm] at hck
        generalize l[0] = x at *
        go_wp2_with fail
        refine (HMK.out _).mono ?_
        rintro e w5 ⟨rfl, hb5⟩
        have S5 := Lib.hid (S4.out.more hb5)
        clear S4 hb5 HMK hck k0 k1 k2 k3 ki r0 r1 r2 r3 ri
        obtain ⟨k0, k1, k2, k3⟩ := (S5.out.box 1 _ _ rfl).fourFo
        go_wp2_with fail
        refine (HM1.out _).mono ?_
        rintro e w6 ⟨rfl, hb6⟩
        have S6 := Lib.hid (S5.out.more hb6)
        clear S5 hb6 k0 k1 k2 k3
        obtain ⟨k0, k1, k2, k3⟩ := (S6.out.box 1 _ _ rfl).fourFo
        have HW6 := Lib.hid (HWO.out _ S6.out.below)
        go_wp2_with fail
        refine HW6.out.mono ?_
        rintro e w7 ⟨v7, rfl, ho7, hb7⟩
        obtain ⟨A7, q7, hv7⟩ := ho7.form
        rw [List.length_map] at hv7
        subst hv7
        have S7 := S6.out.add (rowT 3 1 (.slice A7 (l.eraseIdx 0).length q7) ((l.eraseIdx 0).map inC)) hb7 (OwnR.lower ho7 (Nat.zero_le _)) (fun k hk => (World.ownsRow.lt ho7.1 k hk).1)
        have S8 := Lib.hid (S7.setBox 2 _ _ rfl 2 (by simp) (.slice A7 (l.eraseIdx 0).length q7))
        obtain ⟨m0, m1, m2, m3⟩ := (S7.box 2 _ _ rfl).fourFo
        have mi := (S7.box 2 _ _ rfl).ice
        obtain ⟨n0, n1, n2, n3⟩ := (show Box _ _ (foL f d b (.slice A7 (l.eraseIdx 0).length q7)) from S8.out.box 2 _ _ rfl).fourFo
        obtain ⟨r0, r1, r2, r3⟩ := (S8.out.box 1 _ _ rfl).fourFo
        have ri := (S8.out.box 1 _ _ rfl).ice
        clear S7 S6 ho7 hb7 k0 k1 k2 k3 HW6 HWO HI
        generalize l.eraseIdx 0 = LL at *
        have S9 := Lib.hid (S8.out.setAll 1 _ _ rfl (foL f d b (.slice A7 LL.length q7)) rfl)
        have HF := Lib.hid (fun k hk => S8.out.nthPast 0 _ rfl k hk)
        clear S8 
        go_wp2
        show bodyPost Try.prog Try.f27 _ Exit.ret _ ((w7.setCell ⟨w.heap.size, 2, none⟩ (.slice A7 LL.length q7)).setCells (w.heap.size + 1) 0 (foL f d b (.slice A7 LL.length q7)))
        generalize ((w7.setCell ⟨w.heap.size, 2, none⟩ (.slice A7 LL.length q7)).setCells (w.heap.size + 1) 0 (foL f d b (.slice A7 LL.length q7))) = WE at *
        obtain ⟨c0, c1, c2, c3⟩ := (S9.out.box 1 _ _ rfl).fourFo
        refine bodyPost_ret_by (v := .tuple #[foV f d b (.slice A7 LL.length q7), .string (eeT f d), .bool true]) ?_ rfl ⟨_, by rw [HV.out], ?_, fun k' hk' => ?_, S9.out.below⟩
        · simp [results, Try.f27, go_sem, c0, c1, c2, c3]
        · rw [HV.out]
          exact foT_of (S9.out.row 0 _ _ _ _ rfl)
        · exact HF.out k' (blkFo_iff.1 hk')
      · rw [partO_seg hm] at HV
        have HWO := Lib.hid (fun W (hb : Below w.heap.size w W) => without_in A l q 0 hq h0 (by omega) W (HI.out W hb))
        have HMK := Lib.hid (mk_seg l[0] hm)
        have HM2 := Lib.hid (fun g => mk2 f d b (.slice A l.length q) hd ⟨_, _, _, rfl⟩ g l[0])
        clear HC
        obtain ⟨k0, k1, k2, k3⟩ := (S1.out.box 1 _ _ rfl).fourFo
        have HK3 := Lib.hid (HK.out _ S1.out.below)
        go_enter Try.func27, Try.ntmps27
        go_wp2_with fail
        refine HK3.out.mono ?_
        rintro e w4 ⟨rfl, hb4⟩
        have S4 := Lib.hid (S1.out.more hb4)
        clear S1 hb4 k0 k1 k2 k3 HK3 HK
        obtain ⟨k0, k1, k2, k3⟩ := (S4.out.box 1 _ _ rfl).fourFo
        have ki := (S4.out.box 1 _ _ rfl).ice
        obtain ⟨r0, r1, r2, r3⟩ := (S4.out.box 0 _ _ rfl).fourFo
        have ri := (S4.out.box 0 _ _ rfl).ice
        obtain ⟨bb, off, rfl, hbb, hc⟩ := inCellsI (HI.out _ S4.out.below) h0
        have hck := hc 0 h0
        rw [Nat.add_zero] at hck
        clear hc
        have hme : (l[0] == -1) = false := by simpa using hm
        generalize l[0] = x at *
        go_wp2_with fail
        refine (HMK.out _).mono ?_
        rintro e w5 ⟨rfl, hg5, hc5, hb5⟩
        have S5 := Lib.hid (S4.out.more hb5)
        clear S4 hb5 HMK hck k0 k1 k2 k3 ki r0 r1 r2 r3 ri
        generalize w4.heap.size = gk at *
        obtain ⟨k0, k1, k2, k3⟩ := (S5.out.box 1 _ _ rfl).fourFo
        go_wp2_with fail
        refine (HM2.out gk _ hg5 hc5).mono ?_
        rintro e w6 ⟨rfl, hb6⟩
        have S6 := Lib.hid (S5.out.more hb6)
        clear S5 hb6 k0 k1 k2 k3 hc5 hg5
        obtain ⟨k0, k1, k2, k3⟩ := (S6.out.box 1 _ _ rfl).fourFo
        have HW6 := Lib.hid (HWO.out _ S6.out.below)
        go_wp2_with fail
        refine HW6.out.mono ?_
        rintro e w7 ⟨v7, rfl, ho7, hb7⟩
        obtain ⟨A7, q7, hv7⟩ := ho7.form
        rw [List.length_map] at hv7
        subst hv7
        have S7 := S6.out.add (rowT 3 1 (.slice A7 (l.eraseIdx 0).length q7) ((l.eraseIdx 0).map inC)) hb7 (OwnR.lower ho7 (Nat.zero_le _)) (fun k hk => (World.ownsRow.lt ho7.1 k hk).1)
        have S8 := Lib.hid (S7.setBox 2 _ _ rfl 2 (by simp) (.slice A7 (l.eraseIdx 0).length q7))
        obtain ⟨m0, m1, m2, m3⟩ := (S7.box 2 _ _ rfl).fourFo
        have mi := (S7.box 2 _ _ rfl).ice
        obtain ⟨n0, n1, n2, n3⟩ := (show Box _ _ (foL f d b (.slice A7 (l.eraseIdx 0).length q7)) from S8.out.box 2 _ _ rfl).fourFo
        obtain ⟨r0, r1, r2, r3⟩ := (S8.out.box 1 _ _ rfl).fourFo
        have ri := (S8.out.box 1 _ _ rfl).ice
        clear S7 S6 ho7 hb7 k0 k1 k2 k3 HW6 HWO HI
        generalize l.eraseIdx 0 = LL at *
        have S9 := Lib.hid (S8.out.setAll 1 _ _ rfl (foL f d b (.slice A7 LL.length q7)) rfl)
        have HF := Lib.hid (fun k hk => S8.out.nthPast 0 _ rfl k hk)
        clear S8 
        go_wp2
        show bodyPost Try.prog Try.f27 _ Exit.ret _ ((w7.setCell ⟨w.heap.size, 2, none⟩ (.slice A7 LL.length q7)).setCells (w.heap.size + 1) 0 (foL f d b (.slice A7 LL.length q7)))
        generalize ((w7.setCell ⟨w.heap.size, 2, none⟩ (.slice A7 LL.length q7)).setCells (w.heap.size + 1) 0 (foL f d b (.slice A7 LL.length q7))) = WE at *
        obtain ⟨c0, c1, c2, c3⟩ := (S9.out.box 1 _ _ rfl).fourFo
        refine bodyPost_ret_by (v := .tuple #[foV f d b (.slice A7 LL.length q7), .string (esT f x (segS d x)), .bool true]) ?_ rfl ⟨_, by rw [HV.out], ?_, fun k' hk' => ?_, S9.out.below⟩
        · simp [results, Try.f27, go_sem, c0, c1, c2, c3]
        · rw [HV.out]
          exact foT_of (S9.out.row 0 _ _ _ _ rfl)
        · exact HF.out k' (blkFo_iff.1 hk')
    · have HV := Lib.hid (HP1.out (fun g => h0 g.2))
      have hd0 : ((l.length : Int) == 0) = true := by rw [beq_iff_eq]; omega
      clear HP1 HP2 hfo h0 HI
      obtain ⟨k0, k1, k2, k3⟩ := (S1.out.box 1 _ _ rfl).fourFo
      have HK3 := Lib.hid (HK.out _ S1.out.below)
      go_enter Try.func27, Try.ntmps27
      go_wp2_with fail
      refine HK3.out.mono ?_
      rintro e w4 ⟨rfl, hb4⟩
      have S4 := Lib.hid (S1.out.more hb4)
      clear S1 hb4 k0 k1 k2 k3 HK3 HK
      obtain ⟨k0, k1, k2, k3⟩ := (S4.out.box 1 _ _ rfl).fourFo
      have ki := (S4.out.box 1 _ _ rfl).ice
      obtain ⟨r0, r1, r2, r3⟩ := (S4.out.box 0 _ _ rfl).fourFo
      have ri := (S4.out.box 0 _ _ rfl).ice
      have HC5 := Lib.hid (HC.out _ S4.out.below)
      go_wp2_with fail
      refine HC5.out.mono ?_
      rintro e w6 ⟨v6, A6, q6, rfl, rfl, ho6, hn6, hb6⟩
      have S6x := Lib.hid ((S4.out.add (rowT 3 1 (.slice A6 l.length q6) (l.map inC)) hb6 ho6 hn6))
      clear S4 hb6 ho6 hn6 HC5 k0 k1 k2 k3 ki r0 r1 r2 r3 ri
      obtain ⟨r0, r1, r2, r3⟩ := (S6x.out.box 1 _ _ rfl).fourFo
      have ri := (S6x.out.box 1 _ _ rfl).ice
      have S9 := Lib.hid (S6x.out.setAll 1 _ _ rfl (foL f d b (.slice A6 l.length q6)) rfl)
      have HF := Lib.hid (fun k hk => S6x.out.nthPast 0 _ rfl k hk)
      clear S6x 
      go_wp2
      show bodyPost Try.prog Try.f27 _ Exit.ret _ (w6.setCells (w.heap.size + 1) 0 (foL f d b (.slice A6 l.length q6)))
      generalize (w6.setCells (w.heap.size + 1) 0 (foL f d b (.slice A6 l.length q6))) = WE at *
      obtain ⟨c0, c1, c2, c3⟩ := (S9.out.box 1 _ _ rfl).fourFo
      refine bodyPost_ret_by (v := .tuple #[foV f d b (.slice A6 l.length q6), .string ⟨#[]⟩, .bool false]) ?_ rfl ⟨_, by rw [HV.out], ?_, fun k' hk' => ?_, S9.out.below⟩
      · simp [results, Try.f27, go_sem, c0, c1, c2, c3]
      · rw [HV.out]
        exact foT_of (S9.out.row 0 _ _ _ _ rfl)
      · exact HF.out k' (blkFo_iff.1 hk')
  · rw [foB_no hfo] at HK
    have HV := Lib.hid (HP1.out (fun g => hfo g.1))
    clear HP1 HP2 hfo HI
    obtain ⟨k0, k1, k2, k3⟩ := (S1.out.box 1 _ _ rfl).fourFo
    have HK3 := Lib.hid (HK.out _ S1.out.below)
    go_enter Try.func27, Try.ntmps27
    go_wp2_with fail
    refine HK3.out.mono ?_
    rintro e w4 ⟨rfl, hb4⟩
    have S4 := Lib.hid (S1.out.more hb4)
    clear S1 hb4 k0 k1 k2 k3 HK3 HK
    obtain ⟨k0, k1, k2, k3⟩ := (S4.out.box 1 _ _ rfl).fourFo
    have ki := (S4.out.box 1 _ _ rfl).ice
    obtain ⟨r0, r1, r2, r3⟩ := (S4.out.box 0 _ _ rfl).fourFo
    have ri := (S4.out.box 0 _ _ rfl).ice
    have HC5 := Lib.hid (HC.out _ S4.out.below)
    go_wp2_with fail
    refine HC5.out.mono ?_
    rintro e w6 ⟨v6, A6, q6, rfl, rfl, ho6, hn6, hb6⟩
    have S6x := Lib.hid ((S4.out.add (rowT 3 1 (.slice A6 l.length q6) (l.map inC)) hb6 ho6 hn6))
    clear S4 hb6 ho6 hn6 HC5 k0 k1 k2 k3 ki r0 r1 r2 r3 ri
    obtain ⟨r0, r1, r2, r3⟩ := (S6x.out.box 1 _ _ rfl).fourFo
    have ri := (S6x.out.box 1 _ _ rfl).ice
    have S9 := Lib.hid (S6x.out.setAll 1 _ _ rfl (foL f d b (.slice A6 l.length q6)) rfl)
    have HF := Lib.hid (fun k hk => S6x.out.nthPast 0 _ rfl k hk)
    clear S6x 
    go_wp2
    show bodyPost Try.prog Try.f27 _ Exit.ret _ (w6.setCells (w.heap.size + 1) 0 (foL f d b (.slice A6 l.length q6)))
    generalize (w6.setCells (w.heap.size + 1) 0 (foL f d b (.slice A6 l.length q6))) = WE at *
    obtain ⟨c0, c1, c2, c3⟩ := (S9.out.box 1 _ _ rfl).fourFo
    refine bodyPost_ret_by (v := .tuple #[foV f d b (.slice A6 l.length q6), .string ⟨#[]⟩, .bool false]) ?_ rfl ⟨_, by rw [HV.out], ?_, fun k' hk' => ?_, S9.out.below⟩
    · simp [results, Try.f27, go_sem, c0, c1, c2, c3]
    · rw [HV.out]
      exact foT_of (S9.out.row 0 _ _ _ _ rfl)
    · exact HF.out k' (blkFo_iff.1 hk')

end Go.Proofs.Ytckofkdeedbbgaa
