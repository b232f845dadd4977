/- What this text proves: the parts FoH of the proof, each under its own words. -/
import Derived.Test.YtckofkdeedbbgaaV21
import Derived.Test.YtckofkdeedbbgaaV16
import Derived.Deep.RegionLaw
/- What this text proves: the contracts of HearMissing, of the program and the model. -/
namespace Go.Proofs.Ytckofkdeedbbgaa
open Go.ChangeShapes Go.WideShapes Go.ChangeAt Go.RowKit
set_option linter.unusedVariables false

/-- Those of the first k numbers that are segments. -/
def segsOf (n : Int) (m : List Int) (k : Nat) : List Int := (m.take k).filter fun x => decide (SegOk x n)
theorem segsOf_yes {n : Int} {m : List Int} {k : Nat} (hk : k < m.length) (h : SegOk m[k] n) : segsOf n m (k + 1) = segsOf n m k ++ [m[k]] := by
  unfold segsOf
  rw [List.take_succ_eq_append_getElem hk, List.filter_append]
  simp [h]
theorem segsOf_no {n : Int} {m : List Int} {k : Nat} (hk : k < m.length) (h : ¬ SegOk m[k] n) : segsOf n m (k + 1) = segsOf n m k := by
  unfold segsOf
  rw [List.take_succ_eq_append_getElem hk, List.filter_append]
  simp [h]
theorem segsOf_len (n : Int) (m : List Int) (k : Nat) : (segsOf n m k).length ≤ m.length := by
  unfold segsOf
  exact Nat.le_trans (List.length_filter_le _ _) (List.length_take_le' _ _)
/-- The queue when missing segments were heard. -/
def hearQ (d : ByteArray) (l m : List Int) : List Int := l ++ segsOf d.size m m.length ++ [-1]
theorem hearQ_len (d : ByteArray) (l m : List Int) : (hearQ d l m).length ≤ l.length + m.length + 1 := by
  have := segsOf_len d.size m m.length
  unfold hearQ
  rw [List.length_append, List.length_append]
  simp
  omega
/-- What HearMissing makes of a sender. -/
noncomputable def hearM (f : Int) (d : ByteArray) (l : List Int) (b : Bool) (i : Int) (m : List Int) : Int × ByteArray × List Int × Bool := open Classical in
  if ¬ (FoOk f d l ∧ i = f) then (f, d, l, b) else if m.length = 0 then (f, d, [], true) else if FoOk f d (hearQ d l m) then (f, d, hearQ d l m, b) else (f, d, l, b)
theorem hearM_bad {f : Int} {d : ByteArray} {l : List Int} {b : Bool} {i : Int} {m : List Int} (h : ¬ (FoOk f d l ∧ i = f)) : hearM f d l b i m = (f, d, l, b) := by unfold hearM; rw [if_pos h]
theorem hearM_done {f : Int} {d : ByteArray} {l : List Int} {b : Bool} {i : Int} {m : List Int} (h : FoOk f d l ∧ i = f) (h0 : m.length = 0) : hearM f d l b i m = (f, d, [], true) := by unfold hearM; rw [if_neg (fun g => g h), if_pos h0]
theorem hearM_yes {f : Int} {d : ByteArray} {l : List Int} {b : Bool} {i : Int} {m : List Int} (h : FoOk f d l ∧ i = f) (h0 : ¬ m.length = 0) (h1 : FoOk f d (hearQ d l m)) : hearM f d l b i m = (f, d, hearQ d l m, b) := by unfold hearM; rw [if_neg (fun g => g h), if_neg h0, if_pos h1]
theorem hearM_no {f : Int} {d : ByteArray} {l : List Int} {b : Bool} {i : Int} {m : List Int} (h : FoOk f d l ∧ i = f) (h0 : ¬ m.length = 0) (h1 : ¬ FoOk f d (hearQ d l m)) : hearM f d l b i m = (f, d, l, b) := by unfold hearM; rw [if_neg (fun g => g h), if_neg h0, if_neg h1]
theorem hearM_len (f : Int) (d : ByteArray) (l : List Int) (b : Bool) (i : Int) (m : List Int) (hl : l.length ≤ 1048576) : (hearM f d l b i m).2.2.1.length ≤ 1048576 := by
  by_cases h : FoOk f d l ∧ i = f
  · by_cases h0 : m.length = 0
    · rw [hearM_done h h0]; exact Nat.zero_le _
    · by_cases h1 : FoOk f d (hearQ d l m)
      · rw [hearM_yes h h0 h1]; have := h1.2.2.1; show (hearQ d l m).length ≤ _; omega
      · rw [hearM_no h h0 h1]; exact hl
  · rw [hearM_bad h]; exact hl

set_option maxRecDepth 20000 in
set_option maxHeartbeats 8000000 in
theorem hm_impl (f : Int) (d : ByteArray) (A : Option Addr) (l : List Int) (q : Nat) (b : Bool) (i : Int) (B : Option Addr) (m : List Int) (r : Nat) (hd : d.size ≤ 1048576) (hl : l.length ≤ 1048576) (hm : m.length ≤ 1048576) (w : World) (h : LsI 1 w w.heap.size A (l.map inC)) (hB : LsI 1 w w.heap.size B (m.map inC)) :
    Calls Try.prog 30 #[foV f d b (.slice A l.length q), .int .i64 i, .slice B m.length r] w (FoEnd w (hearM f d l b i m)) := by
  have S0 := (((St.start w).made (foL f d b (.slice A l.length q)) 62).made [.int .i64 0, .string ⟨#[]⟩, .slice none 0 0, .bool false] 62)
  have S1 := Lib.hid (show St w ((w.alloc (.cells (foL f d b (.slice A l.length q)).toArray 62)).alloc (.cells [.int .i64 0, .string ⟨#[]⟩, .slice none 0 0, .bool false].toArray 62)) [boxT (w.heap.size + 1) [.int .i64 0, .string ⟨#[]⟩, .slice none 0 0, .bool false], boxT w.heap.size (foL f d b (.slice A l.length q))] from by simpa using S0)
  have HC := Lib.hid (fun W (hb : Below w.heap.size w W) => cpfo_impl f d A l q b (by omega) W (h.full hb))
  have HK := Lib.hid (fun W (hb : Below w.heap.size w W) => fook_impl f d A l q b hd (by omega) W (h.full hb))
  have HK2 := Lib.hid (fun A' l' q' (hl' : List.length (α := Int) l' ≤ 2000000) W (h' : LsI 1 W W.heap.size A' (l'.map inC)) => fook_impl f d A' l' q' b hd hl' W h')
  have HI := Lib.hid (fun W (hb : Below w.heap.size w W) => hB.full hb)
  have HP1 := Lib.hid (fun h => hearM_bad (f := f) (d := d) (l := l) (b := b) (i := i) (m := m) h)
  have HP2 := Lib.hid (fun h h0 => hearM_done (f := f) (d := d) (l := l) (b := b) (i := i) (m := m) h h0)
  have HP3 := Lib.hid (fun h h0 h1 => hearM_yes (f := f) (d := d) (l := l) (b := b) (i := i) (m := m) h h0 h1)
  have HP4 := Lib.hid (fun h h0 h1 => hearM_no (f := f) (d := d) (l := l) (b := b) (i := i) (m := m) h h0 h1)
  have HSY := Lib.hid (fun k (hk : k < m.length) (g : SegOk m[k] d.size) => segsOf_yes hk g)
  have HSN := Lib.hid (fun k (hk : k < m.length) (g : ¬ SegOk m[k] d.size) => segsOf_no hk g)
  have HSL := Lib.hid (fun k => segsOf_len d.size m k)
  have HQ0 := Lib.hid (show hearQ d l m = l ++ segsOf d.size m m.length ++ [-1] from rfl)
  have HQL := Lib.hid (hearQ_len d l m)
  have HG := Lib.hid (fun x => isg_impl x d.size)
  clear h hB S0
  by_cases hfo : FoOk f d l
  · rw [foB_yes hfo] at HK
    by_cases hif : i = f
    · have e1 : (i != f) = false := by rw [hif]; simp
      by_cases hm0 : m.length = 0
      · have HV := Lib.hid (HP2.out ⟨hfo, hif⟩ hm0)
        have e2 : ((m.length : Int) == 0) = true := by rw [hm0]; rfl
        clear HP1 HP2 HP3 HP4 hfo hif hm0 HQ0 HQL HSY HSN HSL
        have HC1 := Lib.hid (HC.out _ S1.out.below)
        go_enter Try.func30, Try.ntmps30
        go_wp2_with fail
        refine HC1.out.mono ?_
        rintro e w3 ⟨v3, A1, q1, rfl, rfl, ho3, hn3, hb3⟩
        have S3a := S1.out.add (rowT 3 1 (.slice A1 l.length q1) (l.map inC)) hb3 ho3 hn3
        have S3 := Lib.hid (S3a.made (foL f d b (.slice A1 l.length q1)) 62)
        clear S3a hb3 hn3 ho3 HC1 S1
        obtain ⟨k0, k1, k2, k3⟩ := (S3.out.box 3 _ _ rfl).fourFo
        have HK3 := Lib.hid (HK.out _ S3.out.below)
        go_wp2_with fail
        refine HK3.out.mono ?_
        rintro e w4 ⟨rfl, hb4⟩
        have S4 := Lib.hid (show St w w4 [boxT w3.heap.size (foL f d b (.slice A1 l.length q1)), rowT 3 1 (.slice A1 l.length q1) (l.map inC), boxT (w.heap.size + 1) [.int .i64 0, .string ⟨#[]⟩, .slice none 0 0, .bool false], boxT w.heap.size (foL f d b (.slice A l.length q))] from S3.out.more hb4)
        clear S3 hb4 k0 k1 k2 k3 HK3 HK
        generalize w3.heap.size = gh at *
        obtain ⟨k0, k1, k2, k3⟩ := (S4.out.box 3 _ _ rfl).fourFo
        obtain ⟨hq0, hq1, hq2, hq3⟩ := (S4.out.box 0 _ _ rfl).fourFo
        obtain ⟨r0, r1, r2, r3⟩ := (S4.out.box 2 _ _ rfl).fourFo
        have ri := (S4.out.box 2 _ _ rfl).ice
        have hqi := (S4.out.box 0 _ _ rfl).ice
        have S5a := S4.out.setBox 0 _ _ rfl 2 (by simp) (.slice none 0 0)
        have S5 := Lib.hid (S5a.setBox 0 _ _ rfl 3 (by simp) (.bool true))
        obtain ⟨n0, n1, n2, n3⟩ := (show Box _ _ [.int .i64 f, .string d, .slice none 0 0, .bool b] from S5a.box 0 _ _ rfl).fourFo
        have ni := (S5a.box 0 _ _ rfl).ice
        obtain ⟨t0, t1, t2, t3⟩ := (show Box _ _ [.int .i64 f, .string d, .slice none 0 0, .bool true] from S5.out.box 0 _ _ rfl).fourFo
        obtain ⟨y0, y1, y2, y3⟩ := (S5.out.box 2 _ _ rfl).fourFo
        have yi := (S5.out.box 2 _ _ rfl).ice
        clear S4 S5a
        have S9 := Lib.hid (S5.out.setAll 2 _ _ rfl [.int .i64 f, .string d, .slice none 0 0, .bool true] rfl)
        have HF := Lib.hid (fun k hk => S5.out.nthPast 1 _ rfl k hk)
        clear S5
        go_wp2
        show bodyPost Try.prog Try.f30 _ Exit.ret _ (((w4.setCell ⟨gh, 2, none⟩ (.slice none 0 0)).setCell ⟨gh, 3, none⟩ (.bool true)).setCells (w.heap.size + 1) 0 [.int .i64 f, .string d, .slice none 0 0, .bool true])
        generalize (((w4.setCell ⟨gh, 2, none⟩ (.slice none 0 0)).setCell ⟨gh, 3, none⟩ (.bool true)).setCells (w.heap.size + 1) 0 [.int .i64 f, .string d, .slice none 0 0, .bool true]) = WE at *
        obtain ⟨c0, c1, c2, c3⟩ := (S9.out.box 2 _ _ rfl).fourFo
        refine bodyPost_ret_by (v := foV f d true (.slice none 0 0)) ?_ rfl ⟨_, rfl, ?_, fun k' hk' => ?_, S9.out.below⟩
        · simp [results, Try.f30, go_sem, c0, c1, c2, c3]
        · rw [HV.out]
          exact ⟨none, 0, rfl, LsO.nil0 1 _ _ 0⟩
        · cases (show (none : Option Nat) = some k' from blkFo_iff.1 hk')
      · have e2 : ((m.length : Int) == 0) = false := by rw [beq_eq_false_iff_ne]; omega
        have HW := Lib.hid (And.intro hfo hif)
        have HM0 := Lib.hid hm0
        clear HP1 HP2 hfo hif hm0
        have HC1 := Lib.hid (HC.out _ S1.out.below)
        go_enter Try.func30, Try.ntmps30
        go_wp2_with fail
        refine HC1.out.mono ?_
        rintro e w3 ⟨v3, A1, q1, rfl, rfl, ho3, hn3, hb3⟩
        have S3a := S1.out.add (rowT 3 1 (.slice A1 l.length q1) (l.map inC)) hb3 ho3 hn3
        have S3 := Lib.hid (S3a.made (foL f d b (.slice A1 l.length q1)) 62)
        clear S3a hb3 hn3 ho3 HC1 S1
        obtain ⟨k0, k1, k2, k3⟩ := (S3.out.box 3 _ _ rfl).fourFo
        have HK3 := Lib.hid (HK.out _ S3.out.below)
        go_wp2_with fail
        refine HK3.out.mono ?_
        rintro e w4 ⟨rfl, hb4⟩
        have S4 := Lib.hid (show St w w4 [boxT w3.heap.size (foL f d b (.slice A1 l.length q1)), rowT 3 1 (.slice A1 l.length q1) (l.map inC), boxT (w.heap.size + 1) [.int .i64 0, .string ⟨#[]⟩, .slice none 0 0, .bool false], boxT w.heap.size (foL f d b (.slice A l.length q))] from S3.out.more hb4)
        clear S3 hb4 k0 k1 k2 k3 HK3 HK
        generalize w3.heap.size = gh at *
        obtain ⟨k0, k1, k2, k3⟩ := (S4.out.box 3 _ _ rfl).fourFo
        obtain ⟨hq0, hq1, hq2, hq3⟩ := (S4.out.box 0 _ _ rfl).fourFo
        obtain ⟨r0, r1, r2, r3⟩ := (S4.out.box 2 _ _ rfl).fourFo
        have ri := (S4.out.box 2 _ _ rfl).ice
        have hqi := (S4.out.box 0 _ _ rfl).ice
        have S4x := Lib.hid (show St w w4 [boxT gh (foL f d b (.slice A1 l.length q1)), rowT 3 1 (.slice A1 l.length q1) ((l ++ segsOf d.size m 0).map inC), boxT (w.heap.size + 1) [.int .i64 0, .string ⟨#[]⟩, .slice none 0 0, .bool false], boxT w.heap.size (foL f d b (.slice A l.length q))] from by simpa [segsOf] using S4.out)
        clear S4
        go_wp2
        clear k0 k1 k2 k3 hq0 hq1 hq2 hq3 r0 r1 r2 r3 ri hqi
        go_loopg [30] m.length (fun gh' u wx => ∃ (k : Nat) (v : Value), k ≤ m.length ∧ gh' = m.length - k ∧ u = .int .i64 (k : Int) ∧ St w wx [boxT gh (foL f d b v), rowT 3 1 v ((l ++ segsOf d.size m k).map inC), boxT (w.heap.size + 1) [.int .i64 0, .string ⟨#[]⟩, .slice none 0 0, .bool false], boxT w.heap.size (foL f d b (.slice A l.length q))])
        case atStart => exact ⟨0, _, Nat.zero_le _, rfl, rfl, S4x.out⟩
        case round =>
          obtain ⟨k, v, hk, rfl, rfl, hst⟩ := hrel
          have SS := Lib.hid hst
          clear hst S4x
          obtain ⟨k0, k1, k2, k3⟩ := (SS.out.box 3 _ _ rfl).fourFo
          obtain ⟨hq0, hq1, hq2, hq3⟩ := (SS.out.box 0 _ _ rfl).fourFo
          obtain ⟨r0, r1, r2, r3⟩ := (SS.out.box 2 _ _ rfl).fourFo
          have ri := (SS.out.box 2 _ _ rfl).ice
          have hqi := (SS.out.box 0 _ _ rfl).ice
          by_cases hlt : k < m.length
          · have hd1 : decide (k < m.length) = true := by simp; omega
            have hd2 : decide ((k : Int) < (m.length : Int)) = true := by simp; omega
            obtain ⟨bb, off, rfl, hbb, hc⟩ := inCellsI (HI.out _ SS.out.below) (by omega)
            have hck := hc k hlt
            clear hc
            have hg := HG.out m[k]
            have HLX := Lib.hid (show (l ++ segsOf d.size m k).length ≤ 1099510 by have := HW.out.1.2.2.1; have := HSL.out k; rw [List.length_append]; omega)
            by_cases hs : SegOk m[k] d.size
            · have HE := Lib.hid (show (l ++ segsOf d.size m (k + 1)).map inC = (l ++ segsOf d.size m k).map inC ++ [inC m[k]] by rw [HSY.out k hlt hs, ← List.append_assoc, List.map_append]; rfl)
              rw [decide_eq_true hs] at hg
              have HGG := Lib.hid hg
              clear hg hs
              generalize m[k] = x at *
              go_wp2_with fail
              refine (HGG.out _).mono ?_
              rintro e w' ⟨rfl, rfl⟩
              have HO := Lib.hid (SS.out.row 1 _ _ _ _ rfl)
              obtain ⟨ka0, ka1, ka2, ka3⟩ := (((SS.out.box 0 _ _ rfl)).alloc (.cells #[.int .i64 x] 3)).fourFo
              go_wp2_with (at_builtin; go_loud (refine app_num wr rfl _ _ rfl 0 v (l ++ segsOf d.size m k) x rfl HO.out _ 1 rfl HLX.out (Nat.zero_le _) ?_))
              intro v2 w2 h1 h2 h3
              replace h1 : OwnR 3 1 w2 0 v2 ((l ++ segsOf d.size m k).map inC ++ [inC x]) := by first | exact h1 | (rw [List.map_append] at h1 ⊢; exact h1) | (simpa using h1)
              rw [← HE.out] at h1
              obtain ⟨A2, q2, hv2⟩ := h1.form
              rw [List.length_map] at hv2
              obtain ⟨n2', hn2⟩ : ∃ n, (l ++ segsOf d.size m (k + 1)).length = n := ⟨_, rfl⟩
              rw [hn2] at hv2
              subst hv2
              have S2 := SS.out.grow 1 _ _ _ _ rfl h2 (.slice A2 n2' q2) _ h1 h3
              have S3 : Hid (St w (w2.setCell ⟨gh, 2, none⟩ (.slice A2 n2' q2)) [boxT gh (foL f d b (.slice A2 n2' q2)), rowT 3 1 (.slice A2 n2' q2) ((l ++ segsOf d.size m (k + 1)).map inC), boxT (w.heap.size + 1) [.int .i64 0, .string ⟨#[]⟩, .slice none 0 0, .bool false], boxT w.heap.size (foL f d b (.slice A l.length q))]) := Lib.hid (S2.setBox 0 _ _ rfl 2 (by simp) (.slice A2 n2' q2))
              obtain ⟨m0, m1, m2, m3⟩ := (S2.box 0 _ _ rfl).fourFo
              have mi := (S2.box 0 _ _ rfl).ice
              clear S2 h1 h2 h3 HO SS k0 k1 k2 k3 hq0 hq1 hq2 hq3 r0 r1 r2 r3 ri hqi ka0 ka1 ka2 ka3
              go_wp2
              go_roundg (m.length - (k + 1))
              case measure => omega
              case rel => exact ⟨k + 1, _, by omega, rfl, by go_num, S3.out⟩
            · have HE := Lib.hid (show l ++ segsOf d.size m (k + 1) = l ++ segsOf d.size m k by rw [HSN.out k hlt hs])
              rw [decide_eq_false hs] at hg
              have HGG := Lib.hid hg
              clear hg hs
              generalize m[k] = x at *
              go_wp2_with fail
              refine (HGG.out _).mono ?_
              rintro e w' ⟨rfl, rfl⟩
              go_wp2
              go_roundg (m.length - (k + 1))
              case measure => omega
              case rel => exact ⟨k + 1, v, by omega, rfl, by go_num, by rw [HE.out]; exact SS.out⟩
          · have hd1 : decide (k < m.length) = false := by simp; omega
            have hd2 : decide ((k : Int) < (m.length : Int)) = false := by simp; omega
            obtain rfl : k = m.length := by omega
            clear hlt
            have HO := Lib.hid (SS.out.row 1 _ _ _ _ rfl)
            have HLX := Lib.hid (show (l ++ segsOf d.size m m.length).length ≤ 1099510 by have := HW.out.1.2.2.1; have := HSL.out m.length; rw [List.length_append]; omega)
            obtain ⟨ka0, ka1, ka2, ka3⟩ := (((SS.out.box 0 _ _ rfl)).alloc (.cells #[.int .i64 (-1)] 3)).fourFo
            go_wp2_with (at_builtin; go_loud (refine app_num wr rfl _ _ rfl 0 v (l ++ segsOf d.size m m.length) (-1) rfl HO.out _ 1 rfl HLX.out (Nat.zero_le _) ?_))
            intro v2 w2 h1 h2 h3
            replace h1 : OwnR 3 1 w2 0 v2 ((hearQ d l m).map inC) := by rw [HQ0.out, List.map_append]; first | exact h1 | (rw [List.map_append] at h1 ⊢; exact h1) | (simpa using h1)
            obtain ⟨A2, q2, hv2⟩ := h1.form
            rw [List.length_map] at hv2
            subst hv2
            have S2 := SS.out.grow 1 _ _ _ _ rfl h2 (.slice A2 (hearQ d l m).length q2) _ h1 h3
            have S3 : Hid (St w (w2.setCell ⟨gh, 2, none⟩ (.slice A2 (hearQ d l m).length q2)) [boxT gh (foL f d b (.slice A2 (hearQ d l m).length q2)), rowT 3 1 (.slice A2 (hearQ d l m).length q2) ((hearQ d l m).map inC), boxT (w.heap.size + 1) [.int .i64 0, .string ⟨#[]⟩, .slice none 0 0, .bool false], boxT w.heap.size (foL f d b (.slice A l.length q))]) := Lib.hid (S2.setBox 0 _ _ rfl 2 (by simp) (.slice A2 (hearQ d l m).length q2))
            obtain ⟨m0, m1, m2, m3⟩ := (S2.box 0 _ _ rfl).fourFo
            have mi := (S2.box 0 _ _ rfl).ice
            obtain ⟨n0, n1, n2, n3⟩ := (S3.out.box 0 _ _ rfl).fourFo
            have HK3 := Lib.hid (HK2.out A2 (hearQ d l m) q2 (by have := HQL.out; have := HW.out.1.2.2.1; omega) _ (LsO.ats (N := (hearQ d l m).length) (S3.out.row 1 _ _ _ _ rfl).toO))
            clear S2 h1 h2 h3 HO SS k0 k1 k2 k3 hq0 hq1 hq2 hq3 r0 r1 r2 r3 ri hqi ka0 ka1 ka2 ka3 HQ0 HQL HK2 HLX HSY HSN HSL
            generalize hearQ d l m = QQ at *
            go_wp2_with fail
            refine HK3.out.mono ?_
            rintro e w5 ⟨rfl, hb5⟩
            have S5 := Lib.hid (S3.out.more hb5)
            clear S3 hb5 m0 m1 m2 m3 mi n0 n1 n2 n3 HK3
            obtain ⟨k0, k1, k2, k3⟩ := (S5.out.box 3 _ _ rfl).fourFo
            obtain ⟨hq0, hq1, hq2, hq3⟩ := (S5.out.box 0 _ _ rfl).fourFo
            obtain ⟨r0, r1, r2, r3⟩ := (S5.out.box 2 _ _ rfl).fourFo
            have ri := (S5.out.box 2 _ _ rfl).ice
            have hqi := (S5.out.box 0 _ _ rfl).ice
            by_cases hfq : FoOk f d QQ
            · have HV := Lib.hid (HP3.out HW.out HM0.out hfq)
              rw [foB_yes hfq]
              clear HP3 HP4 hfq
              have S9 := Lib.hid (S5.out.setAll 2 _ _ rfl (foL f d b (.slice A2 QQ.length q2)) rfl)
              have HF := Lib.hid (fun k hk => S5.out.nthPast 1 _ rfl k hk)
              clear S5
              go_wp2
              show bodyPost Try.prog Try.f30 _ Exit.ret _ (w5.setCells (w.heap.size + 1) 0 (foL f d b (.slice A2 QQ.length q2)))
              generalize (w5.setCells (w.heap.size + 1) 0 (foL f d b (.slice A2 QQ.length q2))) = WE at *
              obtain ⟨c0, c1, c2, c3⟩ := (S9.out.box 2 _ _ rfl).fourFo
              refine bodyPost_ret_by (v := foV f d b (.slice A2 QQ.length q2)) ?_ rfl ⟨_, rfl, ?_, fun k' hk' => ?_, S9.out.below⟩
              · simp [results, Try.f30, go_sem, c0, c1, c2, c3]
              · rw [HV.out]
                exact foT_of (S9.out.row 1 _ _ _ _ rfl)
              · exact HF.out k' (blkFo_iff.1 hk')
            · have HV := Lib.hid (HP4.out HW.out HM0.out hfq)
              rw [foB_no hfq]
              clear HP3 HP4 hfq
              have HC5 := Lib.hid (HC.out _ S5.out.below)
              go_wp2_with fail
              refine HC5.out.mono ?_
              rintro e w6 ⟨v6, A6, q6, rfl, rfl, ho6, hn6, hb6⟩
              have S6x := Lib.hid ((S5.out.add (rowT 3 1 (.slice A6 l.length q6) (l.map inC)) hb6 ho6 hn6))
              clear S5 hb6 ho6 hn6 HC5 k0 k1 k2 k3 hq0 hq1 hq2 hq3 r0 r1 r2 r3 ri hqi
              obtain ⟨r0, r1, r2, r3⟩ := (S6x.out.box 3 _ _ rfl).fourFo
              have ri := (S6x.out.box 3 _ _ rfl).ice
              have S9 := Lib.hid (S6x.out.setAll 3 _ _ rfl (foL f d b (.slice A6 l.length q6)) rfl)
              have HF := Lib.hid (fun k hk => S6x.out.nthPast 0 _ rfl k hk)
              clear S6x
              go_wp2
              show bodyPost Try.prog Try.f30 _ Exit.ret _ (w6.setCells (w.heap.size + 1) 0 (foL f d b (.slice A6 l.length q6)))
              generalize (w6.setCells (w.heap.size + 1) 0 (foL f d b (.slice A6 l.length q6))) = WE at *
              obtain ⟨c0, c1, c2, c3⟩ := (S9.out.box 3 _ _ rfl).fourFo
              refine bodyPost_ret_by (v := foV f d b (.slice A6 l.length q6)) ?_ rfl ⟨_, rfl, ?_, fun k' hk' => ?_, S9.out.below⟩
              · simp [results, Try.f30, go_sem, c0, c1, c2, c3]
              · rw [HV.out]
                exact foT_of (S9.out.row 0 _ _ _ _ rfl)
              · exact HF.out k' (blkFo_iff.1 hk')
    · have HV := Lib.hid (HP1.out (fun g => hif g.2))
      have e1 : (i != f) = true := by simpa using hif
      clear HP1 HP2 HP3 HP4 hfo hif HQ0 HQL HSY HSN HSL
      have HC1 := Lib.hid (HC.out _ S1.out.below)
      go_enter Try.func30, Try.ntmps30
      go_wp2_with fail
      refine HC1.out.mono ?_
      rintro e w3 ⟨v3, A1, q1, rfl, rfl, ho3, hn3, hb3⟩
      have S3a := S1.out.add (rowT 3 1 (.slice A1 l.length q1) (l.map inC)) hb3 ho3 hn3
      have S3 := Lib.hid (S3a.made (foL f d b (.slice A1 l.length q1)) 62)
      clear S3a hb3 hn3 ho3 HC1 S1
      obtain ⟨k0, k1, k2, k3⟩ := (S3.out.box 3 _ _ rfl).fourFo
      have HK3 := Lib.hid (HK.out _ S3.out.below)
      go_wp2_with fail
      refine HK3.out.mono ?_
      rintro e w4 ⟨rfl, hb4⟩
      have S4 := Lib.hid (show St w w4 [boxT w3.heap.size (foL f d b (.slice A1 l.length q1)), rowT 3 1 (.slice A1 l.length q1) (l.map inC), boxT (w.heap.size + 1) [.int .i64 0, .string ⟨#[]⟩, .slice none 0 0, .bool false], boxT w.heap.size (foL f d b (.slice A l.length q))] from S3.out.more hb4)
      clear S3 hb4 k0 k1 k2 k3 HK3 HK
      generalize w3.heap.size = gh at *
      obtain ⟨k0, k1, k2, k3⟩ := (S4.out.box 3 _ _ rfl).fourFo
      obtain ⟨hq0, hq1, hq2, hq3⟩ := (S4.out.box 0 _ _ rfl).fourFo
      obtain ⟨r0, r1, r2, r3⟩ := (S4.out.box 2 _ _ rfl).fourFo
      have ri := (S4.out.box 2 _ _ rfl).ice
      have hqi := (S4.out.box 0 _ _ rfl).ice
      have S9 := Lib.hid (S4.out.setAll 2 _ _ rfl (foL f d b (.slice A1 l.length q1)) rfl)
      have HF := Lib.hid (fun k hk => S4.out.nthPast 1 _ rfl k hk)
      clear S4
      go_wp2
      show bodyPost Try.prog Try.f30 _ Exit.ret _ (w4.setCells (w.heap.size + 1) 0 (foL f d b (.slice A1 l.length q1)))
      generalize (w4.setCells (w.heap.size + 1) 0 (foL f d b (.slice A1 l.length q1))) = WE at *
      obtain ⟨c0, c1, c2, c3⟩ := (S9.out.box 2 _ _ rfl).fourFo
      refine bodyPost_ret_by (v := foV f d b (.slice A1 l.length q1)) ?_ rfl ⟨_, rfl, ?_, fun k' hk' => ?_, S9.out.below⟩
      · simp [results, Try.f30, go_sem, c0, c1, c2, c3]
      · rw [HV.out]
        exact foT_of (S9.out.row 1 _ _ _ _ rfl)
      · exact HF.out k' (blkFo_iff.1 hk')
  · rw [foB_no hfo] at HK
    have HV := Lib.hid (HP1.out (fun g => hfo g.1))
    clear HP1 HP2 HP3 HP4 hfo HQ0 HQL HSY HSN HSL
    have HC1 := Lib.hid (HC.out _ S1.out.below)
    go_enter Try.func30, Try.ntmps30
    go_wp2_with fail
    refine HC1.out.mono ?_
    rintro e w3 ⟨v3, A1, q1, rfl, rfl, ho3, hn3, hb3⟩
    have S3a := S1.out.add (rowT 3 1 (.slice A1 l.length q1) (l.map inC)) hb3 ho3 hn3
    have S3 := Lib.hid (S3a.made (foL f d b (.slice A1 l.length q1)) 62)
    clear S3a hb3 hn3 ho3 HC1 S1
    obtain ⟨k0, k1, k2, k3⟩ := (S3.out.box 3 _ _ rfl).fourFo
    have HK3 := Lib.hid (HK.out _ S3.out.below)
    go_wp2_with fail
    refine HK3.out.mono ?_
    rintro e w4 ⟨rfl, hb4⟩
    have S4 := Lib.hid (show St w w4 [boxT w3.heap.size (foL f d b (.slice A1 l.length q1)), rowT 3 1 (.slice A1 l.length q1) (l.map inC), boxT (w.heap.size + 1) [.int .i64 0, .string ⟨#[]⟩, .slice none 0 0, .bool false], boxT w.heap.size (foL f d b (.slice A l.length q))] from S3.out.more hb4)
    clear S3 hb4 k0 k1 k2 k3 HK3 HK
    generalize w3.heap.size = gh at *
    obtain ⟨k0, k1, k2, k3⟩ := (S4.out.box 3 _ _ rfl).fourFo
    obtain ⟨hq0, hq1, hq2, hq3⟩ := (S4.out.box 0 _ _ rfl).fourFo
    obtain ⟨r0, r1, r2, r3⟩ := (S4.out.box 2 _ _ rfl).fourFo
    have ri := (S4.out.box 2 _ _ rfl).ice
    have hqi := (S4.out.box 0 _ _ rfl).ice
    have S9 := Lib.hid (S4.out.setAll 2 _ _ rfl (foL f d b (.slice A1 l.length q1)) rfl)
    have HF := Lib.hid (fun k hk => S4.out.nthPast 1 _ rfl k hk)
    clear S4
    go_wp2
    show bodyPost Try.prog Try.f30 _ Exit.ret _ (w4.setCells (w.heap.size + 1) 0 (foL f d b (.slice A1 l.length q1)))
    generalize (w4.setCells (w.heap.size + 1) 0 (foL f d b (.slice A1 l.length q1))) = WE at *
    obtain ⟨c0, c1, c2, c3⟩ := (S9.out.box 2 _ _ rfl).fourFo
    refine bodyPost_ret_by (v := foV f d b (.slice A1 l.length q1)) ?_ rfl ⟨_, rfl, ?_, fun k' hk' => ?_, S9.out.below⟩
    · simp [results, Try.f30, go_sem, c0, c1, c2, c3]
    · rw [HV.out]
      exact foT_of (S9.out.row 1 _ _ _ _ rfl)
    · exact HF.out k' (blkFo_iff.1 hk')

end Go.Proofs.Ytckofkdeedbbgaa
