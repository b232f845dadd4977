/- What this text proves: the parts FiH of the proof, each under its own words. -/
import Derived.Test.YtckofkdeedbbgaaV25
import Derived.Test.YtckofkdeedbbgaaV09
/- What this text proves: the contracts of HearPart, of the program and the model. -/
namespace Go.Proofs.Ytckofkdeedbbgaa
open Go.ChangeShapes Go.WideShapes Go.ChangeAt Go.RowKit
set_option linter.unusedVariables false

def HearS (f : Int) (l : List ByteArray) (t : ByteArray) : Prop := (decS t).2.2.2 = true ∧ (decS t).1 = f ∧ (l.getD (decS t).2.1.toNat ⟨#[]⟩).size = 0
def HearE (f s : Int) (t : ByteArray) : Prop := (decE t).2.2.2 = true ∧ (decE t).1 = f ∧ s = -1
/-- What HearPart makes of a receiver. -/
noncomputable def hearP (f s c : Int) (l : List ByteArray) (t : ByteArray) : Int × Int × Int × List ByteArray := open Classical in
  if FiOk f s c l ∧ HearS f l t then (f, s, c, l.set (decS t).2.1.toNat (decS t).2.2.1) else if FiOk f s c l ∧ HearE f s t then (f, (decE t).2.1, (decE t).2.2.1, l) else (f, s, c, l)
theorem hearP_seg {f s c : Int} {l : List ByteArray} {t : ByteArray} (h : FiOk f s c l) (h1 : HearS f l t) : hearP f s c l t = (f, s, c, l.set (decS t).2.1.toNat (decS t).2.2.1) := by unfold hearP; rw [if_pos ⟨h, h1⟩]
theorem hearP_end {f s c : Int} {l : List ByteArray} {t : ByteArray} (h : FiOk f s c l) (h1 : ¬ HearS f l t) (h2 : HearE f s t) : hearP f s c l t = (f, (decE t).2.1, (decE t).2.2.1, l) := by unfold hearP; rw [if_neg (fun g => h1 g.2), if_pos ⟨h, h2⟩]
theorem hearP_no {f s c : Int} {l : List ByteArray} {t : ByteArray} (h1 : ¬ HearS f l t) (h2 : ¬ HearE f s t) : hearP f s c l t = (f, s, c, l) := by unfold hearP; rw [if_neg (fun g => h1 g.2), if_neg (fun g => h2 g.2)]
theorem hearP_bad {f s c : Int} {l : List ByteArray} {t : ByteArray} (h : ¬ FiOk f s c l) : hearP f s c l t = (f, s, c, l) := by unfold hearP; rw [if_neg (fun g => h g.1), if_neg (fun g => h g.1)]
theorem hearP_len (f s c : Int) (l : List ByteArray) (t : ByteArray) : (hearP f s c l t).2.2.2.length = l.length := by
  unfold hearP
  split
  · show (l.set _ _).length = _; rw [List.length_set]
  · split <;> rfl
/-- A text that is a segment: its number, and that it is no end. -/
theorem decS_ok {t : ByteArray} (h : (decS t).2.2.2 = true) : ∃ k : Nat, (decS t).2.1 = (k : Int) ∧ k ≤ 24 ∧ (decE t).2.2.2 = false := by
  by_cases g : DsOk t
  · have hz := esT_first g.2 g.1
    refine ⟨byteAt t 2, by rw [decS_yes g], ?_, by rw [decE_no (fun e => by have := e.2.1; omega)]⟩
    by_cases e : EsOk (byteAt t 1 : Nat) (byteAt t 2 : Nat) (t.extract 3 t.size)
    · have := e.2.1.2; omega
    · exfalso
      have h1 := g.2
      rw [esT_no e] at h1
      have h2 : ([] : List UInt8) = t.data.toList := by
        have h3 := eq_of_beq h1
        rw [ByteArray.toList_eq, ByteArray.toList_eq] at h3
        exact h3
      have h3 : t.size = t.data.toList.length := by simp
      have h4 := g.1
      rw [← h2] at h3
      have h5 : t.size = 0 := h3
      omega
  · rw [decS_no g] at h
    cases h
theorem tx_ne {x : ByteArray} (h : ¬ x.size = 0) : ¬ x.toList = [] := fun e => h (by
  have h2 : x.size = x.data.toList.length := by simp
  rw [h2, ← ByteArray.toList_eq, e]
  rfl)
theorem tx_ne2 {x : ByteArray} (h : ¬ x.size = 0) : x.toList.isEmpty = false := by
  cases e : x.toList with
  | nil => exact absurd e (tx_ne h)
  | cons a r => rfl
theorem tx_ne3 {x : ByteArray} (h : ¬ x.size = 0) : (x.toList == []) = false := by
  cases e : x.toList with
  | nil => exact absurd e (tx_ne h)
  | cons a r => rfl
theorem txStore {W : World} {g off q : Nat} {l : List ByteArray} (h : LsO 1 W 0 (.slice (some ⟨g, off, none⟩) l.length q) (l.map txC)) (k : Nat) (hk : k < l.length) (d : ByteArray) :
    LsO 1 (W.setCell ⟨g, off + k, none⟩ (.string d)) 0 (.slice (some ⟨g, off, none⟩) l.length q) ((l.set k d).map txC) := by
  have s0 := h.set k (by rw [List.length_map]; exact hk) 0 (by decide) (.string d)
  have e : setAt (l.map txC) k 0 (.string d) = (l.set k d).map txC := by
    unfold setAt
    rw [getD_of (by rw [List.length_map]; exact hk), List.getElem_map, List.map_set]
    rfl
  rw [e, Nat.mul_one, Nat.add_zero] at s0
  exact s0

set_option maxRecDepth 20000 in
set_option maxHeartbeats 8000000 in
theorem hear_impl (f s c : Int) (A : Option Addr) (l : List ByteArray) (q : Nat) (t : ByteArray) (hl : l.length ≤ 1099511) (ht : t.size ≤ 1048576) (w : World) (h : LsI 1 w w.heap.size A (l.map txC)) :
    Calls Try.prog 29 #[fiV f s c (.slice A l.length q), .string t] w (FiEnd w (hearP f s c l t)) := by
  have S0 := (((St.start w).made (fiL f s c (.slice A l.length q)) 67).made [.int .i64 0, .int .i64 0, .int .i64 0, .slice none 0 0] 67)
  have S1 := Lib.hid (show St w ((w.alloc (.cells (fiL f s c (.slice A l.length q)).toArray 67)).alloc (.cells [.int .i64 0, .int .i64 0, .int .i64 0, .slice none 0 0].toArray 67)) [boxT (w.heap.size + 1) [.int .i64 0, .int .i64 0, .int .i64 0, .slice none 0 0], boxT w.heap.size (fiL f s c (.slice A l.length q))] from by simpa using S0)
  have HC := Lib.hid (cpfi_impl f s c A l q hl ((w.alloc (.cells (fiL f s c (.slice A l.length q)).toArray 67)).alloc (.cells [.int .i64 0, .int .i64 0, .int .i64 0, .slice none 0 0].toArray 67)) (h.full S1.out.below))
  have HI := Lib.hid (fun W (hb : Below w.heap.size w W) => h.full hb)
  have HK := Lib.hid (fun W (hb : Below w.heap.size w W) => fok_impl f s c A l q (by omega) W (h.full hb))
  have hDS := decS_impl t ht
  have hDE := decE_impl t ht
  have hok := decS_ok (t := t)
  have HP1 := Lib.hid (fun h h1 => hearP_seg (f := f) (s := s) (c := c) (l := l) (t := t) h h1)
  have HP2 := Lib.hid (fun h h1 h2 => hearP_end (f := f) (s := s) (c := c) (l := l) (t := t) h h1 h2)
  have HP3 := Lib.hid (fun h1 h2 => hearP_no (f := f) (s := s) (c := c) (l := l) (t := t) h1 h2)
  have HP4 := Lib.hid (fun h => hearP_bad (f := f) (s := s) (c := c) (l := l) (t := t) h)
  unfold HearS at HP1 HP2 HP3
  unfold HearE at HP2 HP3
  obtain ⟨⟨x1, x2, x3, x4⟩, hx⟩ : ∃ P, decS t = P := ⟨_, rfl⟩
  obtain ⟨⟨y1, y2, y3, y4⟩, hy⟩ : ∃ P, decE t = P := ⟨_, rfl⟩
  simp only [hx, hy, retSg, retSe] at hDS hDE hok HP1 HP2 HP3
  have HDS := Lib.hid hDS
  have HDE := Lib.hid hDE
  clear h S0 hx hy hDS hDE
  by_cases hfo : FiOk f s c l
  · rw [fiB_yes hfo] at HK
    have hl25 := hfo.2.2.2.2.1
    by_cases hA : x4 = true ∧ x1 = f ∧ (l.getD x2.toNat ⟨#[]⟩).size = 0
    · have HV := Lib.hid (HP1.out hfo hA)
      obtain ⟨rfl, rfl, hsz⟩ := hA
      obtain ⟨k, rfl, hk24, hy4⟩ := hok rfl
      have hkl : k < l.length := by omega
      rw [Int.toNat_natCast] at HV hsz
      have hxx : l[k].size = 0 := by rw [List.getD_eq_getElem?_getD, List.getElem?_eq_getElem hkl] at hsz; exact hsz
      have he1 : l[k].toList = [] := by rw [ByteArray.toList_eq]; exact List.eq_nil_of_length_eq_zero (by simpa using hxx)
      have he2 : l[k].toList.isEmpty = true := by rw [he1]; rfl
      have hf1 : (x1 == x1) = true := by simp
      have hkl2 : (k : Int) < (l.length : Int) := by omega
      clear HP1 HP2 HP3 HP4 hfo hok hsz hxx hl25
      subst hy4
      have HX1 := Lib.hid he1
      have HX2 := Lib.hid he2
      have HKL := Lib.hid hkl
      clear he1 he2
      go_enter Try.func29, Try.ntmps29
      go_wp2_with fail
      refine HC.out.mono ?_
      rintro e w3 ⟨v3, rfl, hp3, hn3, hb3⟩
      obtain ⟨A1, q1, rfl, o1⟩ := hp3
      have S3a := S1.out.add (lsT 1 (.slice A1 l.length q1) (l.map txC)) hb3 o1 (fun k hk => hn3 k (blkFi_iff.2 hk))
      have S3 := Lib.hid (S3a.made (fiL x1 s c (.slice A1 l.length q1)) 67)
      have HQ := Lib.hid (fun k hk => (show w.heap.size ≤ k from S3a.nthPast 0 _ rfl k hk))
      clear S3a hb3 hn3 o1 HC S1
      obtain ⟨k0, k1, k2, k3⟩ := (S3.out.box 3 _ _ rfl).fourFi
      have HK3 := Lib.hid (HK.out _ S3.out.below)
      go_wp2_with fail
      refine HK3.out.mono ?_
      rintro e w4 ⟨rfl, hb4⟩
      have S4 := Lib.hid (show St w w4 [boxT w3.heap.size (fiL x1 s c (.slice A1 l.length q1)), lsT 1 (.slice A1 l.length q1) (l.map txC), boxT (w.heap.size + 1) [.int .i64 0, .int .i64 0, .int .i64 0, .slice none 0 0], boxT w.heap.size (fiL x1 s c (.slice A l.length q))] from S3.out.more hb4)
      clear S3 hb4 k0 k1 k2 k3 HK3 HK
      generalize w3.heap.size = gh at *
      obtain ⟨k0, k1, k2, k3⟩ := (S4.out.box 3 _ _ rfl).fourFi
      obtain ⟨h0, h1, h2, h3⟩ := (S4.out.box 0 _ _ rfl).fourFi
      obtain ⟨r0, r1, r2, r3⟩ := (S4.out.box 2 _ _ rfl).fourFi
      have ri := (S4.out.box 2 _ _ rfl).ice
      have hi := (S4.out.box 0 _ _ rfl).ice
      go_wp2_with fail
      refine (HDS.out _).mono ?_
      rintro e w5 ⟨rfl, hb5⟩
      have S5 := Lib.hid (S4.out.more hb5)
      clear S4 hb5 k0 k1 k2 k3 h0 h1 h2 h3 r0 r1 r2 r3 ri hi HDS
      obtain ⟨bb, off, rfl, hbb, hc⟩ := txCellsI (HI.out _ S5.out.below) (by omega)
      have hck := hc k HKL.out
      obtain ⟨g1, o1, ⟨qq, hq⟩, _, _⟩ := (S5.out.ls 1 _ _ _ rfl).rows (by rw [List.length_map]; omega)
      injection hq with e1 e2 e3
      subst e1
      clear e2 e3
      have hls := S5.out.ls 1 _ _ _ rfl
      have hic := (hls.at rfl (by rw [List.length_map]; omega)).2
      obtain ⟨u0, c0'⟩ := hls.has k (by rw [List.length_map]; exact HKL.out) 0 (by decide)
      have c0 : w5.cell? ⟨g1, o1 + k, none⟩ = some u0 := by rw [Nat.mul_one] at c0'; exact c0'
      have S6 := Lib.hid (S5.out.put 1 _ rfl (touch_set w5 g1 (o1 + k) (.string x3)) (fun k' hk' => by rw [show k' = g1 from hk']; rfl) (lsT 1 (.slice (some ⟨g1, o1, none⟩) l.length q1) ((l.set k x3).map txC)) (txStore hls k HKL.out x3) (fun k' hk' => .inl hk'))
      have he1 := HX1.out
      have he2 := HX2.out
      generalize l[k] = xk at *
      clear hc c0' hls
      obtain ⟨k0, k1, k2, k3⟩ := (S5.out.box 3 _ _ rfl).fourFi
      obtain ⟨h0, h1, h2, h3⟩ := (S5.out.box 0 _ _ rfl).fourFi
      obtain ⟨r0, r1, r2, r3⟩ := (S5.out.box 2 _ _ rfl).fourFi
      have ri := (S5.out.box 2 _ _ rfl).ice
      have hi := (S5.out.box 0 _ _ rfl).ice
      clear S5
      obtain ⟨k0', k1', k2', k3'⟩ := (S6.out.box 3 _ _ rfl).fourFi
      go_wp2_with fail
      refine (HDE.out _).mono ?_
      rintro e w7 ⟨rfl, hb7⟩
      have S7 := Lib.hid (S6.out.more hb7)
      clear S6 hb7 k0 k1 k2 k3 h0 h1 h2 h3 r0 r1 r2 r3 ri hi HDE k0' k1' k2' k3' hck hic c0
      obtain ⟨k0, k1, k2, k3⟩ := (S7.out.box 3 _ _ rfl).fourFi
      obtain ⟨h0, h1, h2, h3⟩ := (S7.out.box 0 _ _ rfl).fourFi
      obtain ⟨r0, r1, r2, r3⟩ := (S7.out.box 2 _ _ rfl).fourFi
      have ri := (S7.out.box 2 _ _ rfl).ice
      have hi := (S7.out.box 0 _ _ rfl).ice
      have S9 := Lib.hid (S7.out.setAll 2 _ _ rfl [.int .i64 x1, .int .i64 s, .int .i64 c, .slice (some ⟨g1, o1, none⟩) l.length q1] rfl)
      clear S7
      go_wp2
      show bodyPost Try.prog Try.f29 _ Exit.ret _ (w7.setCells (w.heap.size + 1) 0 [.int .i64 x1, .int .i64 s, .int .i64 c, .slice (some ⟨g1, o1, none⟩) l.length q1])
      generalize (w7.setCells (w.heap.size + 1) 0 [.int .i64 x1, .int .i64 s, .int .i64 c, .slice (some ⟨g1, o1, none⟩) l.length q1]) = WE at *
      obtain ⟨c0, c1, c2, c3⟩ := (S9.out.box 2 _ _ rfl).fourFi
      refine bodyPost_ret_by (v := .agg #[.int .i64 x1, .int .i64 s, .int .i64 c, .slice (some ⟨g1, o1, none⟩) l.length q1]) ?_ rfl ⟨_, rfl, ?_, fun k hk => ?_, S9.out.below⟩
      · simp [results, Try.f29, go_sem, c0, c1, c2, c3]
      · rw [HV.out]
        show ∃ A q, _ = fiV x1 s c (.slice A (l.set k x3).length q) ∧ LsO 1 _ 0 (.slice A (l.set k x3).length q) ((l.set k x3).map txC)
        simp only [List.length_set]
        exact ⟨_, q1, rfl, S9.out.ls 1 1 (.slice (some ⟨g1, o1, none⟩) l.length q1) ((l.set k x3).map txC) rfl⟩
      · exact HQ.out k (blkFi_iff.1 hk)
    · have HA := Lib.hid hA
      have hB : x4 = false ∨ (x4 = true ∧ x1 ≠ f) ∨ (x4 = true ∧ x1 = f ∧ ¬ (l.getD x2.toNat ⟨#[]⟩).size = 0) := by
        cases x4 with
        | false => exact .inl rfl
        | true =>
          by_cases h1 : x1 = f
          · exact .inr (.inr ⟨rfl, h1, fun h2 => hA ⟨rfl, h1, h2⟩⟩)
          · exact .inr (.inl ⟨rfl, h1⟩)
      have hE : (y4 = true ∧ y1 = f ∧ s = -1) ∨ (y4 = false ∨ (y4 = true ∧ y1 ≠ f) ∨ (y4 = true ∧ y1 = f ∧ s ≠ -1)) := by
        cases y4 with
        | false => exact .inr (.inl rfl)
        | true =>
          by_cases h1 : y1 = f
          · by_cases h2 : s = -1
            · exact .inl ⟨rfl, h1, h2⟩
            · exact .inr (.inr (.inr ⟨rfl, h1, h2⟩))
          · exact .inr (.inr (.inl ⟨rfl, h1⟩))
      clear hA HP1 HP4
      rcases hE with hE | hE
      · have HV := Lib.hid (HP2.out hfo HA.out hE)
        clear HP2 HP3 hfo HA
        obtain ⟨rfl, hE1, hE2⟩ := hE
        have hg1 : (y1 == f) = true := by simp; omega
        have hg2 : (s == -1) = true := by simp; omega
        clear hE1 hE2
        rcases hB with hB | hB | hB
        · subst hB
          clear hok hl25
          go_enter Try.func29, Try.ntmps29
          go_wp2_with fail
          refine HC.out.mono ?_
          rintro e w3 ⟨v3, rfl, hp3, hn3, hb3⟩
          obtain ⟨A1, q1, rfl, o1⟩ := hp3
          have S3a := S1.out.add (lsT 1 (.slice A1 l.length q1) (l.map txC)) hb3 o1 (fun k hk => hn3 k (blkFi_iff.2 hk))
          have S3 := Lib.hid (S3a.made (fiL f s c (.slice A1 l.length q1)) 67)
          have HQ := Lib.hid (fun k hk => (show w.heap.size ≤ k from S3a.nthPast 0 _ rfl k hk))
          clear S3a hb3 hn3 o1 HC S1
          obtain ⟨k0, k1, k2, k3⟩ := (S3.out.box 3 _ _ rfl).fourFi
          have HK3 := Lib.hid (HK.out _ S3.out.below)
          go_wp2_with fail
          refine HK3.out.mono ?_
          rintro e w4 ⟨rfl, hb4⟩
          have S4 := Lib.hid (show St w w4 [boxT w3.heap.size (fiL f s c (.slice A1 l.length q1)), lsT 1 (.slice A1 l.length q1) (l.map txC), boxT (w.heap.size + 1) [.int .i64 0, .int .i64 0, .int .i64 0, .slice none 0 0], boxT w.heap.size (fiL f s c (.slice A l.length q))] from S3.out.more hb4)
          clear S3 hb4 k0 k1 k2 k3 HK3 HK
          generalize w3.heap.size = gh at *
          obtain ⟨k0, k1, k2, k3⟩ := (S4.out.box 3 _ _ rfl).fourFi
          obtain ⟨h0, h1, h2, h3⟩ := (S4.out.box 0 _ _ rfl).fourFi
          obtain ⟨r0, r1, r2, r3⟩ := (S4.out.box 2 _ _ rfl).fourFi
          have ri := (S4.out.box 2 _ _ rfl).ice
          have hi := (S4.out.box 0 _ _ rfl).ice
          go_wp2_with fail
          refine (HDS.out _).mono ?_
          rintro e w5 ⟨rfl, hb5⟩
          have S5 := Lib.hid (S4.out.more hb5)
          clear S4 hb5 k0 k1 k2 k3 h0 h1 h2 h3 r0 r1 r2 r3 ri hi HDS
          obtain ⟨k0, k1, k2, k3⟩ := (S5.out.box 3 _ _ rfl).fourFi
          obtain ⟨h0, h1, h2, h3⟩ := (S5.out.box 0 _ _ rfl).fourFi
          obtain ⟨r0, r1, r2, r3⟩ := (S5.out.box 2 _ _ rfl).fourFi
          have ri := (S5.out.box 2 _ _ rfl).ice
          have hi := (S5.out.box 0 _ _ rfl).ice
          go_wp2_with fail
          refine (HDE.out _).mono ?_
          rintro e w6 ⟨rfl, hb6⟩
          have S6 := Lib.hid (S5.out.more hb6)
          clear S5 hb6 k0 k1 k2 k3 h0 h1 h2 h3 r0 r1 r2 r3 ri hi HDE
          have S7 := Lib.hid (S6.out.setBox 0 _ _ rfl 1 (by simp) (.int .i64 y2))
          have S8 := Lib.hid (S7.out.setBox 0 _ _ rfl 2 (by simp) (.int .i64 y3))
          obtain ⟨k0, k1, k2, k3⟩ := (S6.out.box 3 _ _ rfl).fourFi
          obtain ⟨h0, h1, h2, h3⟩ := (S6.out.box 0 _ _ rfl).fourFi
          obtain ⟨r0, r1, r2, r3⟩ := (S6.out.box 2 _ _ rfl).fourFi
          have ri := (S6.out.box 2 _ _ rfl).ice
          have hi := (S6.out.box 0 _ _ rfl).ice
          obtain ⟨n0, n1, n2, n3⟩ := (show Box _ _ [.int .i64 f, .int .i64 y2, .int .i64 c, (.slice A1 l.length q1)] from S7.out.box 0 _ _ rfl).fourFi
          have ni := (S7.out.box 0 _ _ rfl).ice
          obtain ⟨t0, t1, t2, t3⟩ := (show Box _ _ [.int .i64 f, .int .i64 y2, .int .i64 y3, (.slice A1 l.length q1)] from S8.out.box 0 _ _ rfl).fourFi
          obtain ⟨z0, z1, z2, z3⟩ := (S8.out.box 2 _ _ rfl).fourFi
          have zi := (S8.out.box 2 _ _ rfl).ice
          clear S6 S7
          have S9 := Lib.hid (S8.out.setAll 2 _ _ rfl [.int .i64 f, .int .i64 y2, .int .i64 y3, (.slice A1 l.length q1)] rfl)
          clear S8
          go_wp2
          show bodyPost Try.prog Try.f29 _ Exit.ret _ (((w6.setCell ⟨gh, 1, none⟩ (.int .i64 y2)).setCell ⟨gh, 2, none⟩ (.int .i64 y3)).setCells (w.heap.size + 1) 0 [.int .i64 f, .int .i64 y2, .int .i64 y3, (.slice A1 l.length q1)])
          generalize (((w6.setCell ⟨gh, 1, none⟩ (.int .i64 y2)).setCell ⟨gh, 2, none⟩ (.int .i64 y3)).setCells (w.heap.size + 1) 0 [.int .i64 f, .int .i64 y2, .int .i64 y3, (.slice A1 l.length q1)]) = WE at *
          obtain ⟨c0, c1, c2, c3⟩ := (S9.out.box 2 _ _ rfl).fourFi
          refine bodyPost_ret_by (v := .agg #[.int .i64 f, .int .i64 y2, .int .i64 y3, (.slice A1 l.length q1)]) ?_ rfl ⟨_, rfl, ?_, fun k hk => ?_, S9.out.below⟩
          · simp [results, Try.f29, go_sem, c0, c1, c2, c3]
          · rw [HV.out]
            exact ⟨_, q1, rfl, S9.out.ls 1 _ _ _ rfl⟩
          · exact HQ.out k (blkFi_iff.1 hk)
        · obtain ⟨rfl, hB⟩ := hB
          have hf1 : (x1 == f) = false := by simp; omega
          clear hok hl25
          go_enter Try.func29, Try.ntmps29
          go_wp2_with fail
          refine HC.out.mono ?_
          rintro e w3 ⟨v3, rfl, hp3, hn3, hb3⟩
          obtain ⟨A1, q1, rfl, o1⟩ := hp3
          have S3a := S1.out.add (lsT 1 (.slice A1 l.length q1) (l.map txC)) hb3 o1 (fun k hk => hn3 k (blkFi_iff.2 hk))
          have S3 := Lib.hid (S3a.made (fiL f s c (.slice A1 l.length q1)) 67)
          have HQ := Lib.hid (fun k hk => (show w.heap.size ≤ k from S3a.nthPast 0 _ rfl k hk))
          clear S3a hb3 hn3 o1 HC S1
          obtain ⟨k0, k1, k2, k3⟩ := (S3.out.box 3 _ _ rfl).fourFi
          have HK3 := Lib.hid (HK.out _ S3.out.below)
          go_wp2_with fail
          refine HK3.out.mono ?_
          rintro e w4 ⟨rfl, hb4⟩
          have S4 := Lib.hid (show St w w4 [boxT w3.heap.size (fiL f s c (.slice A1 l.length q1)), lsT 1 (.slice A1 l.length q1) (l.map txC), boxT (w.heap.size + 1) [.int .i64 0, .int .i64 0, .int .i64 0, .slice none 0 0], boxT w.heap.size (fiL f s c (.slice A l.length q))] from S3.out.more hb4)
          clear S3 hb4 k0 k1 k2 k3 HK3 HK
          generalize w3.heap.size = gh at *
          obtain ⟨k0, k1, k2, k3⟩ := (S4.out.box 3 _ _ rfl).fourFi
          obtain ⟨h0, h1, h2, h3⟩ := (S4.out.box 0 _ _ rfl).fourFi
          obtain ⟨r0, r1, r2, r3⟩ := (S4.out.box 2 _ _ rfl).fourFi
          have ri := (S4.out.box 2 _ _ rfl).ice
          have hi := (S4.out.box 0 _ _ rfl).ice
          go_wp2_with fail
          refine (HDS.out _).mono ?_
          rintro e w5 ⟨rfl, hb5⟩
          have S5 := Lib.hid (S4.out.more hb5)
          clear S4 hb5 k0 k1 k2 k3 h0 h1 h2 h3 r0 r1 r2 r3 ri hi HDS
          obtain ⟨k0, k1, k2, k3⟩ := (S5.out.box 3 _ _ rfl).fourFi
          obtain ⟨h0, h1, h2, h3⟩ := (S5.out.box 0 _ _ rfl).fourFi
          obtain ⟨r0, r1, r2, r3⟩ := (S5.out.box 2 _ _ rfl).fourFi
          have ri := (S5.out.box 2 _ _ rfl).ice
          have hi := (S5.out.box 0 _ _ rfl).ice
          go_wp2_with fail
          refine (HDE.out _).mono ?_
          rintro e w6 ⟨rfl, hb6⟩
          have S6 := Lib.hid (S5.out.more hb6)
          clear S5 hb6 k0 k1 k2 k3 h0 h1 h2 h3 r0 r1 r2 r3 ri hi HDE
          have S7 := Lib.hid (S6.out.setBox 0 _ _ rfl 1 (by simp) (.int .i64 y2))
          have S8 := Lib.hid (S7.out.setBox 0 _ _ rfl 2 (by simp) (.int .i64 y3))
          obtain ⟨k0, k1, k2, k3⟩ := (S6.out.box 3 _ _ rfl).fourFi
          obtain ⟨h0, h1, h2, h3⟩ := (S6.out.box 0 _ _ rfl).fourFi
          obtain ⟨r0, r1, r2, r3⟩ := (S6.out.box 2 _ _ rfl).fourFi
          have ri := (S6.out.box 2 _ _ rfl).ice
          have hi := (S6.out.box 0 _ _ rfl).ice
          obtain ⟨n0, n1, n2, n3⟩ := (show Box _ _ [.int .i64 f, .int .i64 y2, .int .i64 c, (.slice A1 l.length q1)] from S7.out.box 0 _ _ rfl).fourFi
          have ni := (S7.out.box 0 _ _ rfl).ice
          obtain ⟨t0, t1, t2, t3⟩ := (show Box _ _ [.int .i64 f, .int .i64 y2, .int .i64 y3, (.slice A1 l.length q1)] from S8.out.box 0 _ _ rfl).fourFi
          obtain ⟨z0, z1, z2, z3⟩ := (S8.out.box 2 _ _ rfl).fourFi
          have zi := (S8.out.box 2 _ _ rfl).ice
          clear S6 S7
          have S9 := Lib.hid (S8.out.setAll 2 _ _ rfl [.int .i64 f, .int .i64 y2, .int .i64 y3, (.slice A1 l.length q1)] rfl)
          clear S8
          go_wp2
          show bodyPost Try.prog Try.f29 _ Exit.ret _ (((w6.setCell ⟨gh, 1, none⟩ (.int .i64 y2)).setCell ⟨gh, 2, none⟩ (.int .i64 y3)).setCells (w.heap.size + 1) 0 [.int .i64 f, .int .i64 y2, .int .i64 y3, (.slice A1 l.length q1)])
          generalize (((w6.setCell ⟨gh, 1, none⟩ (.int .i64 y2)).setCell ⟨gh, 2, none⟩ (.int .i64 y3)).setCells (w.heap.size + 1) 0 [.int .i64 f, .int .i64 y2, .int .i64 y3, (.slice A1 l.length q1)]) = WE at *
          obtain ⟨c0, c1, c2, c3⟩ := (S9.out.box 2 _ _ rfl).fourFi
          refine bodyPost_ret_by (v := .agg #[.int .i64 f, .int .i64 y2, .int .i64 y3, (.slice A1 l.length q1)]) ?_ rfl ⟨_, rfl, ?_, fun k hk => ?_, S9.out.below⟩
          · simp [results, Try.f29, go_sem, c0, c1, c2, c3]
          · rw [HV.out]
            exact ⟨_, q1, rfl, S9.out.ls 1 _ _ _ rfl⟩
          · exact HQ.out k (blkFi_iff.1 hk)
        · obtain ⟨rfl, hB1, hB2⟩ := hB
          obtain ⟨k, _, _, h9⟩ := hok rfl
          cases h9
      · have HV := Lib.hid (HP3.out HA.out (fun h => by
          rcases hE with h1 | h1 | h1
          · have h2 := h.1; rw [h1] at h2; cases h2
          · exact h1.2 h.2.1
          · exact h1.2.2 h.2.2))
        clear HP2 HP3 hfo HA
        rcases hE with hE | hE | hE
        · subst hE
          rcases hB with hB | hB | hB
          · subst hB
            clear hok hl25
            go_enter Try.func29, Try.ntmps29
            go_wp2_with fail
            refine HC.out.mono ?_
            rintro e w3 ⟨v3, rfl, hp3, hn3, hb3⟩
            obtain ⟨A1, q1, rfl, o1⟩ := hp3
            have S3a := S1.out.add (lsT 1 (.slice A1 l.length q1) (l.map txC)) hb3 o1 (fun k hk => hn3 k (blkFi_iff.2 hk))
            have S3 := Lib.hid (S3a.made (fiL f s c (.slice A1 l.length q1)) 67)
            have HQ := Lib.hid (fun k hk => (show w.heap.size ≤ k from S3a.nthPast 0 _ rfl k hk))
            clear S3a hb3 hn3 o1 HC S1
            obtain ⟨k0, k1, k2, k3⟩ := (S3.out.box 3 _ _ rfl).fourFi
            have HK3 := Lib.hid (HK.out _ S3.out.below)
            go_wp2_with fail
            refine HK3.out.mono ?_
            rintro e w4 ⟨rfl, hb4⟩
            have S4 := Lib.hid (show St w w4 [boxT w3.heap.size (fiL f s c (.slice A1 l.length q1)), lsT 1 (.slice A1 l.length q1) (l.map txC), boxT (w.heap.size + 1) [.int .i64 0, .int .i64 0, .int .i64 0, .slice none 0 0], boxT w.heap.size (fiL f s c (.slice A l.length q))] from S3.out.more hb4)
            clear S3 hb4 k0 k1 k2 k3 HK3 HK
            generalize w3.heap.size = gh at *
            obtain ⟨k0, k1, k2, k3⟩ := (S4.out.box 3 _ _ rfl).fourFi
            obtain ⟨h0, h1, h2, h3⟩ := (S4.out.box 0 _ _ rfl).fourFi
            obtain ⟨r0, r1, r2, r3⟩ := (S4.out.box 2 _ _ rfl).fourFi
            have ri := (S4.out.box 2 _ _ rfl).ice
            have hi := (S4.out.box 0 _ _ rfl).ice
            go_wp2_with fail
            refine (HDS.out _).mono ?_
            rintro e w5 ⟨rfl, hb5⟩
            have S5 := Lib.hid (S4.out.more hb5)
            clear S4 hb5 k0 k1 k2 k3 h0 h1 h2 h3 r0 r1 r2 r3 ri hi HDS
            obtain ⟨k0, k1, k2, k3⟩ := (S5.out.box 3 _ _ rfl).fourFi
            obtain ⟨h0, h1, h2, h3⟩ := (S5.out.box 0 _ _ rfl).fourFi
            obtain ⟨r0, r1, r2, r3⟩ := (S5.out.box 2 _ _ rfl).fourFi
            have ri := (S5.out.box 2 _ _ rfl).ice
            have hi := (S5.out.box 0 _ _ rfl).ice
            go_wp2_with fail
            refine (HDE.out _).mono ?_
            rintro e w6 ⟨rfl, hb6⟩
            have S6 := Lib.hid (S5.out.more hb6)
            clear S5 hb6 k0 k1 k2 k3 h0 h1 h2 h3 r0 r1 r2 r3 ri hi HDE
            obtain ⟨k0, k1, k2, k3⟩ := (S6.out.box 3 _ _ rfl).fourFi
            obtain ⟨h0, h1, h2, h3⟩ := (S6.out.box 0 _ _ rfl).fourFi
            obtain ⟨r0, r1, r2, r3⟩ := (S6.out.box 2 _ _ rfl).fourFi
            have ri := (S6.out.box 2 _ _ rfl).ice
            have hi := (S6.out.box 0 _ _ rfl).ice
            have S9 := Lib.hid (S6.out.setAll 2 _ _ rfl [.int .i64 f, .int .i64 s, .int .i64 c, (.slice A1 l.length q1)] rfl)
            clear S6
            go_wp2
            show bodyPost Try.prog Try.f29 _ Exit.ret _ (w6.setCells (w.heap.size + 1) 0 [.int .i64 f, .int .i64 s, .int .i64 c, (.slice A1 l.length q1)])
            generalize (w6.setCells (w.heap.size + 1) 0 [.int .i64 f, .int .i64 s, .int .i64 c, (.slice A1 l.length q1)]) = WE at *
            obtain ⟨c0, c1, c2, c3⟩ := (S9.out.box 2 _ _ rfl).fourFi
            refine bodyPost_ret_by (v := .agg #[.int .i64 f, .int .i64 s, .int .i64 c, (.slice A1 l.length q1)]) ?_ rfl ⟨_, rfl, ?_, fun k hk => ?_, S9.out.below⟩
            · simp [results, Try.f29, go_sem, c0, c1, c2, c3]
            · rw [HV.out]
              exact ⟨_, q1, rfl, S9.out.ls 1 _ _ _ rfl⟩
            · exact HQ.out k (blkFi_iff.1 hk)
          · obtain ⟨rfl, hB⟩ := hB
            have hf1 : (x1 == f) = false := by simp; omega
            clear hok hl25
            go_enter Try.func29, Try.ntmps29
            go_wp2_with fail
            refine HC.out.mono ?_
            rintro e w3 ⟨v3, rfl, hp3, hn3, hb3⟩
            obtain ⟨A1, q1, rfl, o1⟩ := hp3
            have S3a := S1.out.add (lsT 1 (.slice A1 l.length q1) (l.map txC)) hb3 o1 (fun k hk => hn3 k (blkFi_iff.2 hk))
            have S3 := Lib.hid (S3a.made (fiL f s c (.slice A1 l.length q1)) 67)
            have HQ := Lib.hid (fun k hk => (show w.heap.size ≤ k from S3a.nthPast 0 _ rfl k hk))
            clear S3a hb3 hn3 o1 HC S1
            obtain ⟨k0, k1, k2, k3⟩ := (S3.out.box 3 _ _ rfl).fourFi
            have HK3 := Lib.hid (HK.out _ S3.out.below)
            go_wp2_with fail
            refine HK3.out.mono ?_
            rintro e w4 ⟨rfl, hb4⟩
            have S4 := Lib.hid (show St w w4 [boxT w3.heap.size (fiL f s c (.slice A1 l.length q1)), lsT 1 (.slice A1 l.length q1) (l.map txC), boxT (w.heap.size + 1) [.int .i64 0, .int .i64 0, .int .i64 0, .slice none 0 0], boxT w.heap.size (fiL f s c (.slice A l.length q))] from S3.out.more hb4)
            clear S3 hb4 k0 k1 k2 k3 HK3 HK
            generalize w3.heap.size = gh at *
            obtain ⟨k0, k1, k2, k3⟩ := (S4.out.box 3 _ _ rfl).fourFi
            obtain ⟨h0, h1, h2, h3⟩ := (S4.out.box 0 _ _ rfl).fourFi
            obtain ⟨r0, r1, r2, r3⟩ := (S4.out.box 2 _ _ rfl).fourFi
            have ri := (S4.out.box 2 _ _ rfl).ice
            have hi := (S4.out.box 0 _ _ rfl).ice
            go_wp2_with fail
            refine (HDS.out _).mono ?_
            rintro e w5 ⟨rfl, hb5⟩
            have S5 := Lib.hid (S4.out.more hb5)
            clear S4 hb5 k0 k1 k2 k3 h0 h1 h2 h3 r0 r1 r2 r3 ri hi HDS
            obtain ⟨k0, k1, k2, k3⟩ := (S5.out.box 3 _ _ rfl).fourFi
            obtain ⟨h0, h1, h2, h3⟩ := (S5.out.box 0 _ _ rfl).fourFi
            obtain ⟨r0, r1, r2, r3⟩ := (S5.out.box 2 _ _ rfl).fourFi
            have ri := (S5.out.box 2 _ _ rfl).ice
            have hi := (S5.out.box 0 _ _ rfl).ice
            go_wp2_with fail
            refine (HDE.out _).mono ?_
            rintro e w6 ⟨rfl, hb6⟩
            have S6 := Lib.hid (S5.out.more hb6)
            clear S5 hb6 k0 k1 k2 k3 h0 h1 h2 h3 r0 r1 r2 r3 ri hi HDE
            obtain ⟨k0, k1, k2, k3⟩ := (S6.out.box 3 _ _ rfl).fourFi
            obtain ⟨h0, h1, h2, h3⟩ := (S6.out.box 0 _ _ rfl).fourFi
            obtain ⟨r0, r1, r2, r3⟩ := (S6.out.box 2 _ _ rfl).fourFi
            have ri := (S6.out.box 2 _ _ rfl).ice
            have hi := (S6.out.box 0 _ _ rfl).ice
            have S9 := Lib.hid (S6.out.setAll 2 _ _ rfl [.int .i64 f, .int .i64 s, .int .i64 c, (.slice A1 l.length q1)] rfl)
            clear S6
            go_wp2
            show bodyPost Try.prog Try.f29 _ Exit.ret _ (w6.setCells (w.heap.size + 1) 0 [.int .i64 f, .int .i64 s, .int .i64 c, (.slice A1 l.length q1)])
            generalize (w6.setCells (w.heap.size + 1) 0 [.int .i64 f, .int .i64 s, .int .i64 c, (.slice A1 l.length q1)]) = WE at *
            obtain ⟨c0, c1, c2, c3⟩ := (S9.out.box 2 _ _ rfl).fourFi
            refine bodyPost_ret_by (v := .agg #[.int .i64 f, .int .i64 s, .int .i64 c, (.slice A1 l.length q1)]) ?_ rfl ⟨_, rfl, ?_, fun k hk => ?_, S9.out.below⟩
            · simp [results, Try.f29, go_sem, c0, c1, c2, c3]
            · rw [HV.out]
              exact ⟨_, q1, rfl, S9.out.ls 1 _ _ _ rfl⟩
            · exact HQ.out k (blkFi_iff.1 hk)
          · obtain ⟨rfl, hB1, hB2⟩ := hB
            have hf1 : (x1 == f) = true := by simp; omega
            obtain ⟨k, rfl, hk24, h9⟩ := hok rfl
            clear h9
            have hkl : k < l.length := by omega
            rw [Int.toNat_natCast] at hB2
            have hxx : ¬ l[k].size = 0 := by rw [List.getD_eq_getElem?_getD, List.getElem?_eq_getElem hkl] at hB2; exact hB2
            have he1 := tx_ne hxx
            have he2 := tx_ne2 hxx
            have he3 := tx_ne3 hxx
            have hkl2 : (k : Int) < (l.length : Int) := by omega
            have HX1 := Lib.hid he1
            have HX2 := Lib.hid he2
            have HX3 := Lib.hid he3
            have HKL := Lib.hid hkl
            clear he1 he2 he3 hB1 hB2 hxx
            clear hok hl25
            go_enter Try.func29, Try.ntmps29
            go_wp2_with fail
            refine HC.out.mono ?_
            rintro e w3 ⟨v3, rfl, hp3, hn3, hb3⟩
            obtain ⟨A1, q1, rfl, o1⟩ := hp3
            have S3a := S1.out.add (lsT 1 (.slice A1 l.length q1) (l.map txC)) hb3 o1 (fun k hk => hn3 k (blkFi_iff.2 hk))
            have S3 := Lib.hid (S3a.made (fiL f s c (.slice A1 l.length q1)) 67)
            have HQ := Lib.hid (fun k hk => (show w.heap.size ≤ k from S3a.nthPast 0 _ rfl k hk))
            clear S3a hb3 hn3 o1 HC S1
            obtain ⟨k0, k1, k2, k3⟩ := (S3.out.box 3 _ _ rfl).fourFi
            have HK3 := Lib.hid (HK.out _ S3.out.below)
            go_wp2_with fail
            refine HK3.out.mono ?_
            rintro e w4 ⟨rfl, hb4⟩
            have S4 := Lib.hid (show St w w4 [boxT w3.heap.size (fiL f s c (.slice A1 l.length q1)), lsT 1 (.slice A1 l.length q1) (l.map txC), boxT (w.heap.size + 1) [.int .i64 0, .int .i64 0, .int .i64 0, .slice none 0 0], boxT w.heap.size (fiL f s c (.slice A l.length q))] from S3.out.more hb4)
            clear S3 hb4 k0 k1 k2 k3 HK3 HK
            generalize w3.heap.size = gh at *
            obtain ⟨k0, k1, k2, k3⟩ := (S4.out.box 3 _ _ rfl).fourFi
            obtain ⟨h0, h1, h2, h3⟩ := (S4.out.box 0 _ _ rfl).fourFi
            obtain ⟨r0, r1, r2, r3⟩ := (S4.out.box 2 _ _ rfl).fourFi
            have ri := (S4.out.box 2 _ _ rfl).ice
            have hi := (S4.out.box 0 _ _ rfl).ice
            go_wp2_with fail
            refine (HDS.out _).mono ?_
            rintro e w5 ⟨rfl, hb5⟩
            have S5 := Lib.hid (S4.out.more hb5)
            clear S4 hb5 k0 k1 k2 k3 h0 h1 h2 h3 r0 r1 r2 r3 ri hi HDS
            obtain ⟨bb, off, rfl, hbb, hc⟩ := txCellsI (HI.out _ S5.out.below) (by omega)
            have hck := hc k HKL.out
            have he1 := HX1.out
            have he2 := HX2.out
            have he3 := HX3.out
            generalize l[k] = xk at *
            clear hc
            obtain ⟨k0, k1, k2, k3⟩ := (S5.out.box 3 _ _ rfl).fourFi
            obtain ⟨h0, h1, h2, h3⟩ := (S5.out.box 0 _ _ rfl).fourFi
            obtain ⟨r0, r1, r2, r3⟩ := (S5.out.box 2 _ _ rfl).fourFi
            have ri := (S5.out.box 2 _ _ rfl).ice
            have hi := (S5.out.box 0 _ _ rfl).ice
            go_wp2_with fail
            refine (HDE.out _).mono ?_
            rintro e w6 ⟨rfl, hb6⟩
            have S6 := Lib.hid (S5.out.more hb6)
            clear S5 hb6 k0 k1 k2 k3 h0 h1 h2 h3 r0 r1 r2 r3 ri hi HDE
            obtain ⟨k0, k1, k2, k3⟩ := (S6.out.box 3 _ _ rfl).fourFi
            obtain ⟨h0, h1, h2, h3⟩ := (S6.out.box 0 _ _ rfl).fourFi
            obtain ⟨r0, r1, r2, r3⟩ := (S6.out.box 2 _ _ rfl).fourFi
            have ri := (S6.out.box 2 _ _ rfl).ice
            have hi := (S6.out.box 0 _ _ rfl).ice
            have S9 := Lib.hid (S6.out.setAll 2 _ _ rfl [.int .i64 f, .int .i64 s, .int .i64 c, (.slice A1 l.length q1)] rfl)
            clear S6
            go_wp2
            show bodyPost Try.prog Try.f29 _ Exit.ret _ (w6.setCells (w.heap.size + 1) 0 [.int .i64 f, .int .i64 s, .int .i64 c, (.slice A1 l.length q1)])
            generalize (w6.setCells (w.heap.size + 1) 0 [.int .i64 f, .int .i64 s, .int .i64 c, (.slice A1 l.length q1)]) = WE at *
            obtain ⟨c0, c1, c2, c3⟩ := (S9.out.box 2 _ _ rfl).fourFi
            refine bodyPost_ret_by (v := .agg #[.int .i64 f, .int .i64 s, .int .i64 c, (.slice A1 l.length q1)]) ?_ rfl ⟨_, rfl, ?_, fun k hk => ?_, S9.out.below⟩
            · simp [results, Try.f29, go_sem, c0, c1, c2, c3]
            · rw [HV.out]
              exact ⟨_, q1, rfl, S9.out.ls 1 _ _ _ rfl⟩
            · exact HQ.out k (blkFi_iff.1 hk)
        · obtain ⟨rfl, hE1⟩ := hE
          have hg1 : (y1 == f) = false := by simp; omega
          rcases hB with hB | hB | hB
          · subst hB
            clear hok hl25
            go_enter Try.func29, Try.ntmps29
            go_wp2_with fail
            refine HC.out.mono ?_
            rintro e w3 ⟨v3, rfl, hp3, hn3, hb3⟩
            obtain ⟨A1, q1, rfl, o1⟩ := hp3
            have S3a := S1.out.add (lsT 1 (.slice A1 l.length q1) (l.map txC)) hb3 o1 (fun k hk => hn3 k (blkFi_iff.2 hk))
            have S3 := Lib.hid (S3a.made (fiL f s c (.slice A1 l.length q1)) 67)
            have HQ := Lib.hid (fun k hk => (show w.heap.size ≤ k from S3a.nthPast 0 _ rfl k hk))
            clear S3a hb3 hn3 o1 HC S1
            obtain ⟨k0, k1, k2, k3⟩ := (S3.out.box 3 _ _ rfl).fourFi
            have HK3 := Lib.hid (HK.out _ S3.out.below)
            go_wp2_with fail
            refine HK3.out.mono ?_
            rintro e w4 ⟨rfl, hb4⟩
            have S4 := Lib.hid (show St w w4 [boxT w3.heap.size (fiL f s c (.slice A1 l.length q1)), lsT 1 (.slice A1 l.length q1) (l.map txC), boxT (w.heap.size + 1) [.int .i64 0, .int .i64 0, .int .i64 0, .slice none 0 0], boxT w.heap.size (fiL f s c (.slice A l.length q))] from S3.out.more hb4)
            clear S3 hb4 k0 k1 k2 k3 HK3 HK
            generalize w3.heap.size = gh at *
            obtain ⟨k0, k1, k2, k3⟩ := (S4.out.box 3 _ _ rfl).fourFi
            obtain ⟨h0, h1, h2, h3⟩ := (S4.out.box 0 _ _ rfl).fourFi
            obtain ⟨r0, r1, r2, r3⟩ := (S4.out.box 2 _ _ rfl).fourFi
            have ri := (S4.out.box 2 _ _ rfl).ice
            have hi := (S4.out.box 0 _ _ rfl).ice
            go_wp2_with fail
            refine (HDS.out _).mono ?_
            rintro e w5 ⟨rfl, hb5⟩
            have S5 := Lib.hid (S4.out.more hb5)
            clear S4 hb5 k0 k1 k2 k3 h0 h1 h2 h3 r0 r1 r2 r3 ri hi HDS
            obtain ⟨k0, k1, k2, k3⟩ := (S5.out.box 3 _ _ rfl).fourFi
            obtain ⟨h0, h1, h2, h3⟩ := (S5.out.box 0 _ _ rfl).fourFi
            obtain ⟨r0, r1, r2, r3⟩ := (S5.out.box 2 _ _ rfl).fourFi
            have ri := (S5.out.box 2 _ _ rfl).ice
            have hi := (S5.out.box 0 _ _ rfl).ice
            go_wp2_with fail
            refine (HDE.out _).mono ?_
            rintro e w6 ⟨rfl, hb6⟩
            have S6 := Lib.hid (S5.out.more hb6)
            clear S5 hb6 k0 k1 k2 k3 h0 h1 h2 h3 r0 r1 r2 r3 ri hi HDE
            obtain ⟨k0, k1, k2, k3⟩ := (S6.out.box 3 _ _ rfl).fourFi
            obtain ⟨h0, h1, h2, h3⟩ := (S6.out.box 0 _ _ rfl).fourFi
            obtain ⟨r0, r1, r2, r3⟩ := (S6.out.box 2 _ _ rfl).fourFi
            have ri := (S6.out.box 2 _ _ rfl).ice
            have hi := (S6.out.box 0 _ _ rfl).ice
            have S9 := Lib.hid (S6.out.setAll 2 _ _ rfl [.int .i64 f, .int .i64 s, .int .i64 c, (.slice A1 l.length q1)] rfl)
            clear S6
            go_wp2
            show bodyPost Try.prog Try.f29 _ Exit.ret _ (w6.setCells (w.heap.size + 1) 0 [.int .i64 f, .int .i64 s, .int .i64 c, (.slice A1 l.length q1)])
            generalize (w6.setCells (w.heap.size + 1) 0 [.int .i64 f, .int .i64 s, .int .i64 c, (.slice A1 l.length q1)]) = WE at *
            obtain ⟨c0, c1, c2, c3⟩ := (S9.out.box 2 _ _ rfl).fourFi
            refine bodyPost_ret_by (v := .agg #[.int .i64 f, .int .i64 s, .int .i64 c, (.slice A1 l.length q1)]) ?_ rfl ⟨_, rfl, ?_, fun k hk => ?_, S9.out.below⟩
            · simp [results, Try.f29, go_sem, c0, c1, c2, c3]
            · rw [HV.out]
              exact ⟨_, q1, rfl, S9.out.ls 1 _ _ _ rfl⟩
            · exact HQ.out k (blkFi_iff.1 hk)
          · obtain ⟨rfl, hB⟩ := hB
            have hf1 : (x1 == f) = false := by simp; omega
            clear hok hl25
            go_enter Try.func29, Try.ntmps29
            go_wp2_with fail
            refine HC.out.mono ?_
            rintro e w3 ⟨v3, rfl, hp3, hn3, hb3⟩
            obtain ⟨A1, q1, rfl, o1⟩ := hp3
            have S3a := S1.out.add (lsT 1 (.slice A1 l.length q1) (l.map txC)) hb3 o1 (fun k hk => hn3 k (blkFi_iff.2 hk))
            have S3 := Lib.hid (S3a.made (fiL f s c (.slice A1 l.length q1)) 67)
            have HQ := Lib.hid (fun k hk => (show w.heap.size ≤ k from S3a.nthPast 0 _ rfl k hk))
            clear S3a hb3 hn3 o1 HC S1
            obtain ⟨k0, k1, k2, k3⟩ := (S3.out.box 3 _ _ rfl).fourFi
            have HK3 := Lib.hid (HK.out _ S3.out.below)
            go_wp2_with fail
            refine HK3.out.mono ?_
            rintro e w4 ⟨rfl, hb4⟩
            have S4 := Lib.hid (show St w w4 [boxT w3.heap.size (fiL f s c (.slice A1 l.length q1)), lsT 1 (.slice A1 l.length q1) (l.map txC), boxT (w.heap.size + 1) [.int .i64 0, .int .i64 0, .int .i64 0, .slice none 0 0], boxT w.heap.size (fiL f s c (.slice A l.length q))] from S3.out.more hb4)
            clear S3 hb4 k0 k1 k2 k3 HK3 HK
            generalize w3.heap.size = gh at *
            obtain ⟨k0, k1, k2, k3⟩ := (S4.out.box 3 _ _ rfl).fourFi
            obtain ⟨h0, h1, h2, h3⟩ := (S4.out.box 0 _ _ rfl).fourFi
            obtain ⟨r0, r1, r2, r3⟩ := (S4.out.box 2 _ _ rfl).fourFi
            have ri := (S4.out.box 2 _ _ rfl).ice
            have hi := (S4.out.box 0 _ _ rfl).ice
            go_wp2_with fail
            refine (HDS.out _).mono ?_
            rintro e w5 ⟨rfl, hb5⟩
            have S5 := Lib.hid (S4.out.more hb5)
            clear S4 hb5 k0 k1 k2 k3 h0 h1 h2 h3 r0 r1 r2 r3 ri hi HDS
            obtain ⟨k0, k1, k2, k3⟩ := (S5.out.box 3 _ _ rfl).fourFi
            obtain ⟨h0, h1, h2, h3⟩ := (S5.out.box 0 _ _ rfl).fourFi
            obtain ⟨r0, r1, r2, r3⟩ := (S5.out.box 2 _ _ rfl).fourFi
            have ri := (S5.out.box 2 _ _ rfl).ice
            have hi := (S5.out.box 0 _ _ rfl).ice
            go_wp2_with fail
            refine (HDE.out _).mono ?_
            rintro e w6 ⟨rfl, hb6⟩
            have S6 := Lib.hid (S5.out.more hb6)
            clear S5 hb6 k0 k1 k2 k3 h0 h1 h2 h3 r0 r1 r2 r3 ri hi HDE
            obtain ⟨k0, k1, k2, k3⟩ := (S6.out.box 3 _ _ rfl).fourFi
            obtain ⟨h0, h1, h2, h3⟩ := (S6.out.box 0 _ _ rfl).fourFi
            obtain ⟨r0, r1, r2, r3⟩ := (S6.out.box 2 _ _ rfl).fourFi
            have ri := (S6.out.box 2 _ _ rfl).ice
            have hi := (S6.out.box 0 _ _ rfl).ice
            have S9 := Lib.hid (S6.out.setAll 2 _ _ rfl [.int .i64 f, .int .i64 s, .int .i64 c, (.slice A1 l.length q1)] rfl)
            clear S6
            go_wp2
            show bodyPost Try.prog Try.f29 _ Exit.ret _ (w6.setCells (w.heap.size + 1) 0 [.int .i64 f, .int .i64 s, .int .i64 c, (.slice A1 l.length q1)])
            generalize (w6.setCells (w.heap.size + 1) 0 [.int .i64 f, .int .i64 s, .int .i64 c, (.slice A1 l.length q1)]) = WE at *
            obtain ⟨c0, c1, c2, c3⟩ := (S9.out.box 2 _ _ rfl).fourFi
            refine bodyPost_ret_by (v := .agg #[.int .i64 f, .int .i64 s, .int .i64 c, (.slice A1 l.length q1)]) ?_ rfl ⟨_, rfl, ?_, fun k hk => ?_, S9.out.below⟩
            · simp [results, Try.f29, go_sem, c0, c1, c2, c3]
            · rw [HV.out]
              exact ⟨_, q1, rfl, S9.out.ls 1 _ _ _ rfl⟩
            · exact HQ.out k (blkFi_iff.1 hk)
          · obtain ⟨rfl, hB1, hB2⟩ := hB
            obtain ⟨k, _, _, h9⟩ := hok rfl
            cases h9
        · obtain ⟨rfl, hE1, hE2⟩ := hE
          have hg1 : (y1 == f) = true := by simp; omega
          have hg2 : (s == -1) = false := by simp; omega
          clear hE1 hE2
          rcases hB with hB | hB | hB
          · subst hB
            clear hok hl25
            go_enter Try.func29, Try.ntmps29
            go_wp2_with fail
            refine HC.out.mono ?_
            rintro e w3 ⟨v3, rfl, hp3, hn3, hb3⟩
            obtain ⟨A1, q1, rfl, o1⟩ := hp3
            have S3a := S1.out.add (lsT 1 (.slice A1 l.length q1) (l.map txC)) hb3 o1 (fun k hk => hn3 k (blkFi_iff.2 hk))
            have S3 := Lib.hid (S3a.made (fiL f s c (.slice A1 l.length q1)) 67)
            have HQ := Lib.hid (fun k hk => (show w.heap.size ≤ k from S3a.nthPast 0 _ rfl k hk))
            clear S3a hb3 hn3 o1 HC S1
            obtain ⟨k0, k1, k2, k3⟩ := (S3.out.box 3 _ _ rfl).fourFi
            have HK3 := Lib.hid (HK.out _ S3.out.below)
            go_wp2_with fail
            refine HK3.out.mono ?_
            rintro e w4 ⟨rfl, hb4⟩
            have S4 := Lib.hid (show St w w4 [boxT w3.heap.size (fiL f s c (.slice A1 l.length q1)), lsT 1 (.slice A1 l.length q1) (l.map txC), boxT (w.heap.size + 1) [.int .i64 0, .int .i64 0, .int .i64 0, .slice none 0 0], boxT w.heap.size (fiL f s c (.slice A l.length q))] from S3.out.more hb4)
            clear S3 hb4 k0 k1 k2 k3 HK3 HK
            generalize w3.heap.size = gh at *
            obtain ⟨k0, k1, k2, k3⟩ := (S4.out.box 3 _ _ rfl).fourFi
            obtain ⟨h0, h1, h2, h3⟩ := (S4.out.box 0 _ _ rfl).fourFi
            obtain ⟨r0, r1, r2, r3⟩ := (S4.out.box 2 _ _ rfl).fourFi
            have ri := (S4.out.box 2 _ _ rfl).ice
            have hi := (S4.out.box 0 _ _ rfl).ice
            go_wp2_with fail
            refine (HDS.out _).mono ?_
            rintro e w5 ⟨rfl, hb5⟩
            have S5 := Lib.hid (S4.out.more hb5)
            clear S4 hb5 k0 k1 k2 k3 h0 h1 h2 h3 r0 r1 r2 r3 ri hi HDS
            obtain ⟨k0, k1, k2, k3⟩ := (S5.out.box 3 _ _ rfl).fourFi
            obtain ⟨h0, h1, h2, h3⟩ := (S5.out.box 0 _ _ rfl).fourFi
            obtain ⟨r0, r1, r2, r3⟩ := (S5.out.box 2 _ _ rfl).fourFi
            have ri := (S5.out.box 2 _ _ rfl).ice
            have hi := (S5.out.box 0 _ _ rfl).ice
            go_wp2_with fail
            refine (HDE.out _).mono ?_
            rintro e w6 ⟨rfl, hb6⟩
            have S6 := Lib.hid (S5.out.more hb6)
            clear S5 hb6 k0 k1 k2 k3 h0 h1 h2 h3 r0 r1 r2 r3 ri hi HDE
            obtain ⟨k0, k1, k2, k3⟩ := (S6.out.box 3 _ _ rfl).fourFi
            obtain ⟨h0, h1, h2, h3⟩ := (S6.out.box 0 _ _ rfl).fourFi
            obtain ⟨r0, r1, r2, r3⟩ := (S6.out.box 2 _ _ rfl).fourFi
            have ri := (S6.out.box 2 _ _ rfl).ice
            have hi := (S6.out.box 0 _ _ rfl).ice
            have S9 := Lib.hid (S6.out.setAll 2 _ _ rfl [.int .i64 f, .int .i64 s, .int .i64 c, (.slice A1 l.length q1)] rfl)
            clear S6
            go_wp2
            show bodyPost Try.prog Try.f29 _ Exit.ret _ (w6.setCells (w.heap.size + 1) 0 [.int .i64 f, .int .i64 s, .int .i64 c, (.slice A1 l.length q1)])
            generalize (w6.setCells (w.heap.size + 1) 0 [.int .i64 f, .int .i64 s, .int .i64 c, (.slice A1 l.length q1)]) = WE at *
            obtain ⟨c0, c1, c2, c3⟩ := (S9.out.box 2 _ _ rfl).fourFi
            refine bodyPost_ret_by (v := .agg #[.int .i64 f, .int .i64 s, .int .i64 c, (.slice A1 l.length q1)]) ?_ rfl ⟨_, rfl, ?_, fun k hk => ?_, S9.out.below⟩
            · simp [results, Try.f29, go_sem, c0, c1, c2, c3]
            · rw [HV.out]
              exact ⟨_, q1, rfl, S9.out.ls 1 _ _ _ rfl⟩
            · exact HQ.out k (blkFi_iff.1 hk)
          · obtain ⟨rfl, hB⟩ := hB
            have hf1 : (x1 == f) = false := by simp; omega
            clear hok hl25
            go_enter Try.func29, Try.ntmps29
            go_wp2_with fail
            refine HC.out.mono ?_
            rintro e w3 ⟨v3, rfl, hp3, hn3, hb3⟩
            obtain ⟨A1, q1, rfl, o1⟩ := hp3
            have S3a := S1.out.add (lsT 1 (.slice A1 l.length q1) (l.map txC)) hb3 o1 (fun k hk => hn3 k (blkFi_iff.2 hk))
            have S3 := Lib.hid (S3a.made (fiL f s c (.slice A1 l.length q1)) 67)
            have HQ := Lib.hid (fun k hk => (show w.heap.size ≤ k from S3a.nthPast 0 _ rfl k hk))
            clear S3a hb3 hn3 o1 HC S1
            obtain ⟨k0, k1, k2, k3⟩ := (S3.out.box 3 _ _ rfl).fourFi
            have HK3 := Lib.hid (HK.out _ S3.out.below)
            go_wp2_with fail
            refine HK3.out.mono ?_
            rintro e w4 ⟨rfl, hb4⟩
            have S4 := Lib.hid (show St w w4 [boxT w3.heap.size (fiL f s c (.slice A1 l.length q1)), lsT 1 (.slice A1 l.length q1) (l.map txC), boxT (w.heap.size + 1) [.int .i64 0, .int .i64 0, .int .i64 0, .slice none 0 0], boxT w.heap.size (fiL f s c (.slice A l.length q))] from S3.out.more hb4)
            clear S3 hb4 k0 k1 k2 k3 HK3 HK
            generalize w3.heap.size = gh at *
            obtain ⟨k0, k1, k2, k3⟩ := (S4.out.box 3 _ _ rfl).fourFi
            obtain ⟨h0, h1, h2, h3⟩ := (S4.out.box 0 _ _ rfl).fourFi
            obtain ⟨r0, r1, r2, r3⟩ := (S4.out.box 2 _ _ rfl).fourFi
            have ri := (S4.out.box 2 _ _ rfl).ice
            have hi := (S4.out.box 0 _ _ rfl).ice
            go_wp2_with fail
            refine (HDS.out _).mono ?_
            rintro e w5 ⟨rfl, hb5⟩
            have S5 := Lib.hid (S4.out.more hb5)
            clear S4 hb5 k0 k1 k2 k3 h0 h1 h2 h3 r0 r1 r2 r3 ri hi HDS
            obtain ⟨k0, k1, k2, k3⟩ := (S5.out.box 3 _ _ rfl).fourFi
            obtain ⟨h0, h1, h2, h3⟩ := (S5.out.box 0 _ _ rfl).fourFi
            obtain ⟨r0, r1, r2, r3⟩ := (S5.out.box 2 _ _ rfl).fourFi
            have ri := (S5.out.box 2 _ _ rfl).ice
            have hi := (S5.out.box 0 _ _ rfl).ice
            go_wp2_with fail
            refine (HDE.out _).mono ?_
            rintro e w6 ⟨rfl, hb6⟩
            have S6 := Lib.hid (S5.out.more hb6)
            clear S5 hb6 k0 k1 k2 k3 h0 h1 h2 h3 r0 r1 r2 r3 ri hi HDE
            obtain ⟨k0, k1, k2, k3⟩ := (S6.out.box 3 _ _ rfl).fourFi
            obtain ⟨h0, h1, h2, h3⟩ := (S6.out.box 0 _ _ rfl).fourFi
            obtain ⟨r0, r1, r2, r3⟩ := (S6.out.box 2 _ _ rfl).fourFi
            have ri := (S6.out.box 2 _ _ rfl).ice
            have hi := (S6.out.box 0 _ _ rfl).ice
            have S9 := Lib.hid (S6.out.setAll 2 _ _ rfl [.int .i64 f, .int .i64 s, .int .i64 c, (.slice A1 l.length q1)] rfl)
            clear S6
            go_wp2
            show bodyPost Try.prog Try.f29 _ Exit.ret _ (w6.setCells (w.heap.size + 1) 0 [.int .i64 f, .int .i64 s, .int .i64 c, (.slice A1 l.length q1)])
            generalize (w6.setCells (w.heap.size + 1) 0 [.int .i64 f, .int .i64 s, .int .i64 c, (.slice A1 l.length q1)]) = WE at *
            obtain ⟨c0, c1, c2, c3⟩ := (S9.out.box 2 _ _ rfl).fourFi
            refine bodyPost_ret_by (v := .agg #[.int .i64 f, .int .i64 s, .int .i64 c, (.slice A1 l.length q1)]) ?_ rfl ⟨_, rfl, ?_, fun k hk => ?_, S9.out.below⟩
            · simp [results, Try.f29, go_sem, c0, c1, c2, c3]
            · rw [HV.out]
              exact ⟨_, q1, rfl, S9.out.ls 1 _ _ _ rfl⟩
            · exact HQ.out k (blkFi_iff.1 hk)
          · obtain ⟨rfl, hB1, hB2⟩ := hB
            obtain ⟨k, _, _, h9⟩ := hok rfl
            cases h9
  · rw [fiB_no hfo] at HK
    have HV := Lib.hid (HP4.out hfo)
    clear HP1 HP2 HP3 HP4 hfo hok HDS HDE
    go_enter Try.func29, Try.ntmps29
    go_wp2_with fail
    refine HC.out.mono ?_
    rintro e w3 ⟨v3, rfl, hp3, hn3, hb3⟩
    obtain ⟨A1, q1, rfl, o1⟩ := hp3
    have S3a := S1.out.add (lsT 1 (.slice A1 l.length q1) (l.map txC)) hb3 o1 (fun k hk => hn3 k (blkFi_iff.2 hk))
    have S3 := Lib.hid (S3a.made (fiL f s c (.slice A1 l.length q1)) 67)
    have HQ := Lib.hid (fun k hk => (show w.heap.size ≤ k from S3a.nthPast 0 _ rfl k hk))
    clear S3a hb3 hn3 o1 HC S1
    obtain ⟨k0, k1, k2, k3⟩ := (S3.out.box 3 _ _ rfl).fourFi
    have HK3 := Lib.hid (HK.out _ S3.out.below)
    go_wp2_with fail
    refine HK3.out.mono ?_
    rintro e w4 ⟨rfl, hb4⟩
    have S4 := Lib.hid (show St w w4 [boxT w3.heap.size (fiL f s c (.slice A1 l.length q1)), lsT 1 (.slice A1 l.length q1) (l.map txC), boxT (w.heap.size + 1) [.int .i64 0, .int .i64 0, .int .i64 0, .slice none 0 0], boxT w.heap.size (fiL f s c (.slice A l.length q))] from S3.out.more hb4)
    clear S3 hb4 k0 k1 k2 k3 HK3 HK
    generalize w3.heap.size = gh at *
    obtain ⟨k0, k1, k2, k3⟩ := (S4.out.box 3 _ _ rfl).fourFi
    obtain ⟨h0, h1, h2, h3⟩ := (S4.out.box 0 _ _ rfl).fourFi
    obtain ⟨r0, r1, r2, r3⟩ := (S4.out.box 2 _ _ rfl).fourFi
    have ri := (S4.out.box 2 _ _ rfl).ice
    have hi := (S4.out.box 0 _ _ rfl).ice
    have S9 := Lib.hid (S4.out.setAll 2 _ _ rfl [.int .i64 f, .int .i64 s, .int .i64 c, (.slice A1 l.length q1)] rfl)
    clear S4
    go_wp2
    show bodyPost Try.prog Try.f29 _ Exit.ret _ (w4.setCells (w.heap.size + 1) 0 [.int .i64 f, .int .i64 s, .int .i64 c, (.slice A1 l.length q1)])
    generalize (w4.setCells (w.heap.size + 1) 0 [.int .i64 f, .int .i64 s, .int .i64 c, (.slice A1 l.length q1)]) = WE at *
    obtain ⟨c0, c1, c2, c3⟩ := (S9.out.box 2 _ _ rfl).fourFi
    refine bodyPost_ret_by (v := .agg #[.int .i64 f, .int .i64 s, .int .i64 c, (.slice A1 l.length q1)]) ?_ rfl ⟨_, rfl, ?_, fun k hk => ?_, S9.out.below⟩
    · simp [results, Try.f29, go_sem, c0, c1, c2, c3]
    · rw [HV.out]
      exact ⟨_, q1, rfl, S9.out.ls 1 _ _ _ rfl⟩
    · exact HQ.out k (blkFi_iff.1 hk)

end Go.Proofs.Ytckofkdeedbbgaa
