/- What this text proves: the parts TcM, Crc, CmBack of the proof, each under its own words. -/
import Derived.Test.YtebfefkknaalpaaDoorV13
import Derived.Test.YtebfefkknaalpaaDoorV10
import Derived.Test.YtebfefkknaalpaaDoorV12
import Derived.Laws.Strings
/- What this text proves: what TakeCommand answers, as numbers, bits and bytes. -/
namespace Go.Proofs.YtebfefkknaalpaaDoor
open Go.ChangeShapes Go.WideShapes Go.ChangeAt Go.RowKit
set_option linter.unusedVariables false

theorem size_of_toList {a b : ByteArray} (h : (a.toList == b.toList) = true) : a = b := by
  have h1 := eq_of_beq h
  rw [Lib.toList_data, Lib.toList_data] at h1
  exact ByteArray.ext (Array.toList_inj.1 h1)
theorem decC_ok {s : ByteArray} {k n : Int} {d : ByteArray} (h : decC s = (k, n, d, true)) : CmOk k n d ∧ s = cmT k n d := by
  obtain ⟨⟨t, b⟩, hP⟩ : ∃ P, openV s = P := ⟨_, rfl⟩
  by_cases hh : b = true ∧ DcOk s t
  · obtain ⟨rfl, h2, h3⟩ := hh
    rw [decC_yes hP ⟨h2, h3⟩] at h
    obtain ⟨rfl, rfl, rfl⟩ : ((byteAt t 0 : Nat) : Int) = k ∧ ((byteAt t 1 : Nat) : Int) = n ∧ t.extract 2 t.size = d := by simpa using h
    have hs := size_of_toList h3
    by_cases hc : CmOk ((byteAt t 0 : Nat) : Int) ((byteAt t 1 : Nat) : Int) (t.extract 2 t.size)
    · exact ⟨hc, hs.symm⟩
    · rw [cmT_no hc] at hs
      have ho : OpenOk s := by
        by_cases ho : OpenOk s
        · exact ho
        · rw [openV_no ho] at hP
          exact absurd (congrArg Prod.snd hP) (by simp)
      have h4 := ho.1
      rw [← hs] at h4
      exact absurd h4 (by decide)
  · rw [decC_no hP hh] at h
    exact absurd (congrArg (fun q => q.2.2.2) h) (by simp)

/-- What TakeCommand answers: Expect, Locked, Again, Taken, the data, whether it is taken. -/
abbrev Tk := Int × Bool × Bool × Int × ByteArray × Bool
def retT (r : Tk) : Ending := .returned (.tuple #[rcV r.1 r.2.1 r.2.2.1 r.2.2.2.1, .string r.2.2.2.2.1, .bool r.2.2.2.2.2])
/-- Of a command of the KindData with number n. -/
def tkD (x : Int) (p q : Bool) (t n : Int) (d : ByteArray) : Tk :=
  if p = true then (x, p, q, t, ⟨#[]⟩, false)
  else if (n - x) % 256 = 0 ∧ t < 1000000 then ((x + 1) % 256, p, false, t + 1, d, true)
  else if 1 ≤ (n - x) % 256 ∧ (n - x) % 256 ≤ 40 then (x, p, true, t, ⟨#[]⟩, false)
  else if 41 ≤ (n - x) % 256 ∧ (n - x) % 256 ≤ 215 then (x, true, q, t, ⟨#[]⟩, false)
  else (x, p, q, t, ⟨#[]⟩, false)
noncomputable def tkC (x : Int) (p q : Bool) (t : Int) (s : ByteArray) : Tk :=
  if (decC s).2.2.2 = true ∧ RcOk x t then (if (decC s).1 = 1 then (x, false, false, t, ⟨#[]⟩, false) else tkD x p q t (decC s).2.1 (decC s).2.2.1)
  else (x, p, q, t, ⟨#[]⟩, false)
theorem tkC_bad {x : Int} {p q : Bool} {t : Int} {s : ByteArray} {k n : Int} {d : ByteArray} {b : Bool} (hd : decC s = (k, n, d, b)) (h : ¬ (b = true ∧ RcOk x t)) : tkC x p q t s = (x, p, q, t, ⟨#[]⟩, false) := by
  unfold tkC; rw [hd, if_neg h]
theorem tkC_unlock {x : Int} {p q : Bool} {t : Int} {s : ByteArray} {n : Int} {d : ByteArray} (hd : decC s = (1, n, d, true)) (h : RcOk x t) : tkC x p q t s = (x, false, false, t, ⟨#[]⟩, false) := by
  unfold tkC; rw [hd, if_pos ⟨rfl, h⟩, if_pos rfl]
theorem tkC_data {x : Int} {p q : Bool} {t : Int} {s : ByteArray} {n : Int} {d : ByteArray} (hd : decC s = (0, n, d, true)) (h : RcOk x t) : tkC x p q t s = tkD x p q t n d := by
  unfold tkC; rw [hd, if_pos ⟨rfl, h⟩, if_neg (fun h => by simp at h)]
theorem tkD_locked {x : Int} {q : Bool} {t n : Int} {d : ByteArray} : tkD x true q t n d = (x, true, q, t, ⟨#[]⟩, false) := by unfold tkD; rw [if_pos rfl]
theorem tkD_take {x : Int} {q : Bool} {t n : Int} {d : ByteArray} (h : (n - x) % 256 = 0 ∧ t < 1000000) : tkD x false q t n d = ((x + 1) % 256, false, false, t + 1, d, true) := by unfold tkD; rw [if_neg (by decide), if_pos h]
theorem tkD_again {x : Int} {q : Bool} {t n : Int} {d : ByteArray} (h : 1 ≤ (n - x) % 256 ∧ (n - x) % 256 ≤ 40) : tkD x false q t n d = (x, false, true, t, ⟨#[]⟩, false) := by unfold tkD; rw [if_neg (by decide), if_neg (fun h1 => by omega), if_pos h]
theorem tkD_lock {x : Int} {q : Bool} {t n : Int} {d : ByteArray} (h : 41 ≤ (n - x) % 256 ∧ (n - x) % 256 ≤ 215) : tkD x false q t n d = (x, true, q, t, ⟨#[]⟩, false) := by unfold tkD; rw [if_neg (by decide), if_neg (fun h1 => by omega), if_neg (fun h1 => by omega), if_pos h]
theorem tkD_none {x : Int} {q : Bool} {t n : Int} {d : ByteArray} (h : ¬ ((n - x) % 256 = 0 ∧ t < 1000000)) (h1 : ¬ (1 ≤ (n - x) % 256 ∧ (n - x) % 256 ≤ 40)) (h2 : ¬ (41 ≤ (n - x) % 256 ∧ (n - x) % 256 ≤ 215)) : tkD x false q t n d = (x, false, q, t, ⟨#[]⟩, false) := by unfold tkD; rw [if_neg (by decide), if_neg h, if_neg h1, if_neg h2]

/-- The boxes of a walk over TakeCommand: the receiver, the answer. -/
structure RP (w W : World) (a : List Value) : Prop where
  below : Below w.heap.size w W
  b2 : Box W w.heap.size a
  b4 : Box W (w.heap.size + 1) (rcL 0 false false 0)
theorem RP.start (w : World) (x : Int) (p q : Bool) (t : Int) : RP w ((w.alloc (.cells (rcL x p q t).toArray 31)).alloc (.cells (rcL 0 false false 0).toArray 31)) (rcL x p q t) :=
  ⟨((Below.refl _ w).alloc (Nat.le_refl _) _).alloc (by simp) _, (Box.made w (rcL x p q t) _ _ rfl).alloc _, Box.made _ (rcL 0 false false 0) _ _ (by simp)⟩
theorem RP.more {w W W' : World} {a : List Value} (h : RP w W a) (hb : Below W.heap.size W W') : RP w W' a := ⟨h.below.trans (hb.mono h.below.size), h.b2.more hb, h.b4.more hb⟩
theorem RP.set {w W : World} {a : List Value} (h : RP w W a) (j : Nat) (hj : j < a.length) (v : Value) : RP w (W.setCell ⟨w.heap.size, j, none⟩ v) (a.set j v) :=
  ⟨h.below.setCell (p := ⟨w.heap.size, j, none⟩) (Nat.le_refl _) v, h.b2.set j hj v, h.b4.other (by omega) j v⟩
theorem RP.fin {w W : World} {a : List Value} (h : RP w W a) (ha : a.length = 4) : Below w.heap.size w (W.setCells (w.heap.size + 1) 0 a) ∧ Box (W.setCells (w.heap.size + 1) 0 a) (w.heap.size + 1) a :=
  ⟨below_setCells (by omega) a 0 _ h.below, h.b4.all ha⟩
end Go.Proofs.YtebfefkknaalpaaDoor
/- What this text proves: a sealed text opens as itself, and with one byte changed it does not open: two texts that differ in one byte have different checks. -/
namespace Go.Proofs.YtebfefkknaalpaaDoor
open Go.ChangeShapes Go.WideShapes Go.ChangeAt Go.RowKit
set_option linter.unusedVariables false

theorem odd_xor (a : Nat) (h : a % 2 = 0) : (a ^^^ 4129) % 2 = 1 := by
  have h1 := Nat.xor_mod_two_pow (a := a) (b := 4129) (n := 1)
  simp only [Nat.pow_one] at h1
  rw [h1, h]
  decide
theorem cstep_inj (n m : Nat) (hn : n < 65536) (hm : m < 65536) (h : cstep n = cstep m) : n = m := by
  unfold cstep at h
  by_cases h1 : n &&& 32768 = 0
  · have a1 := top_bit n hn h1
    rw [if_pos h1] at h
    by_cases h2 : m &&& 32768 = 0
    · rw [if_pos h2] at h
      omega
    · rw [if_neg h2] at h
      have := odd_xor (2 * m % 65536) (by omega)
      omega
  · have a1 : 32768 ≤ n := by
      rcases Nat.lt_or_ge n 32768 with h3 | h3
      · have := top_bit2 n hn h1
        have h4 : n &&& 32768 ≤ n := Nat.and_le_left
        omega
      · exact h3
    rw [if_neg h1] at h
    by_cases h2 : m &&& 32768 = 0
    · rw [if_pos h2] at h
      have := odd_xor (2 * n % 65536) (by omega)
      omega
    · have a2 : 32768 ≤ m := by
        rcases Nat.lt_or_ge m 32768 with h3 | h3
        · have := top_bit2 m hm h2
          have h4 : m &&& 32768 ≤ m := Nat.and_le_left
          omega
        · exact h3
      rw [if_neg h2] at h
      have h5 : (2 * n % 65536 ^^^ 4129) ^^^ 4129 = (2 * m % 65536 ^^^ 4129) ^^^ 4129 := by rw [h]
      rw [Nat.xor_assoc, Nat.xor_assoc, Nat.xor_self, Nat.xor_zero, Nat.xor_zero] at h5
      omega
theorem csteps_inj (k n m : Nat) (hn : n < 65536) (hm : m < 65536) (h : csteps k n = csteps k m) : n = m := by
  induction k with
  | zero => exact h
  | succ k ih => exact ih (cstep_inj _ _ (csteps_lt k n hn) (csteps_lt k m hm) h)
theorem xor_cancel {a b c : Nat} (h : a ^^^ c = b ^^^ c) : a = b := by
  have h5 : (a ^^^ c) ^^^ c = (b ^^^ c) ^^^ c := by rw [h]
  rwa [Nat.xor_assoc, Nat.xor_assoc, Nat.xor_self, Nat.xor_zero, Nat.xor_zero] at h5
theorem cfeed_inj (n m b : Nat) (hn : n < 65536) (hm : m < 65536) (hb : b < 256) (h : cfeed n b = cfeed m b) : n = m :=
  xor_cancel (csteps_inj 8 _ _ (cxor_lt n b hn hb) (cxor_lt m b hm hb) h)
theorem cfeed_byte (n b c : Nat) (hn : n < 65536) (hb : b < 256) (hc : c < 256) (h : cfeed n b = cfeed n c) : b = c := by
  have h1 := csteps_inj 8 _ _ (cxor_lt n b hn hb) (cxor_lt n c hn hc) h
  rw [Nat.xor_comm n, Nat.xor_comm n] at h1
  have := xor_cancel h1
  omega
theorem crcL_inj (l : List UInt8) : ∀ n m, n < 65536 → m < 65536 → crcL n l = crcL m l → n = m := by
  induction l with
  | nil => intro n m _ _ h; exact h
  | cons b l ih =>
    intro n m hn hm h
    exact cfeed_inj n m b.toNat hn hm (UInt8.toNat_lt b) (ih _ _ (cfeed_lt n b.toNat hn (UInt8.toNat_lt b)) (cfeed_lt m b.toNat hm (UInt8.toNat_lt b)) h)
theorem crcL_set (l : List UInt8) : ∀ (n j : Nat) (x : UInt8) (hj : j < l.length), n < 65536 → x ≠ l[j] → crcL n (l.set j x) ≠ crcL n l := by
  induction l with
  | nil => intro n j x hj; simp at hj
  | cons b l ih =>
    intro n j x hj hn hx
    cases j with
    | zero =>
      intro h
      have h1 := crcL_inj l _ _ (cfeed_lt n x.toNat hn (UInt8.toNat_lt x)) (cfeed_lt n b.toNat hn (UInt8.toNat_lt b)) h
      exact hx (UInt8.toNat_inj.1 (cfeed_byte n _ _ hn (UInt8.toNat_lt x) (UInt8.toNat_lt b) h1))
    | succ j =>
      exact ih (cfeed n b.toNat) j x (by simpa using hj) (cfeed_lt n b.toNat hn (UInt8.toNat_lt b)) (by simpa using hx)

theorem putS_two (c : Nat) (h : c < 65536) : putS (c : Int) 2 = ⟨(putB c 2).toArray⟩ := by
  unfold putS
  rw [if_pos ⟨by omega, by omega, by omega, by simp; omega⟩]
  rfl
theorem putB_two_inj (c d : Nat) (hc : c < 65536) (hd : d < 65536) (h : putB c 2 = putB d 2) : c = d := by
  simp only [putB, List.cons.injEq] at h
  have h1 := congrArg UInt8.toNat h.1
  have h0 := congrArg UInt8.toNat h.2.1
  rw [byteN_val, byteN_val] at h1 h0
  simp at h1 h0
  omega
theorem sealS_list (s : ByteArray) : (sealS s).data.toList = s.data.toList ++ putB (crc s) 2 := by
  unfold sealS
  rw [putS_two _ (crc_lt s)]
  simp [ByteArray.data_append]
theorem sealS_size (s : ByteArray) : (sealS s).size = s.size + 2 := by
  have h := congrArg List.length (sealS_list s)
  rw [List.length_append, putB_len] at h
  simpa using h
theorem extract_list (s : ByteArray) (k : Nat) : (s.extract 0 k).data.toList = s.data.toList.take k := by simp [ByteArray.data_extract]

theorem open_seal (s : ByteArray) : openV (sealS s) = (s, true) := by
  have hx : (sealS s).extract 0 ((sealS s).size - 2) = s := by
    apply ByteArray.ext
    apply Array.toList_inj.1
    rw [extract_list, sealS_size, sealS_list, show s.size + 2 - 2 = s.data.toList.length from by simp, List.take_left]
  rw [openV_yes ⟨by rw [sealS_size]; omega, by rw [hx]; simp⟩, hx]

theorem open_turned (s t : ByteArray) (j : Nat) (x : UInt8) (hj : j < (sealS s).data.toList.length) (hx : x ≠ (sealS s).data.toList[j]) (ht : t.data.toList = (sealS s).data.toList.set j x) :
    openV t = (⟨#[]⟩, false) := by
  apply openV_no
  rintro ⟨h2, heq⟩
  have hsz : t.size = s.size + 2 := by
    have h := congrArg List.length ht
    rw [List.length_set, sealS_list, List.length_append, putB_len] at h
    simpa using h
  have heq2 : (sealS (t.extract 0 (t.size - 2))).data.toList = t.data.toList := by
    have h := eq_of_beq heq
    rwa [ByteArray.toList_eq, ByteArray.toList_eq] at h
  have hs : s.size = s.data.toList.length := by simp
  rw [sealS_list, extract_list, hsz, show s.size + 2 - 2 = s.size from by omega] at heq2
  by_cases hlt : j < s.size
  · have h1 : t.data.toList = s.data.toList.set j x ++ putB (crc s) 2 := by
      rw [ht, sealS_list, List.set_append_left _ _ (by omega)]
    have h2 : t.data.toList.take s.size = s.data.toList.set j x := by
      rw [h1, List.take_left' (by simp)]
    have hc : crc (t.extract 0 s.size) = crcL 65535 (s.data.toList.set j x) := by
      unfold crc
      rw [extract_list, h2]
    rw [h2, h1] at heq2
    have h3 := List.append_cancel_left heq2
    have h4 := putB_two_inj _ _ (crc_lt _) (crc_lt _) h3
    rw [hc] at h4
    refine crcL_set s.data.toList 65535 j x (by omega) (by decide) ?_ h4
    intro e
    apply hx
    rw [e]
    simp only [sealS_list]
    rw [List.getElem_append_left (by omega)]
  · have h1 : t.data.toList = s.data.toList ++ (putB (crc s) 2).set (j - s.size) x := by
      rw [ht, sealS_list, List.set_append_right _ _ (by omega), ← hs]
    have h2 : t.data.toList.take s.size = s.data.toList := by
      rw [h1, List.take_left' (by simp)]
    have hc : crc (t.extract 0 s.size) = crc s := by
      unfold crc
      rw [extract_list, h2]
    rw [h2, hc, h1] at heq2
    have h3 := List.append_cancel_left heq2
    have hj2 : j - s.size < (putB (crc s) 2).length := by
      rw [sealS_list, List.length_append] at hj
      omega
    apply hx
    have h4 : (putB (crc s) 2)[j - s.size] = x := by
      have h5 : ((putB (crc s) 2).set (j - s.size) x)[j - s.size]'(by rw [List.length_set]; exact hj2) = x := List.getElem_set_self _
      rw [← h5]
      congr 1
    rw [← h4]
    simp only [sealS_list]
    rw [List.getElem_append_right (by omega)]
    congr 1
end Go.Proofs.YtebfefkknaalpaaDoor
/- What this text proves: a command comes back from its bytes, and not from bytes of which one is another. -/
namespace Go.Proofs.YtebfefkknaalpaaDoor
open Go.ChangeShapes Go.WideShapes Go.ChangeAt Go.RowKit
set_option linter.unusedVariables false

theorem byteN_at (n : Nat) (h : n ≤ 255) : (byteN n 0).toNat = n := by
  rw [byteN_val, show n / 256 ^ 0 = n by omega]; omega
theorem cm_text {k q : Nat} {d : ByteArray} (hk : k ≤ 255) (hq : q ≤ 255) : (putS (k : Int) 1 ++ putS (q : Int) 1 ++ d).data.toList = byteN k 0 :: byteN q 0 :: d.data.toList := by
  rw [putS_one (by omega), putS_one (by omega)]
  simp [ByteArray.data_append]
theorem decC_back {k q : Nat} {d : ByteArray} (h : CmOk (k : Int) (q : Int) d) : decC (cmT (k : Int) (q : Int) d) = ((k : Int), (q : Int), d, true) := by
  have hk : k ≤ 1 := by have := h.1.2; omega
  have hq : q ≤ 255 := by have := h.2.1.2; omega
  have ht := cm_text (d := d) (show k ≤ 255 by omega) hq
  have hT := cmT_yes h
  generalize putS (k : Int) 1 ++ putS (q : Int) 1 ++ d = t at *
  have hsz : t.size = d.size + 2 := by
    have h1 := congrArg List.length ht
    rw [List.length_cons, List.length_cons, Array.length_toList, Array.length_toList] at h1
    exact h1
  have e0 : byteAt t 0 = k := by unfold byteAt; rw [ht]; simpa using byteN_at k (by omega)
  have e1 : byteAt t 1 = q := by unfold byteAt; rw [ht]; simpa using byteN_at q hq
  have e2 : t.extract 2 t.size = d := by
    apply ByteArray.ext
    apply Array.ext'
    rw [hsz, ByteArray.data_extract, Array.toList_extract, ht]
    have hl : d.data.toList.length = d.size := by rw [Array.length_toList]; rfl
    show ((byteN k 0 :: byteN q 0 :: d.data.toList).drop 2).take (d.size + 2 - 2) = d.data.toList
    rw [List.drop_succ_cons, List.drop_succ_cons, List.drop_zero, List.take_of_length_le (by rw [hl]; omega)]
  have ho : openV (cmT (k : Int) (q : Int) d) = (t, true) := by rw [hT]; exact open_seal t
  rw [decC_yes ho ⟨by omega, by rw [e0, e1, e2]; exact beq_self_eq_true _⟩, e0, e1, e2]
theorem decC_turned {k q : Int} {d : ByteArray} (h : CmOk k q d) (t : ByteArray) (j : Nat) (x : UInt8) (hj : j < (cmT k q d).data.toList.length) (hx : x ≠ (cmT k q d).data.toList[j]) (ht : t.data.toList = (cmT k q d).data.toList.set j x) : decC t = (0, 0, ⟨#[]⟩, false) := by
  have hT := cmT_yes h
  simp only [hT] at hj hx ht
  exact decC_no (open_turned _ t j x hj hx ht) (fun h => by cases h.1)
theorem cmT_pos {k q : Int} {d : ByteArray} (h : CmOk k q d) : 0 < (cmT k q d).size ∧ (cmT k q d).size ≤ 50 := by
  rw [cmT_yes h, sealS_size, ByteArray.size_append, ByteArray.size_append]
  have h1 := putS_four_le k 1
  have h2 := putS_four_le q 1
  have h3 := h.2.2
  omega
end Go.Proofs.YtebfefkknaalpaaDoor
