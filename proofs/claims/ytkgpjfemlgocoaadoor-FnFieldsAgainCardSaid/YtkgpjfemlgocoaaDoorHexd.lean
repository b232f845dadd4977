/- What this text proves: the contracts of DecodeHex: program and model both return, for every text, the bytes that its pairs of digits stand for, or nothing if one of them is no digit or the length does not fit. -/
import Derived.Test.YtkgpjfemlgocoaaDoorBuf
import Derived.Test.YtkgpjfemlgocoaaDoorByte
import Derived.Test.YtkgpjfemlgocoaaDoorMath
import Derived.Lib.Bytealg
namespace Go.Proofs.YtkgpjfemlgocoaaDoor
open Go.ChangeShapes Go.WideShapes Go.ChangeAt Go.RowKit
set_option linter.unusedVariables false

/-- The value of a digit; -1 for other bytes. -/
def hexV (c : Nat) : Int := if 48 ≤ c ∧ c ≤ 57 then (c : Int) - 48 else if 97 ≤ c ∧ c ≤ 102 then (c : Int) - 87 else -1
theorem hexV_le (c : Nat) : -1 ≤ hexV c ∧ hexV c ≤ 15 := by unfold hexV; split <;> (try split) <;> omega
theorem index_hex : ∀ c : Fin 256, Lib.indexByte [48, 49, 50, 51, 52, 53, 54, 55, 56, 57, 97, 98, 99, 100, 101, 102] (UInt8.ofNat c.val) = hexV c.val := by decide +kernel

theorem lite_any (s : ByteArray) (c : Int) (w : World) :
    Calls Tryd.prog 37 #[.string s, .int .u8 c] w fun e w' => e = .returned (.int .i64 (Lib.indexByte s.data.toList c.toNat.toUInt8)) ∧ w = w' := by
  go_enter Tryd.func37, Tryd.ntmps37
  go_wp2
  rw [run_callFunc_extern Tryd.func45 (by kernel_rfl) (by kernel_rfl) (by kernel_rfl) (e := Extern.BytealgIndexByte.indexByte) (by kernel_rfl), Lib.run_indexByteString]
  simp only [Result.andThen]
  rw [Oper.upon_value]
  go_wp2
  go_ret
  exact ⟨rfl, rfl⟩

def digits : ByteArray := ⟨#[48, 49, 50, 51, 52, 53, 54, 55, 56, 57, 97, 98, 99, 100, 101, 102]⟩
theorem index_any (c : Nat) (hc : c < 256) (w : World) :
    Calls Tryd.prog 29 #[.string ⟨#[48, 49, 50, 51, 52, 53, 54, 55, 56, 57, 97, 98, 99, 100, 101, 102]⟩, .int .u8 (c : Int)] w fun e w' => e = .returned (.int .i64 (hexV c)) ∧ w = w' := by
  have hl := lite_any digits (c : Int) 
  have hv : Lib.indexByte digits.data.toList (c : Int).toNat.toUInt8 = hexV c := index_hex ⟨c, hc⟩
  rw [hv] at hl
  have HL := Lib.hid hl
  clear hl hv
  go_enter Tryd.func29, Tryd.ntmps29
  go_wp2_with fail
  refine (HL.out _).mono ?_
  rintro e w' ⟨rfl, rfl⟩
  go_wp2
  go_ret
  exact ⟨rfl, rfl⟩

/-- Both digits of a pair are digits. -/
def PairOk (s : ByteArray) (i : Nat) : Prop := 0 ≤ hexV (byteAt s i) ∧ 0 ≤ hexV (byteAt s (i + 1))
def pairB (s : ByteArray) (i : Nat) : UInt8 := UInt8.ofNat (16 * hexV (byteAt s i) + hexV (byteAt s (i + 1))).toNat
/-- The first k bytes. -/
def decB (s : ByteArray) : Nat → List UInt8
  | 0 => []
  | k + 1 => decB s k ++ [pairB s (2 * k)]
theorem decB_len (s : ByteArray) (k : Nat) : (decB s k).length = k := by
  induction k with
  | zero => rfl
  | succ k ih => simp [decB, ih]
theorem pairB_val (s : ByteArray) (i : Nat) (h : PairOk s i) : ((pairB s i).toNat : Int) = 16 * hexV (byteAt s i) + hexV (byteAt s (i + 1)) := by
  unfold pairB
  have h1 := hexV_le (byteAt s i)
  have h2 := hexV_le (byteAt s (i + 1))
  have h3 := h.1
  have h4 := h.2
  rw [UInt8.toNat_ofNat']
  omega
def DecOk (s : ByteArray) : Prop := s.size % 2 = 0 ∧ s.size ≤ 40000 ∧ ∀ k, k < s.size / 2 → PairOk s (2 * k)
/-- What DecodeHex returns. -/
noncomputable def decV (s : ByteArray) : ByteArray × Bool := open Classical in if DecOk s then (⟨(decB s (s.size / 2)).toArray⟩, true) else (⟨#[]⟩, false)
theorem decV_yes {s : ByteArray} (h : DecOk s) : decV s = (⟨(decB s (s.size / 2)).toArray⟩, true) := by unfold decV; rw [if_pos h]
theorem decV_no {s : ByteArray} (h : ¬ DecOk s) : decV s = (⟨#[]⟩, false) := by unfold decV; rw [if_neg h]
def retD (p : ByteArray × Bool) : Ending := .returned (.tuple #[.string p.1, .bool p.2])

theorem or_nib (H L : Int) (h0 : 0 ≤ H) (h1 : H ≤ 15) (l0 : 0 ≤ L) (l1 : L ≤ 15) : bits .or .i64 (H * 16) L = H * 16 + L :=
  bits_join .i64 63 (by decide) wraps_i64 4 _ _ (by omega) (by omega) (by omega) l0 (by omega) (by omega)
def madeB (n : Nat) : Array Value := madeCells (Value.int .u8 0).cells n
theorem madeB_size (n : Nat) : (madeB n).size = n := size_madeCells _ _
theorem make_bytes (W : World) (n : Nat) (hn : n ≤ 1099511627776) :
    (Instr.makeSlice 27 (.int .i64 0) (.int .i64 (n : Int))).run Tryd.prog W = .ok (.slice (some ⟨W.heap.size, 0, none⟩) 0 n) (W.alloc (.cells (madeB n) 5)) := by
  obtain ⟨i, hi, hz0, hz1, hz2⟩ := info_parts info_u8
  have h := run_make (P := Tryd.prog) W 27 5 i (.int .u8 0) Tryd.underlying27 hi hz0 .i64 .i64 0 n (by omega) (by omega) (by rw [hz2]; omega) (by omega)
  rw [hz1] at h
  simpa [madeB] using h

set_option maxHeartbeats 2000000 in
theorem dec_impl (s : ByteArray) (hs : s.size ≤ 1048576) (w : World) :
    Calls Tryd.prog 15 #[.string s] w fun e w' => e = retD (decV s) ∧ Below w.heap.size w w' := by
  by_cases h1 : 40000 < s.size
  · by_cases h2 : s.size % 2 = 0
    · have d2 : ((s.size : Int) % 2 != 0) = false := by simp; omega
      have d1 : decide ((20000 : Int) < (s.size : Int) / 2) = true := by simp; omega
      have HV := Lib.hid (decV_no (s := s) (fun h => by have := h.2.1; omega))
      go_enter Tryd.func15, Tryd.ntmps15
      go_wp2
      go_ret2
      exact ⟨by rw [HV.out]; rfl, Below.refl _ _⟩
    · have d2 : ((s.size : Int) % 2 != 0) = true := by simp; omega
      have HV := Lib.hid (decV_no (s := s) (fun h => by have := h.1; omega))
      go_enter Tryd.func15, Tryd.ntmps15
      go_wp2
      go_ret2
      exact ⟨by rw [HV.out]; rfl, Below.refl _ _⟩
  · by_cases h2 : s.size % 2 = 0
    · have d2 : ((s.size : Int) % 2 != 0) = false := by simp; omega
      have d1 : decide ((20000 : Int) < (s.size : Int) / 2) = false := by simp; omega
      have hmk : ∀ W : World, (Instr.makeSlice 27 (.int .i64 0) (.int .i64 ((s.size : Int) / 2))).run Tryd.prog W = .ok (.slice (some ⟨W.heap.size, 0, none⟩) 0 (s.size / 2)) (W.alloc (.cells (madeB (s.size / 2)) 5)) := fun W => by
        rw [show (s.size : Int) / 2 = ((s.size / 2 : Nat) : Int) from by omega]
        exact make_bytes W (s.size / 2) (by omega)
      have hsm : s.size ≤ 40000 := by omega
      have hmod := Lib.hid h2
      clear h2 h1
      go_enter Tryd.func15, Tryd.ntmps15
      go_wp2
      go_loopw [4, 5] (fun v i wr => ∃ k : Nat, 2 * k ≤ s.size ∧ i = .int .i64 ((2 * k : Nat) : Int) ∧ OwnB wr w.heap.size v (decB s k) ∧ Below w.heap.size w wr ∧ ∀ j, j < k → PairOk s (2 * j)) (fun _ i _ => s.size - (intOf i).toNat)
      case atStart => exact ⟨0, by omega, rfl, OwnB.made w _ _ (Nat.le_refl _) (by omega) _ (madeB_size _), (Below.refl _ _).alloc (Nat.le_refl _) _, fun j hj => by omega⟩
      case round =>
        obtain ⟨k, hk, rfl, hown, hbel, hall⟩ := hrel
        have Hall := Lib.hid hall
        clear hall
        generalize hie : 2 * k = i at *
        have Hie := Lib.hid hie
        clear hie
        have hsz := hbel.size
        by_cases hlt : i < s.size
        · have hlt1 : i + 1 < s.size := by have := hmod.out; have := Hie.out; omega
          have v0 := Lib.hid (fun w' : World => index_any (s[i].toNat) (UInt8.toNat_lt _) w')
          have v1 := Lib.hid (fun w' : World => index_any (s[i + 1].toNat) (UInt8.toNat_lt _) w')
          have bH := hexV_le (s[i].toNat)
          have bL := hexV_le (s[i + 1].toNat)
          have eH := byteAt_of s i hlt
          have eL := byteAt_of s (i + 1) hlt1
          have eP := pairB_val s i
          have nP : ¬ (0 ≤ hexV (s[i].toNat) ∧ 0 ≤ hexV (s[i + 1].toNat)) → ¬ DecOk s := fun hn h => hn (by
            have h1 := h.2.2 k (by have := Hie.out; omega)
            rw [Hie.out] at h1
            rw [eH, eL]
            exact h1)
          have yP : 0 ≤ hexV (s[i].toNat) ∧ 0 ≤ hexV (s[i + 1].toNat) → PairOk s i := fun h => by rw [eH, eL] at h; exact h
          rw [← eH, ← eL] at eP
          clear eH eL
          generalize hexV (s[i].toNat) = H at *
          generalize hexV (s[i + 1].toNat) = L at *
          have NP := Lib.hid nP
          have YP := Lib.hid yP
          have EP := Lib.hid eP
          clear nP yP eP
          by_cases hH : H < 0
          · have dH : decide (H < 0) = true := by simp; omega
            have HV := Lib.hid (decV_no (NP.out (by omega)))
            clear hH
            go_wp2_with fail
            refine (v0.out _).mono ?_
            rintro e w' ⟨rfl, rfl⟩
            go_wp2_with fail
            refine (v1.out _).mono ?_
            rintro e w' ⟨rfl, rfl⟩
            go_wp2
            go_ret2
            exact ⟨by rw [HV.out]; rfl, hbel⟩
          · have dH : decide (H < 0) = false := by simp; omega
            by_cases hL : L < 0
            · have dL : decide (L < 0) = true := by simp; omega
              have HV := Lib.hid (decV_no (NP.out (by omega)))
              clear hH hL
              go_wp2_with fail
              refine (v0.out _).mono ?_
              rintro e w' ⟨rfl, rfl⟩
              go_wp2_with fail
              refine (v1.out _).mono ?_
              rintro e w' ⟨rfl, rfl⟩
              go_wp2
              go_ret2
              exact ⟨by rw [HV.out]; rfl, hbel⟩
            · have dL : decide (L < 0) = false := by simp; omega
              have hH0 : 0 ≤ H := by omega
              have hL0 : 0 ≤ L := by omega
              have hP := YP.out ⟨hH0, hL0⟩
              have eP := EP.out hP
              clear hH hL
              have hor := or_nib H L hH0 bH.2 hL0 bL.2
              rw [show 16 * H = H * 16 from by omega] at eP
              have EP2 := Lib.hid eP
              have HP := Lib.hid hP
              clear eP hP
              go_wp2_with fail
              refine (v0.out _).mono ?_
              rintro e w' ⟨rfl, rfl⟩
              go_wp2_with fail
              refine (v1.out _).mono ?_
              rintro e w' ⟨rfl, rfl⟩
              go_wp2_with (at_builtin; refine app_bytes wr rfl _ _ rfl w.heap.size u4 (decB s k) [pairB s i] rfl hown _ _ 1 1 rfl rfl ?c1 ?c2 hsz ?_)
              case c1 => simp only [List.map_cons, List.map_nil, cellB]; rw [EP2.out]
              case c2 => rw [decB_len]; simp only [List.length_cons, List.length_nil]; have := Hie.out; omega
              intro v' w' hown' hbel' hsz'
              go_wp2
              refine ⟨⟨k + 1, by have := Hie.out; omega, ?_, ?_, hbel.trans hbel', fun j hj => ?_⟩, by simp [intOf]; omega⟩
              · rw [show 2 * (k + 1) = i + 2 from by have := Hie.out; omega]
                go_num
              · rw [show decB s (k + 1) = decB s k ++ [pairB s i] from by rw [← Hie.out]; rfl]
                exact hown'
              · by_cases e : j = k
                · rw [e, Hie.out]; exact HP.out
                · exact Hall.out j (by omega)
        · have hcv := conv_bytes wr _ _ _ hown
          have hki : k = s.size / 2 := by have := Hie.out; have := hmod.out; omega
          have HV := Lib.hid (decV_yes (s := s) ⟨hmod.out, hsm, by rw [← hki]; exact Hall.out⟩)
          rw [hki] at hcv
          have hd : decide (i < s.size) = false := by simp; omega
          clear hki hlt
          go_wp2
          go_ret2
          exact ⟨by rw [HV.out]; rfl, hbel⟩
    · have d2 : ((s.size : Int) % 2 != 0) = true := by simp; omega
      have HV := Lib.hid (decV_no (s := s) (fun h => by have := h.1; omega))
      go_enter Tryd.func15, Tryd.ntmps15
      go_wp2
      go_ret2
      exact ⟨by rw [HV.out]; rfl, Below.refl _ _⟩


end Go.Proofs.YtkgpjfemlgocoaaDoor
