/- What this text proves: the contracts of the model's EncodeCommand and of the program's: the bytes of a command. -/
import Derived.Test.YtmmedhjmilgnbaaDoorSeal
import Derived.Test.YtmmedhjmilgnbaaDoorPktE
import Derived.Test.YtmmedhjmilgnbaaDoorISq
import Derived.Lib.AppendStr
namespace Go.Proofs.YtmmedhjmilgnbaaDoor
open Go.ChangeShapes Go.WideShapes Go.ChangeAt Go.RowKit
set_option linter.unusedVariables false

def CmOk (k q : Int) (d : ByteArray) : Prop := (0 ≤ k ∧ k ≤ 1) ∧ (0 ≤ q ∧ q ≤ 255) ∧ d.size ≤ 40
instance (k q : Int) (d : ByteArray) : Decidable (CmOk k q d) := by unfold CmOk; infer_instance
/-- What EncodeCommand returns. -/
noncomputable def cmT (k q : Int) (d : ByteArray) : ByteArray := if CmOk k q d then sealS (putS k 1 ++ putS q 1 ++ d) else ⟨#[]⟩
theorem cmT_yes {k q : Int} {d : ByteArray} (h : CmOk k q d) : cmT k q d = sealS (putS k 1 ++ putS q 1 ++ d) := by unfold cmT; rw [if_pos h]
theorem cmT_no {k q : Int} {d : ByteArray} (h : ¬ CmOk k q d) : cmT k q d = ⟨#[]⟩ := by unfold cmT; rw [if_neg h]
theorem putS_one {n : Int} (h : 0 ≤ n ∧ n ≤ 255) : putS n 1 = ⟨#[byteN n.toNat 0]⟩ := by
  unfold putS
  rw [if_pos ⟨by decide, by decide, h.1, by simp; omega⟩]
  rfl

set_option maxHeartbeats 2000000 in
theorem encC_spec (k q : Int) (d : ByteArray) (hd : d.size ≤ 1100000) (w : World) :
    Calls Tryd.prog 42 #[.int .i64 k, .int .i64 q, .string d] w fun e w' => e = .returned (.string (cmT k q d)) ∧ Below w.heap.size w w' := by
  by_cases h1 : 0 ≤ k ∧ k ≤ 1
  · have H1 := Lib.hid (in_yes k 0 1 h1.1 h1.2)
    by_cases h2 : 0 ≤ q ∧ q ≤ 255
    · have H2 := Lib.hid (in_yes q 0 255 h2.1 h2.2)
      by_cases h3 : d.size ≤ 40
      · have d3 : decide (40 < d.size) = false := by simp; omega
        have d3' : decide ((40 : Int) < (d.size : Int)) = false := by simp; omega
        have HV := Lib.hid (cmT_yes (k := k) (q := q) (d := d) ⟨h1, h2, h3⟩)
        have HA := Lib.hid (put_spec k 1)
        have HB := Lib.hid (put_spec q 1)
        have zA := putS_four_le k 1
        have zB := putS_four_le q 1
        have HC := Lib.hid (seal_spec (putS k 1 ++ putS q 1 ++ d) (by rw [ByteArray.size_append, ByteArray.size_append]; omega))
        generalize sealS (putS k 1 ++ putS q 1 ++ d) = T at *
        generalize putS k 1 = X at *
        generalize putS q 1 = Y at *
        have b1 : ¬ 9223372036854775807 < X.size + Y.size := by omega
        have b2 : ¬ 9223372036854775807 < X.size + Y.size + d.size := by omega
        clear h1 h2 h3
        go_enter Tryd.func42, Tryd.ntmps42
        go_wp2_with fail
        refine (H1.out _).mono ?_
        rintro e w' ⟨rfl, rfl⟩
        go_wp2_with fail
        refine (H2.out _).mono ?_
        rintro e w' ⟨rfl, rfl⟩
        go_wp2_with fail
        refine (HA.out _).mono ?_
        rintro e w1 ⟨rfl, hb1⟩
        have W1 := Lib.hid hb1
        clear hb1
        go_wp2_with fail
        refine (HB.out _).mono ?_
        rintro e w2 ⟨rfl, hb2⟩
        have W2 := Lib.hid (W1.out.trans (hb2.mono W1.out.size))
        clear hb2
        go_wp2_with fail
        refine (HC.out _).mono ?_
        rintro e w3 ⟨rfl, hb3⟩
        have W3 := Lib.hid (W2.out.trans (hb3.mono W2.out.size))
        clear hb3
        go_wp2
        go_ret
        exact ⟨by rw [HV.out]; rfl, W3.out⟩
      · have d3 : decide (40 < d.size) = true := by simp; omega
        have d3' : decide ((40 : Int) < (d.size : Int)) = true := by simp; omega
        have HV := Lib.hid (cmT_no (k := k) (q := q) (d := d) (fun h => h3 h.2.2))
        clear h1 h2 h3
        go_enter Tryd.func42, Tryd.ntmps42
        go_wp2_with fail
        refine (H1.out _).mono ?_
        rintro e w' ⟨rfl, rfl⟩
        go_wp2_with fail
        refine (H2.out _).mono ?_
        rintro e w' ⟨rfl, rfl⟩
        go_wp2
        go_ret
        exact ⟨by rw [HV.out]; rfl, Below.refl _ _⟩
    · have H2 := Lib.hid (in_no q 0 255 h2)
      have HV := Lib.hid (cmT_no (k := k) (q := q) (d := d) (fun h => h2 h.2.1))
      clear h1 h2
      go_enter Tryd.func42, Tryd.ntmps42
      go_wp2_with fail
      refine (H1.out _).mono ?_
      rintro e w' ⟨rfl, rfl⟩
      go_wp2_with fail
      refine (H2.out _).mono ?_
      rintro e w' ⟨rfl, rfl⟩
      go_wp2
      go_ret
      exact ⟨by rw [HV.out]; rfl, Below.refl _ _⟩
  · have H1 := Lib.hid (in_no k 0 1 h1)
    have HV := Lib.hid (cmT_no (k := k) (q := q) (d := d) (fun h => h1 h.1))
    clear h1
    go_enter Tryd.func42, Tryd.ntmps42
    go_wp2_with fail
    refine (H1.out _).mono ?_
    rintro e w' ⟨rfl, rfl⟩
    go_wp2
    go_ret
    exact ⟨by rw [HV.out]; rfl, Below.refl _ _⟩
theorem seal_bytes (base : Nat) (v : Value) (l : List UInt8) (hl : l.length ≤ 1048576) (w : World) (h : OwnB w base v l) :
    Calls Tryd.prog 32 #[v] w fun e w' => e = .returned (.string (sealS ⟨l.toArray⟩)) ∧ Below w.heap.size w w' := by
  have hcv := conv_bytes w base v l h
  have HS := Lib.hid (seal_impl ⟨l.toArray⟩ (by show l.toArray.size ≤ _; rw [List.size_toArray]; omega))
  generalize (⟨l.toArray⟩ : ByteArray) = t at *
  clear h
  go_enter Tryd.func32, Tryd.ntmps32
  go_wp2_with fail
  refine (HS.out _).mono ?_
  rintro e w' ⟨rfl, hb⟩
  go_wp2
  go_ret
  exact ⟨rfl, hb⟩
theorem own_two (w : World) (a b : Nat) (ha : a ≤ 255) (hb : b ≤ 255) : OwnB (w.alloc (.cells #[.int .u8 (a : Int), .int .u8 (b : Int)] 5)) w.heap.size (.slice (some ⟨w.heap.size, 0, none⟩) 2 2) [byteN a 0, byteN b 0] := by
  have h := World.ownsRow_lit (base := w.heap.size) (e := 5) (size := 1) w #[.int .u8 (a : Int), .int .u8 (b : Int)] 2 (Nat.le_refl _) (by decide) rfl
  have e : ([byteN a 0, byteN b 0].map cellB) = [.int .u8 (a : Int), .int .u8 (b : Int)] := by
    simp only [List.map_cons, List.map_nil, cellB, byteN_val]
    rw [show a / 256 ^ 0 % 256 = a by omega, show b / 256 ^ 0 % 256 = b by omega]
  unfold OwnB
  rw [e]
  exact h
theorem text_two (a b : UInt8) (d : ByteArray) : (⟨([a, b] ++ d.data.toList).toArray⟩ : ByteArray) = ⟨#[a]⟩ ++ ⟨#[b]⟩ ++ d := by
  apply ByteArray.ext
  apply Array.ext'
  simp [ByteArray.data_append]

set_option maxHeartbeats 2000000 in
theorem encC_impl (k q : Int) (d : ByteArray) (hd : d.size ≤ 1100000) (w : World) :
    Calls Tryd.prog 19 #[.int .i64 k, .int .i64 q, .string d] w fun e w' => e = .returned (.string (cmT k q d)) ∧ Below w.heap.size w w' := by
  by_cases h1 : 0 ≤ k ∧ k ≤ 1
  · by_cases h2 : 0 ≤ q ∧ q ≤ 255
    · have H2 := Lib.hid (iq_yes q h2)
      by_cases h3 : d.size ≤ 40
      · have d3 : decide (40 < d.size) = false := by simp; omega
        have d3' : decide ((40 : Int) < (d.size : Int)) = false := by simp; omega
        obtain ⟨K, rfl⟩ := Int.eq_ofNat_of_zero_le h1.1
        obtain ⟨Q, rfl⟩ := Int.eq_ofNat_of_zero_le h2.1
        have hK : (K : Int) ≤ 1 := h1.2
        have hQ : (Q : Int) ≤ 255 := h2.2
        have HV := Lib.hid (show sealS ⟨([byteN K 0, byteN Q 0] ++ d.data.toList).toArray⟩ = cmT (K : Int) (Q : Int) d by
          rw [cmT_yes ⟨h1, h2, h3⟩, putS_one (by omega), putS_one (by omega), text_two]; rfl)
        have HO := Lib.hid (own_two w K Q (by omega) (by omega))
        have HS := Lib.hid (fun v W (h : OwnB W w.heap.size v ([byteN K 0, byteN Q 0] ++ d.data.toList)) => seal_bytes w.heap.size v ([byteN K 0, byteN Q 0] ++ d.data.toList) (by
          have e : d.data.toList.length = d.size := by rw [Array.length_toList]; rfl
          rw [List.length_append, e]; simp; omega) W h)
        obtain ⟨iu, hiu, hz0, hz1, hz2⟩ := info_parts info_u8
        have HI := Lib.hid hiu
        have HZ0 := Lib.hid hz0
        have HZ1 := Lib.hid hz1
        have HZ2 := Lib.hid hz2
        have g1 : ((K : Int) != 0 && (K : Int) != 1) = false := by
          rcases (show K = 0 ∨ K = 1 by omega) with rfl | rfl <;> rfl
        have HW0 := Lib.hid ((Below.refl w.heap.size w).alloc (Nat.le_refl _) (.cells #[.int .u8 (K : Int), .int .u8 (Q : Int)] 5))
        clear hiu hz0 hz1 hz2 h1 h2
        rcases (show K = 0 ∨ K = 1 by omega) with rfl | rfl
        all_goals
          go_enter Tryd.func19, Tryd.ntmps19
          go_wp2_with fail
          refine (H2.out _).mono ?_
          rintro e w' ⟨rfl, rfl⟩
          go_wp2_with (at_builtin; go_loud (refine Lib.wpList_append_own_string _ rfl _ _ 22 9 rfl w.heap.size 5 iu Tryd.underlying22 Tryd.underlying9 HI.out HZ0.out HZ1.out HZ2.out _ _ _ rfl HO.out d rfl (by unfold maxLen; simp; omega) (by simp; omega) (by simp) ?_))
          intro v' w1 hown hg _
          have HO1 := Lib.hid (show OwnB w1 w.heap.size v' ([_, _] ++ d.data.toList) from by
            unfold OwnB
            rw [List.map_append, List.length_append]
            exact hown)
          have HW1 := Lib.hid (HW0.out.grown hg (by simp) fun k hk => (World.ownsRow.lt HO.out k hk).1)
          clear hown hg
          go_wp2_with fail
          refine (HS.out _ _ HO1.out).mono ?_
          rintro e w2 ⟨rfl, hb2⟩
          have HW2 := Lib.hid (HW1.out.trans (hb2.mono HW1.out.size))
          clear hb2
          go_wp2
          go_ret
          exact ⟨by rw [← HV.out]; rfl, HW2.out⟩
      · have d3 : decide (40 < d.size) = true := by simp; omega
        have d3' : decide ((40 : Int) < (d.size : Int)) = true := by simp; omega
        have HV := Lib.hid (cmT_no (k := k) (q := q) (d := d) (fun h => h3 h.2.2))
        rcases (show k = 0 ∨ k = 1 by omega) with rfl | rfl
        all_goals
          clear h1 h2 h3
          go_enter Tryd.func19, Tryd.ntmps19
          go_wp2_with fail
          refine (H2.out _).mono ?_
          rintro e w' ⟨rfl, rfl⟩
          go_wp2
          go_ret
          exact ⟨by rw [HV.out]; rfl, Below.refl _ _⟩
    · have H2 := Lib.hid (iq_no q h2)
      have HV := Lib.hid (cmT_no (k := k) (q := q) (d := d) (fun h => h2 h.2.1))
      rcases (show k = 0 ∨ k = 1 by omega) with rfl | rfl
      all_goals
        clear h1 h2
        go_enter Tryd.func19, Tryd.ntmps19
        go_wp2_with fail
        refine (H2.out _).mono ?_
        rintro e w' ⟨rfl, rfl⟩
        go_wp2
        go_ret
        exact ⟨by rw [HV.out]; rfl, Below.refl _ _⟩
  · have HV := Lib.hid (cmT_no (k := k) (q := q) (d := d) (fun h => h1 h.1))
    have e0 : (k != 0) = true := by simp; omega
    have e1 : (k != 1) = true := by simp; omega
    clear h1
    go_enter Tryd.func19, Tryd.ntmps19
    go_wp2
    go_ret
    exact ⟨by rw [HV.out]; rfl, Below.refl _ _⟩
end Go.Proofs.YtmmedhjmilgnbaaDoor
