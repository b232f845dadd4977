/- What this text proves: the contracts of ParseUint, of the program and of the model: the number from 0 to 1000000000 whose text it is given, or 0 and false. -/
import Derived.Test.YtkgpjfemlgocoaaDoorParm
import Derived.Test.YtkgpjfemlgocoaaDoorByte
import Derived.Stop.LaidErr
import Derived.Lib.AtoiErrMem
import Derived.Lib.AtoiAllCases
namespace Go.Proofs.YtkgpjfemlgocoaaDoor
open Go.ChangeShapes Go.WideShapes Go.ChangeAt Go.RowKit
set_option linter.unusedVariables false

/-- Both errors of the library are there. -/
def Errs (w : World) : Prop := (∃ tp p, w.var? Tryd.prog "strconv.ErrSyntax" = some #[.iface tp p]) ∧ (∃ tp p, w.var? Tryd.prog "strconv.ErrRange" = some #[.iface tp p])
theorem star : "*" ++ "errors.errorString" = "*errors.errorString" := by decide
theorem row_err (u : TypeId) (h : Tryd.prog.typeName? 3 u = some "*errors.errorString") : u = 85 :=
  typeName_ptr_named (nm := "errors.errorString") (by rw [star]; kernel_rfl) (by kernel_rfl) (by decide) u (by rw [star]; exact h)
theorem errs_laid {w : World} {x y z : String × DataW Unit} {r : List (String × DataW Unit)} (h : laidMet Tryd.prog (x :: y :: z :: ("strconv.ErrRange", Rows.laid_strconv_ErrRange) :: ("strconv.ErrSyntax", Rows.laid_strconv_ErrSyntax) :: r) w) : Errs w := by
  have h3 := h.tail.tail.tail
  have h4 := h3.tail
  obtain ⟨a0, s0, e0, _, _, _⟩ := laid_sentinel h4 (show Tryd.prog.globalNamed "strconv.ErrSyntax" = some 0 by kernel_rfl) (show (Tryd.prog.globals[0]?).map (·.type) = some 39 by kernel_rfl) Tryd.underlying39 row_err Tryd.underlying85 Tryd.underlying87 rfl rfl Tryd.underlying9 (by kernel_rfl) (by kernel_rfl)
  obtain ⟨a1, s1, e1, _, _, _⟩ := laid_sentinel h3 (show Tryd.prog.globalNamed "strconv.ErrRange" = some 1 by kernel_rfl) (show (Tryd.prog.globals[1]?).map (·.type) = some 39 by kernel_rfl) Tryd.underlying39 row_err Tryd.underlying85 Tryd.underlying87 rfl rfl Tryd.underlying9 (by kernel_rfl) (by kernel_rfl)
  exact ⟨⟨_, _, e0⟩, ⟨_, _, e1⟩⟩
theorem Errs.more {w w' : World} (h : Errs w) (hb : Below w.heap.size w w') : Errs w' := by
  obtain ⟨⟨t0, p0, e0⟩, ⟨t1, p1, e1⟩⟩ := h
  exact ⟨⟨t0, p0, var_more e0 hb⟩, ⟨t1, p1, var_more e1 hb⟩⟩

/-- A number and whether there is one. -/
def retN (r : Int × Bool) : Ending := .returned (.tuple #[.int .i64 r.1, .bool r.2])

theorem same_text (a b : ByteArray) (h : a = b) : (a.toList == b.toList) = true := by rw [h]; exact beq_self_eq_true _
theorem other_text (a b : ByteArray) (h : a ≠ b) : (a.toList == b.toList) = false := by
  refine beq_eq_false_iff_ne.2 fun he => h ?_
  rw [Lib.toList_data, Lib.toList_data] at he
  exact ByteArray.ext (Array.toList_inj.1 he)
theorem byte_mem (s : ByteArray) (j : Nat) (h : j < s.size) : ∃ c ∈ s.data.toList, c.toNat = byteAt s j := by
  have h' : j < s.data.toList.length := by simpa using h
  refine ⟨s.data.toList[j], List.getElem_mem h', ?_⟩
  unfold byteAt
  rw [List.getD_eq_getElem?_getD, List.getElem?_eq_getElem h']
  rfl
theorem dig_take (s : ByteArray) (k : Nat) (hk : k ≤ s.size) (h : ∀ j, j < k → 48 ≤ byteAt s j ∧ byteAt s j ≤ 57) : ∀ c ∈ s.data.toList.take k, isDig c := by
  intro c hc
  obtain ⟨j, hj, e⟩ := List.mem_take_iff_getElem.1 hc
  have h1 := h j (by omega)
  have h2 : j < s.data.toList.length := by omega
  have e2 : byteAt s j = c.toNat := by
    unfold byteAt
    rw [List.getD_eq_getElem?_getD, List.getElem?_eq_getElem h2]
    exact congrArg UInt8.toNat e
  rw [e2] at h1
  exact h1
theorem dec_take (s : ByteArray) (k : Nat) (h : k < s.size) : decF 0 (s.data.toList.take (k + 1)) = decF 0 (s.data.toList.take k) * 10 + (byteAt s k - 48) := by
  have h' : k < s.data.toList.length := by simpa using h
  have e : s.data.toList.take (k + 1) = s.data.toList.take k ++ [s.data.toList[k]] := by
    rw [List.take_add_one, List.getElem?_eq_getElem h']
    rfl
  have e2 : byteAt s k = (s.data.toList[k]).toNat := by
    unfold byteAt
    rw [List.getD_eq_getElem?_getD, List.getElem?_eq_getElem h']
    rfl
  rw [e, decF_app, decF_cons, decF_nil, e2]
theorem dec_small (s : ByteArray) (k : Nat) (hk : k ≤ s.size) (hs : s.size ≤ 10) (h : ∀ j, j < k → 48 ≤ byteAt s j ∧ byteAt s j ≤ 57) : decF 0 (s.data.toList.take k) ≤ 9999999999 := by
  have h1 := decF_lt _ 0 (dig_take s k hk h)
  have h2 : (s.data.toList.take k).length ≤ 10 := by
    rw [List.length_take]
    omega
  have hp : (10 : Nat) ^ (s.data.toList.take k).length ≤ 10 ^ 10 := Nat.pow_le_pow_right (by omega) h2
  omega
theorem not_digit (s : ByteArray) (k : Nat) (hk : k < s.size) (h : byteAt s k < 48 ∨ 57 < byteAt s k) : parseV s = (0, false) := by
  refine parseV_none s fun v h0 h1 he => ?_
  obtain ⟨c, hc, e⟩ := byte_mem s k hk
  have := (fmtB_facts v s h0 h1 he).2.1 c hc
  unfold isDig at this
  omega

set_option maxHeartbeats 4000000 in
theorem parse_spec (s : ByteArray) (hs : s.size ≤ 1048576) (w : World) :
    Calls Tryd.prog 10 #[.string s] w fun e w' => e = retN (parseV s) ∧ Below w.heap.size w w' := by
  by_cases hl : 10 < s.size
  · have hd : decide ((10 : Int) < (s.size : Int)) = true := by simp; omega
    have hp : parseV s = (0, false) := parseV_none s fun v h0 h1 he => by
      have := (fmtB_facts v s h0 h1 he).2.2.1
      rw [← Lib.size_eq] at this
      omega
    rw [hp]
    clear hp
    go_enter Tryd.func10, Tryd.ntmps10
    go_wp2
    go_ret2
    exact ⟨rfl, Below.refl _ _⟩
  · have hd : decide ((10 : Int) < (s.size : Int)) = false := by simp; omega
    go_enter Tryd.func10, Tryd.ntmps10
    go_wp2
    go_loopw [4, 5] (fun vn vi wr => ∃ k : Nat, k ≤ s.size ∧ vi = .int .i64 (k : Int) ∧ vn = .int .i64 ((decF 0 (s.data.toList.take k) : Nat) : Int) ∧ (∀ j, j < k → 48 ≤ byteAt s j ∧ byteAt s j ≤ 57) ∧ Below w.heap.size w wr) (fun _ vi _ => s.size - (intOf vi).toNat)
    case atStart => exact ⟨0, by omega, rfl, rfl, fun j hj => absurd hj (by omega), Below.refl _ _⟩
    case round =>
      obtain ⟨k, hk, rfl, rfl, hdig, hbel⟩ := hrel
      have hN := dec_small s k hk (by omega) hdig
      have HB := Lib.hid hbel
      clear hbel
      by_cases hlt : k < s.size
      · have hd1 : decide (k < s.size) = true := by simp; omega
        have hb : s[k].toNat = byteAt s k := byteAt_of s k hlt
        have hb2 := byteAt_lt s k
        by_cases h48 : byteAt s k < 48
        · have HN := Lib.hid (not_digit s k hlt (.inl h48))
          have hd2 : decide ((byteAt s k : Int) < 48) = true := by simp; omega
          clear hdig
          go_wp2
          go_ret2
          exact ⟨by rw [HN.out]; rfl, HB.out⟩
        · have hd2 : decide ((byteAt s k : Int) < 48) = false := by simp; omega
          by_cases h57 : 57 < byteAt s k
          · have HN := Lib.hid (not_digit s k hlt (.inr h57))
            have hd3 : decide (57 < (byteAt s k : Int)) = true := by simp; omega
            clear hdig
            go_wp2
            go_ret2
            exact ⟨by rw [HN.out]; rfl, HB.out⟩
          · have hd3 : decide (57 < (byteAt s k : Int)) = false := by simp; omega
            have HD := Lib.hid (dec_take s k hlt)
            have HG := Lib.hid hdig
            clear hdig
            generalize decF 0 (s.data.toList.take k) = N at *
            go_wp2
            refine ⟨⟨k + 1, by omega, by go_num, ?_, fun j hj => ?_, HB.out⟩, by simp [intOf]; omega⟩
            · rw [HD.out]
              exact congrArg (Value.int .i64) (by omega)
            · by_cases hjk : j < k
              · exact HG.out j hjk
              · obtain rfl : j = k := by omega
                omega
      · obtain rfl : k = s.size := by omega
        have hd1 : decide (s.size < s.size) = false := by simp
        have htake : s.data.toList.take s.size = s.data.toList := List.take_of_length_le (by rw [← Lib.size_eq]; omega)
        have hp := parseV_digits s (by have := dig_take s s.size hk hdig; rw [htake] at this; exact this) (by rw [← Lib.size_eq]; omega)
        rw [htake] at hN ⊢
        have HP := Lib.hid hp
        clear hdig htake hp
        generalize decF 0 s.data.toList = N at *
        by_cases h1 : 1000000000 < N
        · have hd3 : decide (1000000000 < (N : Int)) = true := by simp; omega
          go_wp2
          go_ret2
          exact ⟨by rw [HP.out, if_neg (by rintro ⟨h, _⟩; omega)]; rfl, HB.out⟩
        · have hd3 : decide (1000000000 < (N : Int)) = false := by simp; omega
          by_cases h2 : fmtB (N : Int) = s
          · have hd2 : ((fmtB (N : Int)).toList == s.toList) = true := same_text _ _ h2
            have HE := Lib.hid h2
            clear h2
            go_wp2_with fail
            refine (format_spec (N : Int) (by omega) (by omega) _).mono ?_
            rintro e w2 ⟨rfl, hb2⟩
            have HB2 := Lib.hid hb2
            clear hb2
            go_wp2
            go_ret2
            exact ⟨by rw [HP.out, if_pos ⟨by omega, HE.out⟩]; rfl, HB.out.trans (HB2.out.mono HB.out.size)⟩
          · have hd2 : ((fmtB (N : Int)).toList == s.toList) = false := other_text _ _ h2
            have HE := Lib.hid h2
            clear h2
            go_wp2_with fail
            refine (format_spec (N : Int) (by omega) (by omega) _).mono ?_
            rintro e w2 ⟨rfl, hb2⟩
            have HB2 := Lib.hid hb2
            clear hb2
            go_wp2
            go_ret2
            exact ⟨by rw [HP.out, if_neg (by rintro ⟨_, h⟩; exact HE.out h)]; rfl, HB.out.trans (HB2.out.mono HB.out.size)⟩
theorem below_atoi (w w' : World) (s : ByteArray) (h : w' = w ∨ ∃ t, w' = Lib.bytesWorld w 5 t) : Below w.heap.size w w' := by
  rcases h with rfl | ⟨t, rfl⟩
  · exact Below.refl _ _
  · exact Lib.bytesWorld_below _ _ _
set_option maxHeartbeats 4000000 in
theorem parse_impl (s : ByteArray) (hs : s.size ≤ 1048576) (w : World) (ht : Tab w) (he : Errs w) :
    Calls Tryd.prog 11 #[.string s] w fun e w' => e = retN (parseV s) ∧ Below w.heap.size w w' := by
  have HT := Lib.hid ht
  clear ht
  cases hA : Lib.atoiAll s.data.toList with
  | «syntax» =>
    obtain ⟨⟨tp, p, hv⟩, _⟩ := he
    have hp : parseV s = (0, false) := by unfold parseV; rw [hA]
    rw [hp]
    have C := Lib.hid (Tryd.strconv_Atoi_syntax_var s (by omega) hA tp p w hv)
    clear hA hp hv
    go_enter Tryd.func11, Tryd.ntmps11
    go_wp2_with fail
    refine C.out.mono ?_
    rintro e w1 ⟨N, rfl, _, _, hb⟩
    go_wp2
    go_ret2
    exact ⟨rfl, hb⟩
  | range =>
    obtain ⟨_, ⟨tp, p, hv⟩⟩ := he
    have hp : parseV s = (0, false) := by unfold parseV; rw [hA]
    rw [hp]
    have C := Lib.hid (Tryd.strconv_Atoi_range_var s (by omega) hA tp p w hv)
    clear hA hp hv
    go_enter Tryd.func11, Tryd.ntmps11
    go_wp2_with fail
    refine C.out.mono ?_
    rintro e w1 ⟨N, rfl, _, _, hb⟩
    go_wp2
    go_ret2
    exact ⟨rfl, hb⟩
  | ok v =>
    obtain ⟨vb0, vb1⟩ := Lib.atoiAll_bounds hA
    have hp : parseV s = if 0 ≤ v ∧ v ≤ 1000000000 ∧ fmtB v = s then (v, true) else (0, false) := by unfold parseV; rw [hA]
    rw [hp]
    have C := Lib.hid (Tryd.strconv_Atoi_ok s (by omega) v hA w)
    clear hA hp he
    by_cases h0 : v < 0
    · have hd : decide (v < 0) = true := by simp; omega
      rw [if_neg (by rintro ⟨h, _⟩; omega)]
      go_enter Tryd.func11, Tryd.ntmps11
      go_wp2_with fail
      refine C.out.mono ?_
      rintro e w1 ⟨rfl, hW⟩
      have hb := below_atoi _ _ s hW
      clear hW
      go_wp2
      go_ret2
      exact ⟨rfl, hb⟩
    · have hd : decide (v < 0) = false := by simp; omega
      by_cases h1 : 1000000000 < v
      · have hd1 : decide (1000000000 < v) = true := by simp; omega
        rw [if_neg (by rintro ⟨_, h, _⟩; omega)]
        go_enter Tryd.func11, Tryd.ntmps11
        go_wp2_with fail
        refine C.out.mono ?_
        rintro e w1 ⟨rfl, hW⟩
        have hb := below_atoi _ _ s hW
        clear hW
        go_wp2
        go_ret2
        exact ⟨rfl, hb⟩
      · have hd1 : decide (1000000000 < v) = false := by simp; omega
        by_cases h2 : fmtB v = s
        · have hd2 : ((fmtB v).toList == s.toList) = true := same_text _ _ h2
          rw [if_pos ⟨by omega, by omega, h2⟩]
          go_enter Tryd.func11, Tryd.ntmps11
          go_wp2_with fail
          refine C.out.mono ?_
          rintro e w1 ⟨rfl, hW⟩
          have hb := below_atoi _ _ s hW
          have hT1 := Lib.hid (HT.out.more hb)
          have HB := Lib.hid hb
          clear hW hb h2
          go_wp2_with fail
          refine (format_impl v vb0 vb1 _ hT1.out).mono ?_
          rintro e w2 ⟨rfl, hb2⟩
          have HB2 := Lib.hid hb2
          clear hb2
          go_wp2
          go_ret2
          exact ⟨rfl, HB.out.trans (HB2.out.mono HB.out.size)⟩
        · have hd2 : ((fmtB v).toList == s.toList) = false := other_text _ _ h2
          rw [if_neg (by rintro ⟨_, _, h⟩; exact h2 h)]
          go_enter Tryd.func11, Tryd.ntmps11
          go_wp2_with fail
          refine C.out.mono ?_
          rintro e w1 ⟨rfl, hW⟩
          have hb := below_atoi _ _ s hW
          have hT1 := Lib.hid (HT.out.more hb)
          have HB := Lib.hid hb
          clear hW hb h2
          go_wp2_with fail
          refine (format_impl v vb0 vb1 _ hT1.out).mono ?_
          rintro e w2 ⟨rfl, hb2⟩
          have HB2 := Lib.hid hb2
          clear hb2
          go_wp2
          go_ret2
          exact ⟨rfl, HB.out.trans (HB2.out.mono HB.out.size)⟩
end Go.Proofs.YtkgpjfemlgocoaaDoor
