/- What this text proves: the parts InM, InU, Dmi of the proof, each under its own words. -/
import Derived.Test.YtckofkdeedbbgaaV12
import Derived.Test.YtckofkdeedbbgaaV10
import Derived.Test.YtckofkdeedbbgaaV14
import Derived.Test.YtckofkdeedbbgaaV15
import Derived.Test.YtckofkdeedbbgaaV04
/- What this text proves: the contracts of the laws' marks over lists of numbers: marks that were written are found again, and change nothing else. -/
namespace Go.Proofs.Ytckofkdeedbbgaa
open Go.ChangeShapes Go.WideShapes Go.ChangeAt Go.RowKit
set_option linter.unusedVariables false


/-- The mark of the i-th. -/
def mkIn (M i : Nat) : List Value := [.int .i64 ((M : Int) + (i : Int))]

set_option maxHeartbeats 2000000 in
theorem markIn_any (w : World) (base : Nat) (v : Value) (l : List (List Value)) (hl : l.length ≤ 1100000) (M : Nat) (hM1 : 1 ≤ M) (hM : M ≤ 10000000) (hown : LsO 1 w base v l) :
    Calls Try.prog 106 #[v, .int .i64 (M : Int)] w fun e w' => e = .returned (.int .i64 ((M : Int) + (l.length : Int))) ∧ w.grownBy w' v.ownBlock ∧ LsO 1 w' base v ((List.range l.length).map (mkIn M)) := by
  obtain ⟨A1, cp, rfl⟩ := hown.form
  rcases Nat.eq_zero_or_pos l.length with h0 | h0
  · have hl0 : l = [] := List.eq_nil_of_length_eq_zero h0
    subst hl0
    go_enter Try.func106, Try.ntmps106
    go_wp2
    refine wp_loop_rounds 1 ?_
    rw [rounds_succ]
    go_wp2
    go_ret
    exact ⟨by simp, grown_of (Below.refl _ _) _, hown⟩
  · obtain ⟨g, off, ⟨d1, e1⟩, _, _⟩ := hown.rows h0
    injection e1 with e1 e1b e1c
    clear e1b e1c
    subst e1
    have P0 := Lib.hid hown
    have HWD := Lib.hid hown.wide
    clear hown
    go_enter Try.func106, Try.ntmps106
    go_wp2
    go_loopg [1, 5] l.length (fun gh v1 v5 wx => ∃ k : Nat, k ≤ l.length ∧ gh = l.length - k ∧ v5 = .int .i64 (k : Int) ∧ v1 = .int .i64 ((M : Int) + (k : Int)) ∧ LsO 1 wx base (.slice (some ⟨g, off, none⟩) l.length cp) (frontOf (mkIn M) l k) ∧ w.grownBy wx (some g))
    case atStart => exact ⟨0, by omega, rfl, rfl, by simp, by rw [frontOf_zero]; exact P0.out, grown_of (Below.refl _ _) _⟩
    case round =>
      obtain ⟨k, hk, rfl, rfl, rfl, hls, hbel⟩ := hrel
      have HB := Lib.hid hbel
      by_cases hlt : k < l.length
      · have hd : decide (k < l.length) = true := by simp; omega
        have hkf : k < (frontOf (mkIn M) l k).length := by rw [frontOf_len _ _ hk]; exact hlt
        have i0 := hls.ice (by omega)
        have HR := Lib.hid (HWD.out _ (List.getElem_mem hlt))
        have HAT := Lib.hid (frontOf_at (mkIn M) l hlt)
        have HFS := Lib.hid (frontOf_set (mkIn M) l hlt)
        obtain ⟨u0, c0'⟩ := hls.has k hkf 0 (by decide)
        have c0 : wr.cell? ⟨g, off + k, none⟩ = some u0 := by rw [Nat.mul_one] at c0'; exact c0'
        have s0 := hls.set k hkf 0 (by decide) (.int .i64 ((M : Int) + (k : Int)))
        have HF := Lib.hid (show LsO 1 (wr.setCell ⟨g, off + k, none⟩ (.int .i64 ((M : Int) + (k : Int)))) base (.slice (some ⟨g, off, none⟩) l.length cp) (frontOf (mkIn M) l (k + 1)) from by
          have h := s0
          rw [Nat.mul_one] at h
          have e : setAt (frontOf (mkIn M) l k) k 0 (.int .i64 ((M : Int) + (k : Int))) = frontOf (mkIn M) l (k + 1) := by
            unfold setAt
            rw [HAT.out, ← HFS.out]
            congr 1
            have hr := HR.out
            match l[k], hr with
            | [_], _ => rfl
          rw [e] at h
          exact h)
        have HG := Lib.hid (grown_store HB.out (j := off + k) (.int .i64 ((M : Int) + (k : Int))))
        clear hls hbel s0 c0'
        go_wp2
        go_roundg (l.length - (k + 1))
        case measure => omega
        case rel => exact ⟨k + 1, by omega, rfl, by go_num, by go_num, HF.out, HG.out⟩
      · have hd : decide (k < l.length) = false := by simp; omega
        obtain rfl : k = l.length := by omega
        rw [frontOf_all] at hls
        clear hlt
        go_wp2
        go_ret
        exact ⟨rfl, HB.out, hls⟩

set_option maxHeartbeats 2000000 in
theorem heldIn_any (w : World) (base M : Nat) (v : Value) (n : Nat) (hn : n ≤ 1100000) (hA : LsO 1 w base v ((List.range n).map (mkIn M))) (hM1 : 1 ≤ M) (hM : M ≤ 10000000) :
    Calls Try.prog 108 #[v, .int .i64 (M : Int)] w fun e w' => e = .returned (.int .i64 ((M : Int) + (n : Int))) ∧ Below w.heap.size w w' := by
  obtain ⟨A, c, rfl⟩ := hA.form
  rw [mark_len] at hA ⊢
  rcases Nat.eq_zero_or_pos n with h0 | h0
  · subst h0
    clear hA
    go_enter Try.func108, Try.ntmps108
    go_wp2
    refine wp_loop_rounds 1 ?_
    rw [rounds_succ]
    go_wp2
    go_ret
    exact ⟨by simp, Below.refl _ _⟩
  · obtain ⟨g, off, ⟨d1, e1⟩, _, _⟩ := hA.rows (by rw [mark_len]; exact h0)
    injection e1 with e1 e1b e1c
    clear e1b e1c
    subst e1
    have HM := Lib.hid (show ∀ k, k < n → w.cell? ⟨g, off + k, none⟩ = some (.int .i64 ((M : Int) + (k : Int))) from fun k hk => by
      have hc := (hA.at rfl (by rw [mark_len]; exact h0)).1
      have h0 := hc k (by rw [mark_len]; exact hk) 0 (by decide)
      simp only [mark_at, Nat.mul_one] at h0
      exact h0)
    clear hA
    go_enter Try.func108, Try.ntmps108
    go_wp2
    go_loopg [1, 5] n (fun gh v1 v5 wx => ∃ k : Nat, k ≤ n ∧ gh = n - k ∧ v5 = .int .i64 (k : Int) ∧ v1 = .int .i64 ((M : Int) + (k : Int)) ∧ w = wx)
    case atStart => exact ⟨0, by omega, rfl, rfl, by simp, rfl⟩
    case round =>
      obtain ⟨k, hk, rfl, rfl, rfl, rfl⟩ := hrel
      by_cases hlt : k < n
      · have hd : decide (k < n) = true := by simp; omega
        have x0 := HM.out k hlt
        go_wp2
        go_roundg (n - (k + 1))
        case measure => omega
        case rel => exact ⟨k + 1, by omega, rfl, by go_num, by go_num, rfl⟩
      · have hd : decide (k < n) = false := by simp; omega
        obtain rfl : k = n := by omega
        clear hlt
        go_wp2
        go_ret
        exact ⟨rfl, Below.refl _ _⟩
end Go.Proofs.Ytckofkdeedbbgaa
/- What this text proves: the laws' own functions over lists of numbers, over things that lie apart. -/
namespace Go.Proofs.Ytckofkdeedbbgaa
open Go.ChangeShapes Go.WideShapes Go.ChangeAt Go.RowKit
set_option linter.unusedVariables false

/-- A list of numbers of its own. -/
def inT (v : Value) (l : List Int) : Thing := lsT 1 v (l.map inC)
/-- A list that bears n marks from M on. -/
def inMk (v : Value) (M n : Nat) : Thing := lsT 1 v ((List.range n).map (mkIn M))
theorem to_in (A : Option Addr) (l : List Int) (q : Nat) (hl : l.length ≤ 1048576) (w : World) (h : LsI 1 w w.heap.size A (l.map inC)) :
    Calls Try.prog 102 #[.slice A l.length q] w (Gives w fun v => inT v l) :=
  (to_ins A l q hl w h).mono fun e w' ⟨v, h1, h2, h3⟩ => ⟨v, h1, LsO.lower h2 (Nat.zero_le _), fun k hk => (h2.up k hk).1, h3⟩
theorem eq_in (l : List Int) (hl : l.length ≤ 2000000) (v1 v2 : Value) (w : World) (h1 : (inT v1 l).P w) (h2 : (inT v2 l).P w) :
    Calls Try.prog 104 #[v1, v2] w fun e w' => e = .returned (.bool true) ∧ Below w.heap.size w w' := eqIn_any w 0 0 v1 v2 l hl h1 h2
theorem mark_in (l : List Int) (hl : l.length ≤ 1100000) (v : Value) (M : Nat) (hM1 : 1 ≤ M) (hM : M ≤ 10000000) (w : World) (h : (inT v l).P w) :
    Calls Try.prog 106 #[v, .int .i64 (M : Int)] w fun e w' => e = .returned (.int .i64 ((M + l.length : Nat) : Int)) ∧ Touch w w' (inT v l).F ∧ (inMk v M l.length).P w' :=
  (markIn_any w 0 v (l.map inC) (by rw [List.length_map]; exact hl) M hM1 hM h).mono fun e w' hh => by
    rw [List.length_map] at hh
    exact ⟨by rw [hh.1]; congr 2, Touch.of_grown hh.2.1, hh.2.2⟩
theorem held_in (n : Nat) (hn : n ≤ 1100000) (v : Value) (M : Nat) (hM1 : 1 ≤ M) (hM : M ≤ 10000000) (w : World) (h : (inMk v M n).P w) :
    Calls Try.prog 108 #[v, .int .i64 (M : Int)] w fun e w' => e = .returned (.int .i64 ((M + n : Nat) : Int)) ∧ Below w.heap.size w w' :=
  (heldIn_any w 0 M v n hn h hM1 hM).mono fun e w' hh => ⟨by rw [hh.1]; congr 2, hh.2⟩
theorem inT_form {v : Value} {l : List Int} {W : World} (h : (inT v l).P W) : ∃ A q, v = .slice A l.length q := OwnIn.nform h
end Go.Proofs.Ytckofkdeedbbgaa
/- What this text proves: the contracts of DecodeMissing, of the program and the model. -/
namespace Go.Proofs.Ytckofkdeedbbgaa
open Go.ChangeShapes Go.WideShapes Go.ChangeAt Go.RowKit
set_option linter.unusedVariables false

/-- The numbers of k bytes behind the first. -/
def tlS (s : ByteArray) (k : Nat) : List Int := (List.range k).map fun j => ((byteAt s (j + 1) : Nat) : Int)
theorem tlS_zero (s : ByteArray) : tlS s 0 = [] := rfl
theorem tlS_succ (s : ByteArray) (k : Nat) : tlS s (k + 1) = tlS s k ++ [((byteAt s (k + 1) : Nat) : Int)] := by simp [tlS, List.range_succ]
theorem tlS_len (s : ByteArray) (k : Nat) : (tlS s k).length = k := by simp [tlS]
/-- Whether a text is a list of missing segments. -/
def DmOk (s : ByteArray) : Prop := 1 ≤ s.size ∧ ((emT ((byteAt s 0 : Nat) : Int) (tlS s (s.size - 1))).toList == s.toList) = true
/-- What DecodeMissing returns. -/
noncomputable def decM (s : ByteArray) : Int × List Int × Bool := open Classical in if DmOk s then (((byteAt s 0 : Nat) : Int), tlS s (s.size - 1), true) else (0, [], false)
theorem decM_yes {s : ByteArray} (h : DmOk s) : decM s = (((byteAt s 0 : Nat) : Int), tlS s (s.size - 1), true) := by unfold decM; rw [if_pos h]
theorem decM_no {s : ByteArray} (h : ¬ DmOk s) : decM s = (0, [], false) := by unfold decM; rw [if_neg h]
def DmEnd (w : World) (r : Int × List Int × Bool) (e : Ending) (w' : World) : Prop := ∃ v, e = .returned (.tuple #[.int .i64 r.1, v, .bool r.2.2]) ∧ (inT v r.2.1).P w' ∧ (∀ k, (inT v r.2.1).F k → w.heap.size ≤ k) ∧ Below w.heap.size w w'
theorem DmEnd.of {w w' : World} {r : Int × List Int × Bool} {e : Ending} (v : Value) (he : e = .returned (.tuple #[.int .i64 r.1, v, .bool r.2.2])) (h : OwnIn w' w.heap.size v r.2.1) (hb : Below w.heap.size w w') : DmEnd w r e w' := ⟨v, he, LsO.lower h (Nat.zero_le _), fun k hk => (h.up k hk).1, hb⟩
theorem decM_len (s : ByteArray) : (decM s).2.1.length ≤ s.size := by
  by_cases h : DmOk s
  · rw [decM_yes h]
    show (tlS s (s.size - 1)).length ≤ _
    rw [tlS_len]
    omega
  · rw [decM_no h]
    exact Nat.zero_le _
theorem ext_byte (s : ByteArray) (j : Nat) (hj : j < (s.extract 1 s.size).data.toList.length) : cellB (s.extract 1 s.size).data.toList[j] = .int .u8 ((byteAt s (j + 1) : Nat) : Int) := by
  have h1 : (s.extract 1 s.size).size = s.size - 1 := by simp
  have hj2 : j < (s.extract 1 s.size).size := by simpa using hj
  have hj3 : j + 1 < s.size := by omega
  unfold cellB
  congr 2
  rw [← byteAt_of s (j + 1) hj3]
  congr 1
  show (s.extract 1 s.size).data.toList[j] = s.data[j + 1]
  simp [ByteArray.data_extract]
theorem rowI_form {w : World} {base : Nat} {v : Value} {l : List Int} (h : OwnR 3 1 w base v (l.map inC)) : ∃ A c, v = .slice A l.length c := by
  obtain ⟨A, c, h1⟩ := h.form
  exact ⟨A, c, by rw [h1, List.length_map]⟩

end Go.Proofs.Ytckofkdeedbbgaa
