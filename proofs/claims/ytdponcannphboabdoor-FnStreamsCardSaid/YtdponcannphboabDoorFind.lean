/- What this text proves: the indices of blocks in a stream, and the contract of the model's FindBlocks. -/
import Derived.Test.YtdponcannphboabDoorBufI
import Derived.Test.YtdponcannphboabDoorEmp
import Derived.Test.YtdponcannphboabDoorMark
import Derived.Test.YtdponcannphboabDoorRand
import Derived.Laws.Strings2
import Derived.Deep.LoopGhost
namespace Go.Proofs.YtdponcannphboabDoor
open Go.ChangeShapes Go.WideShapes Go.ChangeAt Go.RowKit
set_option linter.unusedVariables false

open Classical in
/-- The indices of blocks from place k on, by at most f steps. -/
noncomputable def findF (t : ByteArray) (n f k : Nat) : List Int := Nat.rec (motive := fun _ => Nat → List Int) (fun _ => []) (fun _ r k => if k + 4 + 2 * n ≤ t.size then (if t.extract k (k + 4) = markT then ((k + 4 : Nat) : Int) :: r (k + 4 + 2 * n) else r (k + 1)) else []) f k
theorem findF_zero (t : ByteArray) (n k : Nat) : findF t n 0 k = [] := rfl
theorem findF_hit (t : ByteArray) (n f k : Nat) (h : k + 4 + 2 * n ≤ t.size) (hm : t.extract k (k + 4) = markT) : findF t n (f + 1) k = ((k + 4 : Nat) : Int) :: findF t n f (k + 4 + 2 * n) := by
  show (if k + 4 + 2 * n ≤ t.size then (if t.extract k (k + 4) = markT then ((k + 4 : Nat) : Int) :: findF t n f (k + 4 + 2 * n) else findF t n f (k + 1)) else []) = _
  rw [if_pos h, if_pos hm]
theorem findF_miss (t : ByteArray) (n f k : Nat) (h : k + 4 + 2 * n ≤ t.size) (hm : t.extract k (k + 4) ≠ markT) : findF t n (f + 1) k = findF t n f (k + 1) := by
  show (if k + 4 + 2 * n ≤ t.size then (if t.extract k (k + 4) = markT then ((k + 4 : Nat) : Int) :: findF t n f (k + 4 + 2 * n) else findF t n f (k + 1)) else []) = _
  rw [if_pos h, if_neg hm]
theorem findF_end (t : ByteArray) (n f k : Nat) (h : ¬ k + 4 + 2 * n ≤ t.size) : findF t n f k = [] := by
  cases f with
  | zero => rfl
  | succ f =>
    show (if k + 4 + 2 * n ≤ t.size then (if t.extract k (k + 4) = markT then ((k + 4 : Nat) : Int) :: findF t n f (k + 4 + 2 * n) else findF t n f (k + 1)) else []) = _
    rw [if_neg h]
theorem findF_len (t : ByteArray) (n : Nat) : ∀ f k, (findF t n f k).length ≤ f := by
  intro f
  induction f with
  | zero => intro k; exact Nat.le_refl _
  | succ f ih =>
    intro k
    by_cases h : k + 4 + 2 * n ≤ t.size
    · by_cases hm : t.extract k (k + 4) = markT
      · rw [findF_hit t n f k h hm, List.length_cons]
        have := ih (k + 4 + 2 * n)
        omega
      · rw [findF_miss t n f k h hm]
        have := ih (k + 1)
        omega
    · rw [findF_end t n _ k h]
      exact Nat.zero_le _
def FindOk (t : ByteArray) (n : Int) : Prop := (1 ≤ n ∧ n ≤ 200) ∧ t.size ≤ 20000
open Classical in
/-- What FindBlocks returns. -/
noncomputable def findV (t : ByteArray) (n : Int) : List Int := if FindOk t n then findF t n.toNat (t.size + 1) 0 else []
theorem findV_in {t : ByteArray} {n : Nat} (h : FindOk t (n : Int)) : findV t (n : Int) = findF t n (t.size + 1) 0 := by unfold findV; rw [if_pos h]; simp
theorem findV_out {t : ByteArray} {n : Int} (h : ¬ FindOk t n) : findV t n = [] := by unfold findV; rw [if_neg h]
theorem findV_len (t : ByteArray) (n : Int) : (findV t n).length ≤ 20001 := by
  by_cases h : FindOk t n
  · unfold findV
    rw [if_pos h]
    have := findF_len t n.toNat (t.size + 1) 0
    have := h.2
    omega
  · rw [findV_out h]; exact Nat.zero_le _

theorem slice_mid (s : ByteArray) (a b : Nat) (hab : a ≤ b) (hb : b ≤ s.size) : ∀ W : World, (Instr.slice 9 (.string s) (some (.int .i64 (a : Int))) (some (.int .i64 (b : Int))) none).run Tryd.prog W = .ok (.string (s.extract a b)) W := fun W => by
  have h := run_slice_string W 9 s .i64 .i64 (a : Int) (b : Int) Tryd.underlying9 (by omega) (by omega) (by omega)
  simpa using h

/-- A new slice of ints whose numbers are l. -/
def IntsRes (l : List Int) (w : World) (e : Ending) (w' : World) : Prop := ∃ v, e = .returned v ∧ OwnI w' w.heap.size v l ∧ Below w.heap.size w w'

set_option maxHeartbeats 4000000 in
theorem find_spec (t : ByteArray) (ht : t.size ≤ 1048576) (n : Int) (w : World) :
    Calls Tryd.prog 42 #[.string t, .int .i64 n] w (IntsRes (findV t n) w) := by
  by_cases hn : 1 ≤ n ∧ n ≤ 200
  · by_cases h2 : t.size ≤ 20000
    · have d2 : decide ((20000 : Int) < (t.size : Int)) = false := by simp; omega
      obtain ⟨n, rfl⟩ := Int.eq_ofNat_of_zero_le (show 0 ≤ n by omega)
      have HV := Lib.hid (findV_in (t := t) (n := n) ⟨hn, h2⟩)
      have hll := findF_len t n (t.size + 1) 0
      obtain ⟨L, hL⟩ : ∃ L, findF t n (t.size + 1) 0 = L := ⟨_, rfl⟩
      have HL := Lib.hid hL
      rw [hL] at hll
      clear hL
      go_enter Tryd.func42, Tryd.ntmps42
      go_wp2_with fail
      refine (in_yes (n : Int) 1 200 hn.1 hn.2 _).mono ?_
      rintro e w' ⟨rfl, rfl⟩
      go_wp2
      go_loopg [5, 6] (t.size + 1) (fun g v i wx => ∃ (k f : Nat) (pre : List Int), f = g ∧ t.size < k + f ∧ pre ++ findF t n f k = L ∧ i = .int .i64 (k : Int) ∧ k ≤ 100000 ∧ OwnI wx w.heap.size v pre ∧ Below w.heap.size w wx)
      case atStart => exact ⟨0, t.size + 1, [], rfl, by omega, by simpa using HL.out, rfl, by omega, OwnI.empty w _ (Nat.le_refl _), (Below.refl _ _).alloc (Nat.le_refl _) _⟩
      case round =>
        obtain ⟨k, f, pre, rfl, hkf, he, rfl, hk, hown, hbel⟩ := hrel
        have HE := Lib.hid he
        have HO := Lib.hid hown
        have HB := Lib.hid hbel
        have hsz := hbel.size
        clear he hbel
        by_cases hlt : k + 4 + 2 * n ≤ t.size
        · obtain ⟨f, rfl⟩ : ∃ j, f = j + 1 := ⟨f - 1, by omega⟩
          have hd : decide ((k : Int) + 4 + 2 * (n : Int) ≤ (t.size : Int)) = true := by simp; omega
          have hsl := slice_mid t k (k + 4) (by omega) (by omega)
          rw [show ((k + 4 : Nat) : Int) = (k : Int) + 4 by omega] at hsl
          by_cases hm : t.extract k (k + 4) = markT
          · have hst := HE.out
            rw [findF_hit t n f k hlt hm] at hst
            have HST := Lib.hid (show (pre ++ [((k + 4 : Nat) : Int)]) ++ findF t n f (k + 4 + 2 * n) = L by rw [List.append_assoc]; exact hst)
            have hpl : (pre ++ [((k + 4 : Nat) : Int)]).length ≤ L.length := by
              have h := congrArg List.length HST.out
              rw [List.length_append] at h
              omega
            have hpl2 : pre.length ≤ 1099511627 := by rw [List.length_append] at hpl; omega
            rw [hm] at hsl
            have hmk := self_text markT
            have hd2 : (k : Int) + 4 = ((k + 4 : Nat) : Int) := by omega
            unfold markT at hsl hmk
            clear hst hpl hm
            obtain ⟨K4, hK4⟩ : ∃ K4 : Nat, k + 4 = K4 := ⟨_, rfl⟩
            have hk4 : (k : Int) + 4 = (K4 : Int) := by omega
            rw [hk4] at hd hsl
            rw [hK4] at HST hlt
            clear hd2
            go_wp2_with (at_builtin; refine app_int wr rfl _ _ rfl w.heap.size u5 pre (K4 : Int) rfl hown _ 1 rfl hpl2 hsz ?_)
            intro v' w' hown' hbel' hsz'
            go_wp2
            go_roundg f
            case measure => omega
            case rel => exact ⟨K4 + 2 * n, f, _, rfl, by omega, HST.out, by go_num, by omega, hown', HB.out.trans hbel'⟩
          · have hst := HE.out
            rw [findF_miss t n f k hlt hm] at hst
            have HST := Lib.hid hst
            have hmk := unlike_text _ _ hm
            rw [mark_list] at hmk
            clear hst hm
            generalize t.extract k (k + 4) = E at *
            go_wp2
            go_roundg f
            case measure => omega
            case rel => exact ⟨k + 1, f, pre, rfl, by omega, HST.out, by go_num, by omega, HO.out, HB.out⟩
        · have hd : decide ((k : Int) + 4 + 2 * (n : Int) ≤ (t.size : Int)) = false := by simp; omega
          have hfin := Lib.hid (show pre = L by
            have h := HE.out
            rw [findF_end t n f k hlt, List.append_nil] at h
            exact h)
          obtain ⟨A, c, rfl⟩ := hown.form
          go_wp2
          go_ret
          exact ⟨_, rfl, by rw [HV.out, HL.out, ← hfin.out]; exact HO.out, HB.out⟩
    · have HV := Lib.hid (findV_out (t := t) (n := n) (fun h => h2 h.2))
      have d2 : decide ((20000 : Int) < (t.size : Int)) = true := by simp; omega
      go_enter Tryd.func42, Tryd.ntmps42
      go_wp2_with fail
      refine (in_yes n 1 200 hn.1 hn.2 _).mono ?_
      rintro e w' ⟨rfl, rfl⟩
      go_wp2
      go_ret
      exact ⟨_, rfl, by rw [HV.out]; exact OwnI.empty w _ (Nat.le_refl _), (Below.refl _ _).alloc (Nat.le_refl _) _⟩
  · have HV := Lib.hid (findV_out (t := t) (n := n) (fun h => hn h.1))
    go_enter Tryd.func42, Tryd.ntmps42
    go_wp2_with fail
    refine (in_no n 1 200 hn _).mono ?_
    rintro e w' ⟨rfl, rfl⟩
    go_wp2
    go_ret
    exact ⟨_, rfl, by rw [HV.out]; exact OwnI.empty w _ (Nat.le_refl _), (Below.refl _ _).alloc (Nat.le_refl _) _⟩
end Go.Proofs.YtdponcannphboabDoor
