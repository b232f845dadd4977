/- What this text proves: the contracts of SplitFields: program and model both return, for every line, its fields in order, or nothing if the line is too long, has a byte that is not allowed, or has too many fields. -/
import Derived.Test.YtkgpjfemlgocoaaDoorBufS
import Derived.Test.YtkgpjfemlgocoaaDoorByte
import Derived.Outline
import Derived.Laws.Strings2
import Derived.Laws.Strings3
import Derived.WalkMore
namespace Go.Proofs.YtkgpjfemlgocoaaDoor
open Go.ChangeShapes Go.WideShapes Go.ChangeAt Go.RowKit
set_option linter.unusedVariables false

/-- Where the field begins that the byte k would continue. -/
def stF (s : ByteArray) : Nat → Nat
  | 0 => 0
  | k + 1 => if byteAt s k = 32 then k + 1 else stF s k
def pushF (s : ByteArray) (l : List ByteArray) (a b : Nat) : List ByteArray := if a < b then l ++ [s.extract a b] else l
/-- The fields that have ended before the byte k. -/
def fsF (s : ByteArray) : Nat → List ByteArray
  | 0 => []
  | k + 1 => if byteAt s k = 32 then pushF s (fsF s k) (stF s k) k else fsF s k
def allF (s : ByteArray) : List ByteArray := pushF s (fsF s s.size) (stF s s.size) s.size
theorem stF_le (s : ByteArray) (k : Nat) : stF s k ≤ k := by
  induction k with
  | zero => exact Nat.le_refl _
  | succ k ih => simp only [stF]; split <;> omega
theorem pushF_len (s : ByteArray) (l : List ByteArray) (a b : Nat) : (pushF s l a b).length ≤ l.length + 1 := by unfold pushF; split <;> simp
theorem fsF_len (s : ByteArray) (k : Nat) : (fsF s k).length ≤ k := by
  induction k with
  | zero => exact Nat.le_refl _
  | succ k ih =>
    simp only [fsF]
    split
    · have := pushF_len s (fsF s k) (stF s k) k; omega
    · omega
def ByteOk (s : ByteArray) (k : Nat) : Prop := 32 ≤ byteAt s k ∧ byteAt s k ≤ 126
def SplitOk (s : ByteArray) : Prop := s.size ≤ 600 ∧ (∀ k, k < s.size → ByteOk s k) ∧ (allF s).length ≤ 24
noncomputable def splitV (s : ByteArray) : List ByteArray × Bool := open Classical in if SplitOk s then (allF s, true) else ([], false)
theorem splitV_yes {s : ByteArray} (h : SplitOk s) : splitV s = (allF s, true) := by unfold splitV; rw [if_pos h]
theorem splitV_no {s : ByteArray} (h : ¬ SplitOk s) : splitV s = ([], false) := by unfold splitV; rw [if_neg h]

def FieldsRes (p : List ByteArray × Bool) (w : World) (e : Ending) (w' : World) : Prop :=
  ∃ v, e = .returned (.tuple #[v, .bool p.2]) ∧ OwnS w' w.heap.size v p.1 ∧ Below w.heap.size w w'

def PushRes (s : ByteArray) (l : List ByteArray) (a b base : Nat) (w : World) (e : Ending) (w' : World) : Prop :=
  ∃ v, e = .returned v ∧ OwnS w' base v (pushF s l a b) ∧ Below base w w' ∧ w.heap.size ≤ w'.heap.size

set_option maxHeartbeats 1000000 in
theorem field_any (s : ByteArray) (a b base : Nat) (hab : a ≤ b) (hb : b ≤ s.size) (l : List ByteArray) (hl : l.length ≤ 1000000) (v : Value) (w : World) (hown : OwnS w base v l) (hbase : base ≤ w.heap.size) :
    Calls Tryd.prog 32 #[v, .string (s.extract a b)] w (PushRes s l a b base w) := by
  by_cases h : a < b
  · have hne : (s.extract a b).toList.isEmpty = false := by
      rw [ByteArray.toList_eq, List.isEmpty_eq_false_iff]
      intro e
      have := congrArg List.length e
      simp at this
      omega
    have hp := Lib.hid (show pushF s l a b = l ++ [s.extract a b] from if_pos h)
    clear h
    generalize s.extract a b = t at *
    go_enter Tryd.func32, Tryd.ntmps32
    go_wp2_with (at_builtin; refine app_text w rfl _ _ rfl base v l t rfl hown _ 1 rfl ?c1 hbase ?_)
    case c1 => omega
    intro v' w' h1 h2 h3
    go_wp2
    go_ret
    exact ⟨v', rfl, by rw [hp.out]; exact h1, h2, h3⟩
  · have hp := Lib.hid (show pushF s l a b = l from if_neg h)
    have hne : (s.extract a b).toList.isEmpty = true := by
      rw [ByteArray.toList_eq, List.isEmpty_iff]
      apply List.eq_nil_of_length_eq_zero
      simp
      omega
    clear h
    generalize s.extract a b = t at *
    go_enter Tryd.func32, Tryd.ntmps32
    go_wp2
    go_ret
    exact ⟨v, rfl, by rw [hp.out]; exact hown, Below.refl _ _, Nat.le_refl _⟩

theorem slice_at (s : ByteArray) (a b : Nat) (hab : a ≤ b) (hb : b ≤ s.size) : ∀ W : World, (Instr.slice 9 (.string s) (some (.int .i64 (a : Int))) (some (.int .i64 (b : Int))) none).run Tryd.prog W = .ok (.string (s.extract a b)) W := fun W => by
  have h := run_slice_string W 9 s .i64 .i64 (a : Int) (b : Int) Tryd.underlying9 (by omega) (by omega) (by omega)
  simpa using h

set_option maxHeartbeats 2000000 in
theorem split_impl (s : ByteArray) (hs : s.size ≤ 1048576) (w : World) :
    Calls Tryd.prog 18 #[.string s] w (FieldsRes (splitV s) w) := by
  by_cases hbig : 600 < s.size
  · have HV := Lib.hid (splitV_no (s := s) (fun h => by have := h.1; omega))
    have d : decide ((600 : Int) < (s.size : Int)) = true := by simp; omega
    go_enter Tryd.func18, Tryd.ntmps18
    go_wp2
    go_step3
    go_wp2
    try rw [Exit.noGoto_ret]
    go_ret2
    exact ⟨.slice none 0 0, by rw [HV.out]; rfl, by rw [HV.out]; exact OwnS.nil _ _, Below.refl _ _⟩
  · have d : decide ((600 : Int) < (s.size : Int)) = false := by simp; omega
    have hs6 : s.size ≤ 600 := by omega
    clear hbig
    go_enter Tryd.func18, Tryd.ntmps18
    go_wp2
    go_step3
    go_wp2
    go_step3
    go_wp2
    go_loopw [4, 5, 6] (fun v a i wr => ∃ k : Nat, k ≤ s.size ∧ i = .int .i64 (k : Int) ∧ a = .int .i64 (stF s k : Nat) ∧ OwnS wr w.heap.size v (fsF s k) ∧ Below w.heap.size w wr ∧ ∀ j, j < k → ByteOk s j) (fun _ _ i _ => s.size - (intOf i).toNat)
    case atStart => exact ⟨0, by omega, rfl, rfl, OwnS.empty w _ (Nat.le_refl _), (Below.refl _ _).alloc (Nat.le_refl _) _, fun j hj => by omega⟩
    case round =>
      obtain ⟨k, hk, rfl, rfl, hown, hbel, hall⟩ := hrel
      have Hall := Lib.hid hall
      clear hall
      have hsz := hbel.size
      have hst := stF_le s k
      have hfl := fsF_len s k
      have hsl := slice_at s (stF s k) k hst hk
      have hf := Lib.hid (fun (w' : World) (h1 : OwnS w' w.heap.size u4 (fsF s k)) (h2 : w.heap.size ≤ w'.heap.size) => field_any s (stF s k) k w.heap.size hst hk (fsF s k) (by omega) u4 w' h1 h2)
      by_cases hlt : k < s.size
      · have hd : decide (k < s.size) = true := by simp; omega
        have eb := byteAt_of s k hlt
        by_cases hok : ByteOk s k
        · have b1 : decide ((s[k].toNat : Int) < 32) = false := by have := hok.1; simp; omega
          have b2 : decide ((126 : Int) < (s[k].toNat : Int)) = false := by have := hok.2; simp; omega
          by_cases h32 : byteAt s k = 32
          · have b3 : ((s[k].toNat : Int) == 32) = true := by simp; omega
            have hs1 := Lib.hid (show stF s (k + 1) = k + 1 by simp [stF, h32])
            have hf1 := Lib.hid (show fsF s (k + 1) = pushF s (fsF s k) (stF s k) k by simp [fsF, h32])
            have Hok := Lib.hid hok
            clear hok h32 eb
            go_wp2_with fail
            refine (hf.out _ hown hsz).mono ?_
            rintro e w' ⟨v', rfl, hown', hbel', hsz'⟩
            go_wp2
            refine ⟨⟨k + 1, by omega, by go_num, by rw [hs1.out]; go_num, by rw [hf1.out]; exact hown', hbel.trans (hbel'.mono (Nat.le_refl _)), fun j hj => ?_⟩, by simp [intOf]; omega⟩
            by_cases e : j = k
            · rw [e]; exact Hok.out
            · exact Hall.out j (by omega)
          · have b3 : ((s[k].toNat : Int) == 32) = false := by simp; omega
            have hs1 := Lib.hid (show stF s (k + 1) = stF s k by simp [stF, h32])
            have hf1 := Lib.hid (show fsF s (k + 1) = fsF s k by simp [fsF, h32])
            have Hok := Lib.hid hok
            clear hok h32 eb
            go_wp2
            refine ⟨⟨k + 1, by omega, by go_num, by rw [hs1.out], by rw [hf1.out]; exact hown, hbel, fun j hj => ?_⟩, by simp [intOf]; omega⟩
            by_cases e : j = k
            · rw [e]; exact Hok.out
            · exact Hall.out j (by omega)
        · have HV := Lib.hid (splitV_no (s := s) (fun h => hok (h.2.1 k hlt)))
          by_cases h1 : s[k].toNat < 32
          · have b1 : decide ((s[k].toNat : Int) < 32) = true := by simp; omega
            clear hok h1 eb
            go_wp2_with fail
            refine (hf.out _ hown hsz).mono ?_
            rintro e w' ⟨v', rfl, hown', hbel', hsz'⟩
            go_wp2
            try rw [Exit.noGoto_ret]
            go_ret2
            exact ⟨.slice none 0 0, by rw [HV.out]; rfl, by rw [HV.out]; exact OwnS.nil _ _, hbel.trans hbel'⟩
          · have b1 : decide ((s[k].toNat : Int) < 32) = false := by simp; omega
            have b2 : decide ((126 : Int) < (s[k].toNat : Int)) = true := by unfold ByteOk at hok; simp; omega
            clear hok h1 eb
            go_wp2_with fail
            refine (hf.out _ hown hsz).mono ?_
            rintro e w' ⟨v', rfl, hown', hbel', hsz'⟩
            go_wp2
            try rw [Exit.noGoto_ret]
            go_ret2
            exact ⟨.slice none 0 0, by rw [HV.out]; rfl, by rw [HV.out]; exact OwnS.nil _ _, hbel.trans hbel'⟩
      · have hd : decide (k < s.size) = false := by simp; omega
        obtain rfl : k = s.size := by omega
        have hall2 := Hall.out
        by_cases hn : (allF s).length ≤ 24
        · have HV := Lib.hid (splitV_yes (s := s) ⟨hs6, hall2, hn⟩)
          have dn : decide ((24 : Int) < ((allF s).length : Int)) = false := by simp; omega
          clear hall2 hlt
          go_wp2_with fail
          refine (hf.out _ hown hsz).mono ?_
          rintro e w' ⟨v', rfl, hown', hbel', hsz'⟩
          have hown2 : OwnS w' w.heap.size v' (allF s) := hown'
          clear hown'
          obtain ⟨A, c, rfl⟩ := hown2.form
          go_wp2
          try rw [Exit.noGoto_ret]
          go_ret2
          exact ⟨_, by rw [HV.out]; rfl, by rw [HV.out]; exact hown2, hbel.trans hbel'⟩
        · have HV := Lib.hid (splitV_no (s := s) (fun h => hn h.2.2))
          have dn : decide ((24 : Int) < ((allF s).length : Int)) = true := by simp; omega
          clear hall2 hlt hn
          go_wp2_with fail
          refine (hf.out _ hown hsz).mono ?_
          rintro e w' ⟨v', rfl, hown', hbel', hsz'⟩
          have hown2 : OwnS w' w.heap.size v' (allF s) := hown'
          clear hown'
          obtain ⟨A, c, rfl⟩ := hown2.form
          go_wp2
          try rw [Exit.noGoto_ret]
          go_ret2
          exact ⟨.slice none 0 0, by rw [HV.out]; rfl, by rw [HV.out]; exact OwnS.nil _ _, hbel.trans hbel'⟩

set_option maxHeartbeats 4000000 in
theorem split_spec (s : ByteArray) (hs : s.size ≤ 1048576) (w : World) :
    Calls Tryd.prog 19 #[.string s] w (FieldsRes (splitV s) w) := by
  by_cases hbig : 600 < s.size
  · have HV := Lib.hid (splitV_no (s := s) (fun h => by have := h.1; omega))
    have d : decide ((600 : Int) < (s.size : Int)) = true := by simp; omega
    go_enter Tryd.func19, Tryd.ntmps19
    go_wp2
    go_ret2
    exact ⟨_, by rw [HV.out]; rfl, by rw [HV.out]; exact OwnS.empty w _ (Nat.le_refl _), (Below.refl _ _).alloc (Nat.le_refl _) _⟩
  · have d : decide ((600 : Int) < (s.size : Int)) = false := by simp; omega
    have hs6 : s.size ≤ 600 := by omega
    clear hbig
    go_enter Tryd.func19, Tryd.ntmps19
    go_wp2
    go_loopw [4, 5, 6] (fun v a i wr => ∃ k : Nat, i = .int .i64 (k : Int) ∧ Below w.heap.size w wr ∧ ((k ≤ s.size ∧ a = .int .i64 (stF s k : Nat) ∧ OwnS wr w.heap.size v (fsF s k) ∧ ∀ j, j < k → ByteOk s j) ∨ (k = s.size + 1 ∧ OwnS wr w.heap.size v (allF s) ∧ ∀ j, j < s.size → ByteOk s j))) (fun _ _ i _ => s.size + 1 - (intOf i).toNat)
    case atStart => exact ⟨0, rfl, (Below.refl _ _).alloc (Nat.le_refl _) _, .inl ⟨by omega, rfl, OwnS.empty w _ (Nat.le_refl _), fun j hj => by omega⟩⟩
    case round =>
      obtain ⟨k, rfl, hbel, hor⟩ := hrel
      have hsz := hbel.size
      rcases hor with ⟨hk, rfl, hown, hall⟩ | ⟨hk, hown, hall⟩
      · have dk : decide (k ≤ s.size) = true := by simp; omega
        have Hall := Lib.hid hall
        clear hall
        have hst := stF_le s k
        have hfl := fsF_len s k
        have hsl := slice_at s (stF s k) k hst hk
        by_cases hlt : k < s.size
        · have hd : decide (k < s.size) = true := by simp; omega
          have eb := byteAt_of s k hlt
          by_cases hok : ByteOk s k
          · have b1 : decide ((s[k].toNat : Int) < 32) = false := by have := hok.1; simp; omega
            have b2 : decide ((126 : Int) < (s[k].toNat : Int)) = false := by have := hok.2; simp; omega
            have Hok := Lib.hid hok
            have hall2 := Lib.hid (show ∀ j, j < k + 1 → ByteOk s j from fun j hj => by
              by_cases e : j = k
              · rw [e]; exact Hok.out
              · exact Hall.out j (by omega))
            by_cases h32 : byteAt s k = 32
            · have b3 : ((s[k].toNat : Int) != 32) = false := by simp; omega
              have hs1 := Lib.hid (show stF s (k + 1) = k + 1 by simp [stF, h32])
              by_cases hpos : stF s k < k
              · have hf1 := Lib.hid (show fsF s (k + 1) = fsF s k ++ [s.extract (stF s k) k] by simp only [fsF, if_pos h32, pushF, if_pos hpos])
                have dp : decide (stF s k < k) = true := by simp; omega
                clear hok h32 eb hpos
                go_wp2_with (at_builtin; refine app_text wr rfl _ _ rfl w.heap.size u4 (fsF s k) (s.extract (stF s k) k) rfl hown _ 1 rfl ?c1 hsz ?_)
                case c1 => omega
                intro v' w' hown' hbel' hsz'
                go_wp2
                refine ⟨⟨k + 1, by go_num, hbel.trans hbel', .inl ⟨by omega, by rw [hs1.out]; go_num, by rw [hf1.out]; exact hown', hall2.out⟩⟩, by simp [intOf]; omega⟩
              · have hf1 := Lib.hid (show fsF s (k + 1) = fsF s k by simp only [fsF, if_pos h32, pushF, if_neg hpos])
                have dp : decide (stF s k < k) = false := by simp; omega
                clear hok h32 eb hpos
                go_wp2
                refine ⟨⟨k + 1, by go_num, hbel, .inl ⟨by omega, by rw [hs1.out]; go_num, by rw [hf1.out]; exact hown, hall2.out⟩⟩, by simp [intOf]; omega⟩
            · have b3 : ((s[k].toNat : Int) != 32) = true := by simp; omega
              have hs1 := Lib.hid (show stF s (k + 1) = stF s k by simp [stF, h32])
              have hf1 := Lib.hid (show fsF s (k + 1) = fsF s k by simp [fsF, h32])
              clear hok h32 eb
              go_wp2
              refine ⟨⟨k + 1, by go_num, hbel, .inl ⟨by omega, by rw [hs1.out], by rw [hf1.out]; exact hown, hall2.out⟩⟩, by simp [intOf]; omega⟩
          · have HV := Lib.hid (splitV_no (s := s) (fun h => hok (h.2.1 k hlt)))
            by_cases h1 : s[k].toNat < 32
            · have b1 : decide ((s[k].toNat : Int) < 32) = true := by simp; omega
              clear hok h1 eb
              go_wp2
              go_ret2
              exact ⟨_, by rw [HV.out]; rfl, by rw [HV.out]; exact OwnS.empty wr _ hsz, hbel.alloc hsz _⟩
            · have b1 : decide ((s[k].toNat : Int) < 32) = false := by simp; omega
              have b2 : decide ((126 : Int) < (s[k].toNat : Int)) = true := by unfold ByteOk at hok; simp; omega
              clear hok h1 eb
              go_wp2
              go_ret2
              exact ⟨_, by rw [HV.out]; rfl, by rw [HV.out]; exact OwnS.empty wr _ hsz, hbel.alloc hsz _⟩
        · have hd : decide (k < s.size) = false := by simp; omega
          obtain rfl : k = s.size := by omega
          by_cases hpos : stF s s.size < s.size
          · have hf1 := Lib.hid (show allF s = fsF s s.size ++ [s.extract (stF s s.size) s.size] by unfold allF pushF; rw [if_pos hpos])
            have dp : decide (stF s s.size < s.size) = true := by simp; omega
            clear hlt hpos
            go_wp2_with (at_builtin; refine app_text wr rfl _ _ rfl w.heap.size u4 (fsF s s.size) (s.extract (stF s s.size) s.size) rfl hown _ 1 rfl ?c1 hsz ?_)
            case c1 => omega
            intro v' w' hown' hbel' hsz'
            go_wp2
            refine ⟨⟨s.size + 1, by go_num, hbel.trans hbel', .inr ⟨rfl, by rw [hf1.out]; exact hown', Hall.out⟩⟩, by simp [intOf]⟩
          · have hf1 := Lib.hid (show allF s = fsF s s.size by unfold allF pushF; rw [if_neg hpos])
            have dp : decide (stF s s.size < s.size) = false := by simp; omega
            clear hlt hpos
            go_wp2
            refine ⟨⟨s.size + 1, by go_num, hbel, .inr ⟨rfl, by rw [hf1.out]; exact hown, Hall.out⟩⟩, by simp [intOf]⟩
      · have hk2 := Lib.hid hk
        have dk : decide (k ≤ s.size) = false := by simp; omega
        clear hk
        by_cases hn : (allF s).length ≤ 24
        · have HV := Lib.hid (splitV_yes (s := s) ⟨hs6, hall, hn⟩)
          have dn : decide ((24 : Int) < ((allF s).length : Int)) = false := by simp; omega
          clear hall
          obtain ⟨A, c, rfl⟩ := hown.form
          go_wp2
          go_ret2
          exact ⟨_, by rw [HV.out]; rfl, by rw [HV.out]; exact hown, hbel⟩
        · have HV := Lib.hid (splitV_no (s := s) (fun h => hn h.2.2))
          have dn : decide ((24 : Int) < ((allF s).length : Int)) = true := by simp; omega
          clear hall hn
          obtain ⟨A, c, rfl⟩ := hown.form
          go_wp2
          go_ret2
          exact ⟨_, by rw [HV.out]; rfl, by rw [HV.out]; exact OwnS.empty wr _ hsz, hbel.alloc hsz _⟩
end Go.Proofs.YtkgpjfemlgocoaaDoor
