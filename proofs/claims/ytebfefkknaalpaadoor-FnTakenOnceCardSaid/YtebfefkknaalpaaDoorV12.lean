/- What this text proves: the parts Seal, Cmd, BufS of the proof, each under its own words. -/
import Derived.Test.YtebfefkknaalpaaDoorV11
import Derived.Test.YtebfefkknaalpaaDoorV04
import Derived.Laws.Concat
import Derived.Test.YtebfefkknaalpaaDoorV05
import Derived.Lib.AppendStr
import Derived.Test.YtebfefkknaalpaaDoorV00
import Derived.WalkKit
import Derived.LoopTactic
import Derived.IntWalk
import Derived.OwnWalk
import Derived.Laws.AppendOwn
import Derived.Laws.OwnMore
import Derived.Lib.Hide
/- What this text proves: the contracts of SealText and OpenText: program and model both return, for every text of at most 1048576 bytes, the text and the two bytes of its check; and the text without them, if they are its check. -/
namespace Go.Proofs.YtebfefkknaalpaaDoor
open Go.ChangeShapes Go.WideShapes Go.ChangeAt Go.RowKit
set_option linter.unusedVariables false

theorem putS_size (n k : Int) : (putS n k).size ≤ 4 := by
  unfold putS
  split
  · rename_i h
    have h2 := h.2.1
    show ((putB n.toNat k.toNat).toArray).size ≤ 4
    rw [List.size_toArray, putB_len]
    omega
  · show (#[] : Array UInt8).size ≤ 4
    decide
/-- A text and the two bytes of its check. -/
noncomputable def sealS (s : ByteArray) : ByteArray := s ++ putS (crc s : Nat) 2
theorem seal_impl (s : ByteArray) (hs : s.size ≤ 1048578) (w : World) :
    Calls Tryd.prog 32 #[.string s] w fun e w' => e = .returned (.string (sealS s)) ∧ Below w.heap.size w w' := by
  have hm : s.size ≤ maxLen := by unfold maxLen; omega
  have H1 := Lib.hid (check_impl s hm)
  have H2 := Lib.hid (put_impl (crc s : Nat) 2)
  have ht := putS_size (crc s : Nat) 2
  have HS := Lib.hid (show s ++ putS (crc s : Nat) 2 = sealS s from rfl)
  generalize sealS s = r at *
  generalize crc s = c at *
  generalize putS (c : Int) 2 = t at *
  clear hm
  go_enter Tryd.func32, Tryd.ntmps32
  go_wp2_with fail
  refine (H1.out _).mono ?_
  rintro e w1 ⟨rfl, pos, hw⟩
  have hb1 : Below w.heap.size w w1 := by rw [hw]; exact below_iter w s pos
  clear hw
  go_wp2_with fail
  refine (H2.out _).mono ?_
  rintro e w2 ⟨rfl, hb2⟩
  go_wp2
  go_ret
  exact ⟨by rw [← HS.out]; rfl, hb1.trans (hb2.mono hb1.size)⟩
def OpenOk (s : ByteArray) : Prop := 2 ≤ s.size ∧ ((sealS (s.extract 0 (s.size - 2))).toList == s.toList) = true
/-- What OpenText returns. -/
noncomputable def openV (s : ByteArray) : ByteArray × Bool := open Classical in if OpenOk s then (s.extract 0 (s.size - 2), true) else (⟨#[]⟩, false)
theorem openV_yes {s : ByteArray} (h : OpenOk s) : openV s = (s.extract 0 (s.size - 2), true) := by unfold openV; rw [if_pos h]
theorem openV_no {s : ByteArray} (h : ¬ OpenOk s) : openV s = (⟨#[]⟩, false) := by unfold openV; rw [if_neg h]
def retO (p : ByteArray × Bool) : Ending := .returned (.tuple #[.string p.1, .bool p.2])
theorem slice_to (s : ByteArray) (h2 : 2 ≤ s.size) : ∀ W : World, (Instr.slice 9 (.string s) none (some (.int .i64 ((s.size : Int) - 2))) none).run Tryd.prog W = .ok (.string (s.extract 0 (s.size - 2))) W := fun W => by
  have h := run_slice_string_to_if W 9 s .i64 ((s.size : Int) - 2) Tryd.underlying9
  rw [if_pos (by omega), show ((s.size : Int) - 2).toNat = s.size - 2 from by omega] at h
  exact h

theorem open_impl (s : ByteArray) (hs : s.size ≤ 1048576) (w : World) :
    Calls Tryd.prog 29 #[.string s] w fun e w' => e = retO (openV s) ∧ Below w.heap.size w w' := by
  by_cases h2 : 2 ≤ s.size
  · have hd' : decide ((s.size : Int) < 2) = false := by simp; omega
    have hx : (s.extract 0 (s.size - 2)).size ≤ 1048578 := by simp; omega
    have hsl := slice_to s h2
    have H1 := Lib.hid (seal_impl _ hx)
    clear hx
    by_cases hb : ((sealS (s.extract 0 (s.size - 2))).toList == s.toList) = true
    · have HV := Lib.hid (openV_yes ⟨h2, hb⟩)
      generalize sealS (s.extract 0 (s.size - 2)) = r at H1 hb
      go_enter Tryd.func29, Tryd.ntmps29
      go_wp2_with (go_at_call 32; refine (H1.out _).mono ?_; rintro e w1 ⟨rfl, hb1⟩)
      go_ret2
      exact ⟨by rw [HV.out]; rfl, hb1⟩
    · have HV := Lib.hid (openV_no (s := s) (fun h => hb h.2))
      have hb' : ((sealS (s.extract 0 (s.size - 2))).toList == s.toList) = false := by simpa using hb
      clear hb
      generalize sealS (s.extract 0 (s.size - 2)) = r at H1 hb'
      go_enter Tryd.func29, Tryd.ntmps29
      go_wp2_with (go_at_call 32; refine (H1.out _).mono ?_; rintro e w1 ⟨rfl, hb1⟩)
      go_ret2
      exact ⟨by rw [HV.out]; rfl, hb1⟩
  · have HV := Lib.hid (openV_no (s := s) (fun h => h2 h.1))
    have h2' : s.size < 2 := by omega
    clear h2
    go_enter Tryd.func29, Tryd.ntmps29
    go_wp2
    go_ret2
    exact ⟨by rw [HV.out]; rfl, Below.refl _ _⟩

end Go.Proofs.YtebfefkknaalpaaDoor
/- What this text proves: the contracts of the model's EncodeCommand and of the program's: the bytes of a command. -/
namespace Go.Proofs.YtebfefkknaalpaaDoor
open Go.ChangeShapes Go.WideShapes Go.ChangeAt Go.RowKit
set_option linter.unusedVariables false

def CmOk (k q : Int) (d : ByteArray) : Prop := (0 ≤ k ∧ k ≤ 1) ∧ (0 ≤ q ∧ q ≤ 255) ∧ d.size ≤ 40
instance (k q : Int) (d : ByteArray) : Decidable (CmOk k q d) := by unfold CmOk; infer_instance
/-- What EncodeCommand returns. -/
noncomputable def cmT (k q : Int) (d : ByteArray) : ByteArray := if CmOk k q d then sealS (putS k 1 ++ putS q 1 ++ d) else ⟨#[]⟩
theorem cmT_yes {k q : Int} {d : ByteArray} (h : CmOk k q d) : cmT k q d = sealS (putS k 1 ++ putS q 1 ++ d) := by unfold cmT; rw [if_pos h]
theorem cmT_no {k q : Int} {d : ByteArray} (h : ¬ CmOk k q d) : cmT k q d = ⟨#[]⟩ := by unfold cmT; rw [if_neg h]
theorem putS_one {n : Int} (h : 0 ≤ n ∧ n ≤ 255) : putS n 1 = ⟨#[byteN n.toNat 0]⟩ := by
  unfold putS
  rw [if_pos ⟨by decide, by decide, h.1, by simp; omega⟩]
  rfl

theorem seal_bytes (base : Nat) (v : Value) (l : List UInt8) (hl : l.length ≤ 1048576) (w : World) (h : OwnB w base v l) :
    Calls Tryd.prog 28 #[v] w fun e w' => e = .returned (.string (sealS ⟨l.toArray⟩)) ∧ Below w.heap.size w w' := by
  have hcv := conv_bytes w base v l h
  have HS := Lib.hid (seal_impl ⟨l.toArray⟩ (by show l.toArray.size ≤ _; rw [List.size_toArray]; omega))
  generalize (⟨l.toArray⟩ : ByteArray) = t at *
  clear h
  go_enter Tryd.func28, Tryd.ntmps28
  go_wp2_with fail
  refine (HS.out _).mono ?_
  rintro e w' ⟨rfl, hb⟩
  go_wp2
  go_ret
  exact ⟨rfl, hb⟩
theorem own_two (w : World) (a b : Nat) (ha : a ≤ 255) (hb : b ≤ 255) : OwnB (w.alloc (.cells #[.int .u8 (a : Int), .int .u8 (b : Int)] 5)) w.heap.size (.slice (some ⟨w.heap.size, 0, none⟩) 2 2) [byteN a 0, byteN b 0] := by
  have h := World.ownsRow_lit (base := w.heap.size) (e := 5) (size := 1) w #[.int .u8 (a : Int), .int .u8 (b : Int)] 2 (Nat.le_refl _) (by decide) rfl
  have e : ([byteN a 0, byteN b 0].map cellB) = [.int .u8 (a : Int), .int .u8 (b : Int)] := by
    simp only [List.map_cons, List.map_nil, cellB, byteN_val]
    rw [show a / 256 ^ 0 % 256 = a by omega, show b / 256 ^ 0 % 256 = b by omega]
  unfold OwnB
  rw [e]
  exact h
theorem text_two (a b : UInt8) (d : ByteArray) : (⟨([a, b] ++ d.data.toList).toArray⟩ : ByteArray) = ⟨#[a]⟩ ++ ⟨#[b]⟩ ++ d := by
  apply ByteArray.ext
  apply Array.ext'
  simp [ByteArray.data_append]

set_option maxHeartbeats 2000000 in
theorem encC_impl (k q : Int) (d : ByteArray) (hd : d.size ≤ 1100000) (w : World) :
    Calls Tryd.prog 20 #[.int .i64 k, .int .i64 q, .string d] w fun e w' => e = .returned (.string (cmT k q d)) ∧ Below w.heap.size w w' := by
  by_cases h1 : 0 ≤ k ∧ k ≤ 1
  · by_cases h2 : 0 ≤ q ∧ q ≤ 255
    · have H2 := Lib.hid (iq_yes q h2)
      by_cases h3 : d.size ≤ 40
      · have d3 : decide (40 < d.size) = false := by simp; omega
        have d3' : decide ((40 : Int) < (d.size : Int)) = false := by simp; omega
        obtain ⟨K, rfl⟩ := Int.eq_ofNat_of_zero_le h1.1
        obtain ⟨Q, rfl⟩ := Int.eq_ofNat_of_zero_le h2.1
        have hK : (K : Int) ≤ 1 := h1.2
        have hQ : (Q : Int) ≤ 255 := h2.2
        have HV := Lib.hid (show sealS ⟨([byteN K 0, byteN Q 0] ++ d.data.toList).toArray⟩ = cmT (K : Int) (Q : Int) d by
          rw [cmT_yes ⟨h1, h2, h3⟩, putS_one (by omega), putS_one (by omega), text_two]; rfl)
        have HO := Lib.hid (own_two w K Q (by omega) (by omega))
        have HS := Lib.hid (fun v W (h : OwnB W w.heap.size v ([byteN K 0, byteN Q 0] ++ d.data.toList)) => seal_bytes w.heap.size v ([byteN K 0, byteN Q 0] ++ d.data.toList) (by
          have e : d.data.toList.length = d.size := by rw [Array.length_toList]; rfl
          rw [List.length_append, e]; simp; omega) W h)
        obtain ⟨iu, hiu, hz0, hz1, hz2⟩ := info_parts info_u8
        have HI := Lib.hid hiu
        have HZ0 := Lib.hid hz0
        have HZ1 := Lib.hid hz1
        have HZ2 := Lib.hid hz2
        have g1 : ((K : Int) != 0 && (K : Int) != 1) = false := by
          rcases (show K = 0 ∨ K = 1 by omega) with rfl | rfl <;> rfl
        have HW0 := Lib.hid ((Below.refl w.heap.size w).alloc (Nat.le_refl _) (.cells #[.int .u8 (K : Int), .int .u8 (Q : Int)] 5))
        clear hiu hz0 hz1 hz2 h1 h2
        rcases (show K = 0 ∨ K = 1 by omega) with rfl | rfl
        all_goals
          go_enter Tryd.func20, Tryd.ntmps20
          go_wp2_with fail
          refine (H2.out _).mono ?_
          rintro e w' ⟨rfl, rfl⟩
          go_wp2_with (at_builtin; go_loud (refine Lib.wpList_append_own_string _ rfl _ _ 22 9 rfl w.heap.size 5 iu Tryd.underlying22 Tryd.underlying9 HI.out HZ0.out HZ1.out HZ2.out _ _ _ rfl HO.out d rfl (by unfold maxLen; simp; omega) (by simp; omega) (by simp) ?_))
          intro v' w1 hown hg _
          have HO1 := Lib.hid (show OwnB w1 w.heap.size v' ([_, _] ++ d.data.toList) from by
            unfold OwnB
            rw [List.map_append, List.length_append]
            exact hown)
          have HW1 := Lib.hid (HW0.out.grown hg (by simp) fun k hk => (World.ownsRow.lt HO.out k hk).1)
          clear hown hg
          go_wp2_with fail
          refine (HS.out _ _ HO1.out).mono ?_
          rintro e w2 ⟨rfl, hb2⟩
          have HW2 := Lib.hid (HW1.out.trans (hb2.mono HW1.out.size))
          clear hb2
          go_wp2
          go_ret
          exact ⟨by rw [← HV.out]; rfl, HW2.out⟩
      · have d3 : decide (40 < d.size) = true := by simp; omega
        have d3' : decide ((40 : Int) < (d.size : Int)) = true := by simp; omega
        have HV := Lib.hid (cmT_no (k := k) (q := q) (d := d) (fun h => h3 h.2.2))
        rcases (show k = 0 ∨ k = 1 by omega) with rfl | rfl
        all_goals
          clear h1 h2 h3
          go_enter Tryd.func20, Tryd.ntmps20
          go_wp2_with fail
          refine (H2.out _).mono ?_
          rintro e w' ⟨rfl, rfl⟩
          go_wp2
          go_ret
          exact ⟨by rw [HV.out]; rfl, Below.refl _ _⟩
    · have H2 := Lib.hid (iq_no q h2)
      have HV := Lib.hid (cmT_no (k := k) (q := q) (d := d) (fun h => h2 h.2.1))
      rcases (show k = 0 ∨ k = 1 by omega) with rfl | rfl
      all_goals
        clear h1 h2
        go_enter Tryd.func20, Tryd.ntmps20
        go_wp2_with fail
        refine (H2.out _).mono ?_
        rintro e w' ⟨rfl, rfl⟩
        go_wp2
        go_ret
        exact ⟨by rw [HV.out]; rfl, Below.refl _ _⟩
  · have HV := Lib.hid (cmT_no (k := k) (q := q) (d := d) (fun h => h1 h.1))
    have e0 : (k != 0) = true := by simp; omega
    have e1 : (k != 1) = true := by simp; omega
    clear h1
    go_enter Tryd.func20, Tryd.ntmps20
    go_wp2
    go_ret
    exact ⟨by rw [HV.out]; rfl, Below.refl _ _⟩
end Go.Proofs.YtebfefkknaalpaaDoor
/- What this text proves: a list of texts that grows in a slice of the call's own: what an append of one text makes of it. -/
namespace Go.Proofs.YtebfefkknaalpaaDoor
open Go.ChangeShapes Go.WideShapes Go.ChangeAt Go.RowKit

/-- A slice of strings that holds the texts l in a block of its own, from block 'base' on. -/
def OwnS (w : World) (base : Nat) (v : Value) (l : List ByteArray) : Prop := w.ownsRow base 9 1 v l.length (l.map Value.string)

theorem info_str : (Tryd.prog.info? 9).map (fun i => (i.zero, i.size, i.bytes)) = some (some (.string ⟨#[]⟩), 1, 16) := by kernel_rfl

theorem OwnS.more {w w' : World} {base : Nat} {v : Value} {l : List ByteArray} (h : OwnS w base v l) (hb : Below w.heap.size w w') : OwnS w' base v l := by
  refine World.ownsRow.kept (row := none) h ⟨hb.os, hb.tape, hb.output, hb.size, fun k hk _ => hb.block k hk⟩ ?_
  by_cases he : v.ownBlock = none
  · exact .inl he
  · exact .inr he
theorem OwnS.nil (w : World) (base : Nat) : OwnS w base (.slice none 0 0) [] := World.ownsRow_nil w base _ 1
theorem OwnS.empty (w : World) (base : Nat) (hb : base ≤ w.heap.size) : OwnS (w.alloc (.cells #[] 9)) base (.slice (some ⟨w.heap.size, 0, none⟩) 0 0) [] :=
  World.ownsRow_lit w #[] 0 hb (by decide) rfl
theorem OwnS.form {w : World} {base : Nat} {v : Value} {l : List ByteArray} (h : OwnS w base v l) : ∃ A c, v = .slice A l.length c := by
  rcases h.2 with ⟨rfl, hn⟩ | ⟨g, cap, cur, rfl, _⟩
  · exact ⟨none, 0, by rw [hn]⟩
  · exact ⟨_, cap, rfl⟩
theorem OwnS.lower {w : World} {base base' : Nat} {v : Value} {l : List ByteArray} (h : OwnS w base v l) (hb : base' ≤ base) : OwnS w base' v l := by
  refine ⟨h.1, ?_⟩
  rcases h.2 with h1 | ⟨g, cap, cur, h1, h2, h3⟩
  · exact .inl h1
  · exact .inr ⟨g, cap, cur, h1, Nat.le_trans hb h2, h3⟩

theorem app_text {ops : Array Oper} {rest : List Oper} {o : Oper} {a : Act} {Q : Exit → Act → World → Prop} (w : World) (hgd : o.guard = none) (s x : Operand)
    (ho : o.op = .call { callee := .builtin .append, args := #[s, x], argTypes := #[32, 32] })
    (base : Nat) (v : Value) (l : List ByteArray) (t : ByteArray) (hs : a.eval s = v) (hown : OwnS w base v l) (T : TypeId) (c : Nat)
    (hx : a.eval x = .slice (some ⟨w.heap.size, 0, none⟩) 1 c)
    (hlen : l.length ≤ 1099511627) (hbase : base ≤ w.heap.size)
    (h : ∀ v' w', OwnS w' base v' (l ++ [t]) → Below base w w' → w.heap.size ≤ w'.heap.size → wpList Tryd.prog ops Q rest (a.put o.dst v') w') :
    wpList Tryd.prog ops Q (o :: rest) a (w.alloc (.cells #[.string t] T)) := by
  obtain ⟨i, hi, hz0, hz1, hz2⟩ := info_parts info_str
  have hown' : (w.alloc (.cells #[.string t] T)).ownsRow base 9 1 v l.length (l.map Value.string) := World.ownsRow.alloc hown _
  refine wpList_append_own _ hgd s x 32 ho base 9 i (.string ⟨#[]⟩) 1 16 Tryd.underlying32 hi hz0 hz1 hz2 rfl (by decide) v l.length (l.map Value.string) hs hown'
    ⟨w.heap.size, 0, none⟩ 1 c [.string t] hx rfl (fun j u hu => ?_) (fun u hu => ?_) (by unfold maxLen; omega) (by omega) (by simp; omega) (fun v' w' hown2 hg _ => ?_)
  · rw [show (⟨w.heap.size, 0, none⟩ : Addr).add j = ⟨w.heap.size, j, none⟩ from by unfold Addr.add; split <;> simp_all]
    rw [World.cell?_alloc_at _ _ _ _ rfl]
    simpa using hu
  · obtain rfl : u = .string t := by simpa using hu
    rfl
  · have hz : w.heap.size ≤ w'.heap.size := by have := hg.size; simp at this; omega
    refine h v' w' ?_ ?_ hz
    · unfold OwnS
      rw [List.length_append, List.map_append]
      exact hown2
    · exact ((Below.refl base w).alloc hbase _).grown hg (by simp; omega) fun k hk => (World.ownsRow.lt hown' k hk).1
end Go.Proofs.YtebfefkknaalpaaDoor
