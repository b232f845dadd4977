/- What this text proves: the parts Cbk, CmdD of the proof, each under its own words. -/
import Derived.Test.YtebfefkknaalpaaDoorV06
import Derived.Test.YtebfefkknaalpaaDoorV12
import Derived.Test.YtebfefkknaalpaaDoorV05
import Derived.RegionTactic
import Derived.BigRegion
import Derived.Deep.RegionLaw
import Derived.Outline
import Derived.Deep.RegionHeld3
import Derived.Deep.QuietTactic
import Derived.BigQuiet
/- What this text proves: the contracts of the model's CommandBlocks and of the program's: the blocks of all commands that wait. -/
namespace Go.Proofs.YtebfefkknaalpaaDoor
open Go.ChangeShapes Go.WideShapes Go.ChangeAt Go.RowKit
set_option linter.unusedVariables false

noncomputable def cbk (l : List Sn) : List ByteArray := l.map fun p => cmT 0 p.1 p.2
noncomputable def cbL (n b : Int) (l : List Sn) (d : Int) : List ByteArray := if snB n b l d = true then cbk l else []
theorem cbL_yes {n b d : Int} {l : List Sn} (h : snB n b l d = true) : cbL n b l d = cbk l := by unfold cbL; rw [if_pos h]
theorem cbL_no {n b d : Int} {l : List Sn} (h : snB n b l d = false) : cbL n b l d = [] := by unfold cbL; rw [h]; rfl
theorem cbL_len (n b : Int) (l : List Sn) (d : Int) : (cbL n b l d).length ≤ l.length := by
  unfold cbL
  split
  · unfold cbk; rw [List.length_map]; exact Nat.le_refl _
  · exact Nat.zero_le _
theorem cbk_take (l : List Sn) (k : Nat) (h : k < l.length) : cbk (l.take (k + 1)) = cbk (l.take k) ++ [cmT 0 l[k].1 l[k].2] := by
  unfold cbk
  rw [List.take_succ_eq_append_getElem h, List.map_append]
  rfl

theorem step_app_text {ops : Array Oper} {o : Oper} {a : Act} {K : Act → World → Prop} {Q : Exit → Act → World → Prop} {E : Prop} (W : World) (hgd : o.guard = none) (s x : Operand)
    (ho : o.op = .call { callee := .builtin .append, args := #[s, x], argTypes := #[32, 32] })
    (base : Nat) (v : Value) (l : List ByteArray) (t : ByteArray) (hs : a.eval s = v) (T : TypeId) (c : Nat)
    (hx : a.eval x = .slice (some ⟨W.heap.size, 0, none⟩) 1 c) (hown : OwnS W base v l)
    (hlen : l.length ≤ 1099511627) (hbase : base ≤ W.heap.size)
    (h : ∀ v' w', OwnS w' base v' (l ++ [t]) → Below base W w' → W.heap.size ≤ w'.heap.size → K (a.put o.dst v') w') :
    if Region.wanted o (yielded ops a.tmps) = true then Oper.wp Tryd.prog o a (W.alloc (.cells #[.string t] T)) K Q else E := by
  have hw : Region.wanted o (yielded ops a.tmps) = true := by simp [Region.wanted, hgd]
  rw [if_pos hw]
  obtain ⟨i, hi, hz0, hz1, hz2⟩ := info_parts info_str
  have hown' : (W.alloc (.cells #[.string t] T)).ownsRow base 9 1 v l.length (l.map Value.string) := World.ownsRow.alloc hown _
  refine wp_append_own _ s x 32 ho base 9 i (.string ⟨#[]⟩) 1 16 Tryd.underlying32 hi hz0 hz1 hz2 rfl (by decide) v l.length (l.map Value.string) hs hown'
    ⟨W.heap.size, 0, none⟩ 1 c [.string t] hx rfl (fun j u hu => ?_) (fun u hu => ?_) (by unfold maxLen; omega) (by omega) (by simp; omega) (fun v' w' hown2 hg _ => ?_)
  · rw [show (⟨W.heap.size, 0, none⟩ : Addr).add j = ⟨W.heap.size, j, none⟩ from by unfold Addr.add; split <;> simp_all]
    rw [World.cell?_alloc_at _ _ _ _ rfl]
    simpa using hu
  · obtain rfl : u = .string t := by simpa using hu
    rfl
  · have hz : W.heap.size ≤ w'.heap.size := by have := hg.size; simp at this; omega
    refine h v' w' ?_ ?_ hz
    · unfold OwnS
      rw [List.length_append, List.map_append]
      exact hown2
    · exact ((Below.refl base W).alloc hbase _).grown hg (by simp; omega) fun k hk => (World.ownsRow.lt hown' k hk).1

end Go.Proofs.YtebfefkknaalpaaDoor
/- What this text proves: the contracts of the model's DecodeCommand and of the program's: the command of a block. -/
namespace Go.Proofs.YtebfefkknaalpaaDoor
open Go.ChangeShapes Go.WideShapes Go.ChangeAt Go.RowKit
set_option linter.unusedVariables false

/-- Whether the bytes t of the sealed text s are a command. -/
def DcOk (s t : ByteArray) : Prop := 2 ≤ t.size ∧ ((cmT (byteAt t 0 : Nat) (byteAt t 1 : Nat) (t.extract 2 t.size)).toList == s.toList) = true
/-- What DecodeCommand returns: kind, number, data, whether there is one. -/
noncomputable def decC (s : ByteArray) : Int × Int × ByteArray × Bool := open Classical in
  if (openV s).2 = true ∧ DcOk s (openV s).1 then (((byteAt (openV s).1 0 : Nat) : Int), ((byteAt (openV s).1 1 : Nat) : Int), (openV s).1.extract 2 (openV s).1.size, true) else (0, 0, ⟨#[]⟩, false)
theorem decC_yes {s t : ByteArray} (ho : openV s = (t, true)) (h : DcOk s t) : decC s = (((byteAt t 0 : Nat) : Int), ((byteAt t 1 : Nat) : Int), t.extract 2 t.size, true) := by
  unfold decC; rw [ho, if_pos ⟨rfl, h⟩]
theorem decC_no {s t : ByteArray} {b : Bool} (ho : openV s = (t, b)) (h : ¬ (b = true ∧ DcOk s t)) : decC s = (0, 0, ⟨#[]⟩, false) := by
  unfold decC; rw [ho, if_neg h]
def retC (r : Int × Int × ByteArray × Bool) : Ending := .returned (.tuple #[.int .i64 r.1, .int .i64 r.2.1, .string r.2.2.1, .bool r.2.2.2])
theorem cmT_size (k q : Int) (d : ByteArray) : (cmT k q d).size ≤ 1048576 := by
  unfold cmT
  split
  · rename_i h
    unfold sealS
    have h1 := putS_four_le k 1
    have h2 := putS_four_le q 1
    have h3 := putS_four_le (crc (putS k 1 ++ putS q 1 ++ d) : Nat) 2
    have h4 := h.2.2
    rw [ByteArray.size_append, ByteArray.size_append, ByteArray.size_append]
    omega
  · show (#[] : Array UInt8).size ≤ _
    decide

theorem results_tmp4 {fn : Func} {t u v x : Tmp} (h : fn.results = #[.tmp t, .tmp u, .tmp v, .tmp x]) (tmps : Array Value) (P : Program) (w : World) :
    (results fn tmps).run P w = .ok (.tuple #[tmps.getD t undef, tmps.getD u undef, tmps.getD v undef, tmps.getD x undef]) w := by
  simp [results, h]
theorem openV_size (s : ByteArray) : (openV s).1.size ≤ s.size := by
  unfold openV
  split
  · show (s.extract 0 (s.size - 2)).size ≤ _
    rw [ByteArray.size_extract]; omega
  · show (#[] : Array UInt8).size ≤ _
    simp

set_option maxHeartbeats 4000000 in
theorem decC_impl (s : ByteArray) (hs : s.size ≤ 1048576) (w : World) :
    Calls Tryd.prog 21 #[.string s] w fun e w' => e = retC (decC s) ∧ Below w.heap.size w w' := by
  have HO0 := open_impl s hs
  have hts := openV_size s
  obtain ⟨⟨t, b⟩, hP⟩ : ∃ P, openV s = P := ⟨_, rfl⟩
  rw [hP] at HO0 hts
  simp only [retO] at HO0
  have hts : t.size ≤ 1048576 := Nat.le_trans hts hs
  have HO := Lib.hid HO0
  have HP := Lib.hid hP
  clear HO0 hP
  by_cases hb : b = true ∧ 2 ≤ t.size
  · obtain ⟨rfl, hz⟩ := hb
    have d2 : decide (t.size < 2) = false := by simp; omega
    have d2' : decide ((t.size : Int) < 2) = false := by simp; omega
    have e0 := byteAt_of t 0 (by omega)
    have e1 := byteAt_of t 1 (by omega)
    have l0 := byteAt_lt t 0
    have l1 := byteAt_lt t 1
    have hsl : ∀ W : World, (Instr.slice 9 (.string t) (some (.int .i64 2)) none none).run Tryd.prog W = .ok (.string (t.extract 2 t.size)) W := fun W => by
      have h := run_slice_string_from_if W 9 t .i64 2 Tryd.underlying9
      rw [if_pos (by omega)] at h
      exact h
    have HDY := Lib.hid (fun h => decC_yes HP.out (t := t) h)
    have HDN := Lib.hid (fun h => decC_no HP.out (t := t) (b := true) h)
    have hDS : (t.extract 2 t.size).size ≤ 1100000 := by rw [ByteArray.size_extract]; omega
    have HDF := Lib.hid (show DcOk s t ↔ ((cmT (byteAt t 0 : Nat) (byteAt t 1 : Nat) (t.extract 2 t.size)).toList == s.toList) = true from ⟨fun h => h.2, fun h => ⟨hz, h⟩⟩)
    have hc := fun W => encC_impl (byteAt t 0 : Nat) (byteAt t 1 : Nat) (t.extract 2 t.size) hDS W
    clear hDS
    generalize t.extract 2 t.size = D at *
    generalize byteAt t 0 = X at *
    generalize byteAt t 1 = Y at *
    generalize cmT (X : Int) (Y : Int) D = E at *
    have HC := Lib.hid hc
    clear hc
    have w0 : IntKind.i64.wrap (X : Int) = (X : Int) := IntWalk.i64_in _ (by omega)
    have w1 : IntKind.i64.wrap (Y : Int) = (Y : Int) := IntWalk.i64_in _ (by omega)
    by_cases hE : (E.toList == s.toList) = true
    · have hE' : (E.toList != s.toList) = false := by rw [bne, hE]; rfl
      have HV := Lib.hid (HDY.out (HDF.out.2 hE))
      go_enter Tryd.func21, Tryd.ntmps21
      go_wp2_with fail
      refine (HO.out _).mono ?_
      rintro e v1 ⟨rfl, hb1⟩
      have BB1 := Lib.hid hb1
      clear hb1
      go_wp2
      go_region
      all_goals go_wp2_with fail
      all_goals refine (HC.out _).mono ?_
      all_goals rintro e v2 ⟨rfl, hb2⟩
      all_goals have BW := BB1.out.drew.trans (hb2.mono BB1.out.drew.size)
      all_goals clear hb2
      all_goals go_wp2
      all_goals (try simp only [Exit.inBlock, Exit.then])
      all_goals refine bodyPost_ret (results_tmp4 rfl _ _ _) rfl ?_
      all_goals exact ⟨by rw [HV.out]; rfl, by first | exact BB1.out | exact below_draws BB1.out _ | exact BW | exact BW.drew⟩
    · have hE' : (E.toList != s.toList) = true := by rw [bne]; simpa using hE
      have hE2 : (E.toList == s.toList) = false := by simpa using hE
      have HV := Lib.hid (HDN.out (fun h => hE (HDF.out.1 h.2)))
      go_enter Tryd.func21, Tryd.ntmps21
      go_wp2_with fail
      refine (HO.out _).mono ?_
      rintro e v1 ⟨rfl, hb1⟩
      have BB1 := Lib.hid hb1
      clear hb1
      go_wp2
      go_region
      all_goals go_wp2_with fail
      all_goals refine (HC.out _).mono ?_
      all_goals rintro e v2 ⟨rfl, hb2⟩
      all_goals have BW := BB1.out.drew.trans (hb2.mono BB1.out.drew.size)
      all_goals clear hb2
      all_goals go_wp2
      all_goals (try simp only [Exit.inBlock, Exit.then])
      all_goals refine bodyPost_ret (results_tmp4 rfl _ _ _) rfl ?_
      all_goals exact ⟨by rw [HV.out]; rfl, by first | exact BB1.out | exact below_draws BB1.out _ | exact BW | exact BW.drew⟩
  · have HV := Lib.hid (decC_no HP.out (b := b) (fun h => hb ⟨h.1, h.2.1⟩))
    cases b with
    | true =>
      have d2 : decide (t.size < 2) = true := by simp; rcases Nat.lt_or_ge t.size 2 with h | h; exact h; exact absurd ⟨rfl, h⟩ hb
      have d2' : decide ((t.size : Int) < 2) = true := by simp at d2 ⊢; omega
      clear hb
      go_enter Tryd.func21, Tryd.ntmps21
      go_wp2_with fail
      refine (HO.out _).mono ?_
      rintro e v1 ⟨rfl, hb1⟩
      have BB1 := Lib.hid hb1
      clear hb1
      go_wp2
      all_goals (try simp only [Exit.inBlock, Exit.then])
      all_goals refine bodyPost_ret (results_tmp4 rfl _ _ _) rfl ?_
      all_goals exact ⟨by rw [HV.out]; rfl, by first | exact BB1.out | exact below_draws BB1.out _ | exact BW | exact BW.drew⟩
    | false =>
      clear hb
      go_enter Tryd.func21, Tryd.ntmps21
      go_wp2_with fail
      refine (HO.out _).mono ?_
      rintro e v1 ⟨rfl, hb1⟩
      have BB1 := Lib.hid hb1
      clear hb1
      go_wp2
      all_goals (try simp only [Exit.inBlock, Exit.then])
      all_goals refine bodyPost_ret (results_tmp4 rfl _ _ _) rfl ?_
      all_goals exact ⟨by rw [HV.out]; rfl, by first | exact BB1.out | exact below_draws BB1.out _ | exact BW | exact BW.drew⟩
end Go.Proofs.YtebfefkknaalpaaDoor
