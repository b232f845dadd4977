/- What this text proves: the parts Fit of the proof, each under its own words. -/
import Derived.Test.YtckofkdeedbbgaaV28
import Derived.Test.YtckofkdeedbbgaaV07
import Derived.Lib.Join
import Derived.Deep.RegionHeld3
/- What this text proves: the contracts of FileText, of the program and the model. -/
namespace Go.Proofs.Ytckofkdeedbbgaa
open Go.ChangeShapes Go.WideShapes Go.ChangeAt Go.RowKit Go.Maps
set_option linter.unusedVariables false

/-- The first parts, one after the other. -/
def catT (l : List ByteArray) : Nat → ByteArray
  | 0 => ⟨#[]⟩
  | k + 1 => catT l k ++ l.getD k ⟨#[]⟩
theorem catT_succ {l : List ByteArray} {k : Nat} (hk : k < l.length) : catT l (k + 1) = catT l k ++ l[k] := by
  show catT l k ++ l.getD k ⟨#[]⟩ = _
  congr 1
  simp [List.getD, hk]
theorem catT_size {l : List ByteArray} (h : Few l) (k : Nat) : (catT l k).size ≤ 24 * k := by
  induction k with
  | zero => exact Nat.le_refl _
  | succ k ih =>
    show (catT l k ++ l.getD k ⟨#[]⟩).size ≤ _
    rw [ByteArray.size_append]
    have : (l.getD k ⟨#[]⟩).size ≤ 24 := by
      by_cases hk : k < l.length
      · have := h k hk
        rw [show l.getD k ⟨#[]⟩ = l[k] by simp [List.getD, hk]]
        omega
      · rw [show l.getD k ⟨#[]⟩ = ⟨#[]⟩ by simp [List.getD, hk]]
        exact Nat.zero_le _
    omega
theorem join_flat (xs : List (List UInt8)) : Lib.join xs [] = xs.flatten := by
  cases xs with
  | nil => rfl
  | cons x r =>
    rw [Lib.join_cons]
    show x ++ (r.map ([] ++ ·)).flatten = _
    simp
theorem catT_list (l : List ByteArray) (n : Nat) (hn : n ≤ l.length) : ((l.take n).map (·.data.toList)).flatten = (catT l n).data.toList := by
  induction n with
  | zero => rfl
  | succ n ih =>
    rw [List.take_succ_eq_append_getElem hn, List.map_append, List.flatten_append, ih (by omega), catT_succ hn]
    simp
theorem catT_join (l : List ByteArray) (n : Nat) (hn : n ≤ l.length) : (⟨(Lib.join ((l.take n).map (·.data.toList)) ((⟨#[]⟩ : ByteArray).data.toList)).toArray⟩ : ByteArray) = catT l n := by
  rw [show ((⟨#[]⟩ : ByteArray).data.toList) = [] from rfl, join_flat, catT_list l n hn]
/-- What FileText answers. -/
noncomputable def ftR (f s c : Int) (l : List ByteArray) : ByteArray × Bool := open Classical in
  if (FiOk f s c l ∧ s ≠ -1) ∧ lackU l (cntS s).toNat = [] ∧ ((catT l (cntS s).toNat).size : Int) = s ∧ ((crc (catT l (cntS s).toNat) : Nat) : Int) = c then (catT l (cntS s).toNat, true) else (⟨#[]⟩, false)
theorem ftR_no {f s c : Int} {l : List ByteArray} (h : ¬ ((FiOk f s c l ∧ s ≠ -1) ∧ lackU l (cntS s).toNat = [] ∧ ((catT l (cntS s).toNat).size : Int) = s ∧ ((crc (catT l (cntS s).toNat) : Nat) : Int) = c)) : ftR f s c l = (⟨#[]⟩, false) := by unfold ftR; exact if_neg h
theorem ftR_yes {f s c : Int} {l : List ByteArray} (h : (FiOk f s c l ∧ s ≠ -1) ∧ lackU l (cntS s).toNat = [] ∧ ((catT l (cntS s).toNat).size : Int) = s ∧ ((crc (catT l (cntS s).toNat) : Nat) : Int) = c) : ftR f s c l = (catT l (cntS s).toNat, true) := by unfold ftR; exact if_pos h
def FtEnd (w : World) (r : ByteArray × Bool) (e : Ending) (w' : World) : Prop := e = .returned (.tuple #[.string r.1, .bool r.2]) ∧ Below w.heap.size w w'
theorem head_stx (A : Option Addr) (n c K : Nat) (hK : K ≤ c) (W : World) : (Instr.slice 65 (.slice A n c) none (some (.int .i64 (K : Int))) none).run Try.prog W = .ok (.slice A K c) W := by
  have ht : Try.prog.underlying 65 = some (.slice 9) := Try.underlying65
  have he : Try.prog.elem 65 = 9 := by simp [Program.elem, ht]
  obtain ⟨i, hi, _, _, _⟩ := info_parts info_str
  rw [run_slice_h W 65 _ _ _ (by rw [he]; exact ht) .i64 _ (by omega) (by omega), he, run_sizeOf _ hi]
  cases A with
  | none => simp [Result.andThen, sliced]
  | some a => simp [Result.andThen, sliced, Addr.add]
theorem join_pl (A : Option Addr) (l : List ByteArray) (q n : Nat) (hn : n ≤ l.length) (hq : l.length ≤ q) (hn25 : n ≤ 25) (hsz : (catT l n).size ≤ 10000) (w : World) (h : LsI 1 w w.heap.size A (l.map txC)) :
    Calls Try.prog 93 #[.slice A n q, .string ⟨#[]⟩] w fun e w' => e = .returned (.string (catT l n)) ∧ Below w.heap.size w w' := by
  rcases Nat.eq_zero_or_pos n with h0 | h0
  · subst h0
    exact (Try.strings_Join_none A q ⟨#[]⟩ w).mono fun e w' ⟨h1, h2⟩ => ⟨h1, by rw [h2]; exact Below.refl _ _⟩
  · obtain ⟨b, off, rfl, hb, hc⟩ := txCellsI h (by omega)
    have hl : (l.take n).length = n := by rw [List.length_take]; omega
    have hj := catT_join l n hn
    have hjl : (Lib.join ((l.take n).map (·.data.toList)) ((⟨#[]⟩ : ByteArray).data.toList)).length = (catT l n).size := by rw [← hj]; show _ = Array.size _; rw [List.size_toArray]
    have hm := Try.strings_Join b off q (l.take n) ⟨#[]⟩ w (fun j x hx => by
      obtain ⟨hjl, e⟩ := List.getElem?_eq_some_iff.1 hx
      rw [List.getElem_take] at e
      rw [← e]
      exact hc j (by omega)) hb (by omega) (by omega) (by rw [hjl]; omega)
    rw [hl, hj] at hm
    exact hm

set_option maxRecDepth 20000 in
set_option maxHeartbeats 8000000 in
theorem ft_impl (f s c : Int) (A : Option Addr) (l : List ByteArray) (q : Nat) (hl : l.length ≤ 2000000) (hq : l.length ≤ q) (w : World) (h : LsI 1 w w.heap.size A (l.map txC)) :
    Calls Try.prog 32 #[fiV f s c (.slice A l.length q)] w (FtEnd w (ftR f s c l)) := by
  have S1 := Lib.hid ((St.start w).made (fiL f s c (.slice A l.length q)) 67)
  have HK := Lib.hid (kne_impl f s c A l q hl _ (h.full S1.out.below))
  have HM := Lib.hid (fun (hcl : cntS s ≤ l.length) W (hb : Below w.heap.size w W) => msg_impl f s c A l q hl hcl W (h.full hb))
  have HI := Lib.hid (fun W (hb : Below w.heap.size w W) => h.full hb)
  have HCB := cntS_bd s
  have HN := Lib.hid (fun h => ftR_no (f := f) (s := s) (c := c) (l := l) h)
  have HY := Lib.hid (fun h => ftR_yes (f := f) (s := s) (c := c) (l := l) h)
  obtain ⟨k0, k1, k2, k3⟩ := (S1.out.box 0 _ _ rfl).fourFi
  clear h
  by_cases hok : FiOk f s c l ∧ s ≠ -1
  · rw [show (fiB f s c l && s != -1) = true by rw [fiB_yes hok.1]; simpa using hok.2] at HK
    have hl25 : l.length = 25 := hok.1.2.2.2.2.1
    have hfew := hok.1.2.2.2.2.2
    have HOK := Lib.hid hok
    have HC := Lib.hid (cnt_impl s)
    obtain ⟨n, hn⟩ : ∃ n : Nat, cntS s = (n : Int) := ⟨(cntS s).toNat, by omega⟩
    have HMM := Lib.hid (HM.out (by omega))
    rw [hn] at HY HN HC HMM
    rw [Int.toNat_natCast] at HY HN
    have hn25 : n ≤ l.length := by omega
    have hnb : n ≤ 25 := by omega
    clear hl25
    have HPM := Lib.hid (fun x => lackU_mem n hn25 x)
    have HPN := Lib.hid ((lackU_asc l n hn25).imp (S := (· ≠ ·)) fun h e => by omega)
    have HPL := lackU_len l n
    have HSZ := catT_size hfew n
    have HJ := Lib.hid (fun W (hb : Below w.heap.size w W) => join_pl A l q n hn25 hq hnb (by omega) W (HI.out W hb))
    have s1 := head_stx A l.length q n (by omega)
    have HCK := Lib.hid (fun W => (check_impl (catT l n) (by unfold maxLen; omega) W).mono fun e w' h => (show e = .returned (.int .i64 ((crc (catT l n) : Nat) : Int)) ∧ Below W.heap.size W w' from ⟨h.1, by obtain ⟨_, pos, hp⟩ := h; rw [hp]; exact below_iter _ _ _⟩))
    clear hok HM hn HCB hfew HI
    go_enter Try.func32, Try.ntmps32
    go_wp2_with fail
    refine HK.out.mono ?_
    rintro e w2 ⟨rfl, hb2⟩
    have S2 := Lib.hid (S1.out.more hb2)
    clear S1 hb2 k0 k1 k2 k3 HK
    obtain ⟨k0, k1, k2, k3⟩ := (S2.out.box 0 _ _ rfl).fourFi
    have HM2 := Lib.hid (HMM.out _ S2.out.below)
    go_wp2_with fail
    refine HM2.out.mono ?_
    rintro e w3 ⟨b, nn, D0, rfl, hb0, hn0, hown, hhas, hb3⟩
    have S3 := Lib.hid (S2.out.more hb3)
    clear S2 hb3 k0 k1 k2 k3 HM2 HMM
    obtain ⟨k0, k1, k2, k3⟩ := (S3.out.box 0 _ _ rfl).fourFi
    have HSM := hhas.len hown HPN.out HPM.out
    have hlm := fun ty => hown.len (t := 148) (e := 4) Try.underlying148 ty
    rw [HSM] at hlm
    clear hown hhas HPM HPN HSM
    by_cases hlk : lackU l n = []
    · have HLK := Lib.hid hlk
      rw [hlk] at hlm
      have hg0 : decide ((0 : Int) < (([] : List Int).length : Int)) = false := by simp
      have hlm : ∀ ty, (Builtin.len_ #[148] ty #[.map (some b)]).run Try.prog w3 = .ok (.int .i64 0) w3 := hlm
      have HJ3 := Lib.hid (HJ.out _ S3.out.drew.below)
      go_upto_region 3 with fail
      clear hlm
      go_region_held3 (fun w' => w'.cell? ⟨w.heap.size, 1, none⟩ = some (.int .i64 s) ∧ w'.cell? ⟨w.heap.size, 3, none⟩ = some (.slice A l.length q)) (first | exact ⟨k1, k3⟩ | exact ⟨j1, j3⟩)
        (first
        | (go_at_call 78; (with_reducible refine (HC.out _).mono ?_); rintro e w' ⟨rfl, rfl⟩)
        | (go_at_call 93; (with_reducible refine HJ3.out.mono ?_); rintro e w5 ⟨rfl, hb5⟩; have S5 := Lib.hid (S3.out.drew.more hb5); obtain ⟨j0, j1, j2, j3⟩ := (S5.out.box 0 _ _ rfl).fourFi))
      all_goals
        clear S3 hb5 k0 k1 k2 k3 HJ3 HJ s1
        generalize hT : catT l n = T at *
        by_cases hs1 : (T.size : Int) = s
        · have d1 : ((T.size : Int) != s) = false := by simpa using hs1
          have HD := Lib.hid hs1
          clear hs1
          by_cases hs2 : ((crc T : Nat) : Int) = c
          · have d2 : (((crc T : Nat) : Int) != c) = false := by simpa using hs2
            have HV := Lib.hid (HY.out ⟨HOK.out, HLK.out, HD.out, hs2⟩)
            clear hs2 HY HN
            generalize ((crc T : Nat) : Int) = K at *
            go_wp2
            go_region_held3 (fun w' => w'.cell? ⟨w.heap.size, 1, none⟩ = some (.int .i64 s) ∧ w'.cell? ⟨w.heap.size, 2, none⟩ = some (.int .i64 c)) (first | exact ⟨j1, j2⟩ | exact ⟨i1, i2⟩)
              (first
              | (go_at_call 84; (with_reducible refine (HCK.out _).mono ?_); rintro e w6 ⟨rfl, hb6⟩; have S6 := Lib.hid (S5.out.drew.more hb6); obtain ⟨i0, i1, i2, i3⟩ := (S6.out.box 0 _ _ rfl).fourFi))
            all_goals
              clear hb6 S5 j0 j1 j2 j3
              go_wp2
              go_ret2
              exact ⟨by rw [HV.out]; rfl, S6.out.below⟩
          · have d2 : (((crc T : Nat) : Int) != c) = true := by simpa using hs2
            have HV := Lib.hid (HN.out (fun g => hs2 g.2.2.2))
            clear hs2 HY HN
            generalize ((crc T : Nat) : Int) = K at *
            go_wp2
            go_region_held3 (fun w' => w'.cell? ⟨w.heap.size, 1, none⟩ = some (.int .i64 s) ∧ w'.cell? ⟨w.heap.size, 2, none⟩ = some (.int .i64 c)) (first | exact ⟨j1, j2⟩ | exact ⟨i1, i2⟩)
              (first
              | (go_at_call 84; (with_reducible refine (HCK.out _).mono ?_); rintro e w6 ⟨rfl, hb6⟩; have S6 := Lib.hid (S5.out.drew.more hb6); obtain ⟨i0, i1, i2, i3⟩ := (S6.out.box 0 _ _ rfl).fourFi))
            all_goals
              clear hb6 S5 j0 j1 j2 j3
              go_wp2
              go_ret2
              exact ⟨by rw [HV.out]; rfl, S6.out.below⟩
        · have d1 : ((T.size : Int) != s) = true := by simpa using hs1
          have HV := Lib.hid (HN.out (fun g => hs1 g.2.2.1))
          clear hs1 HY HN
          go_wp2
          go_quiet (fail)
          go_wp2
          go_ret2
          exact ⟨by rw [HV.out]; rfl, (S5.out.drewN _).below⟩
    · have hg0 : decide ((0 : Int) < ((lackU l n).length : Int)) = true := by
        have h9 : (lackU l n).length ≠ 0 := fun e => hlk (List.length_eq_zero_iff.1 e)
        simp; omega
      have HV := Lib.hid (HN.out (fun g => hlk g.2.1))
      have hgp : 0 < (lackU l n).length := Nat.pos_of_ne_zero (fun e => hlk (List.length_eq_zero_iff.1 e))
      have hgq : decide (0 < (lackU l n).length) = true := by simpa using hgp
      clear hlk HJ s1 HY HN HSZ HCK
      generalize (lackU l n).length = LN at *
      go_wp2
      go_ret2
      exact ⟨by rw [HV.out]; rfl, S3.out.below⟩
  · rw [show (fiB f s c l && s != -1) = false by
      by_cases g : FiOk f s c l
      · have g2 : s = -1 := by by_cases e : s = -1; exact e; exact absurd ⟨g, e⟩ hok
        rw [g2]; simp
      · rw [fiB_no g]; rfl] at HK
    have HV := Lib.hid (HN.out (fun g => hok g.1))
    clear HM hok HCB HY HN HI
    go_enter Try.func32, Try.ntmps32
    go_wp2_with fail
    refine HK.out.mono ?_
    rintro e w2 ⟨rfl, hb2⟩
    have S2 := Lib.hid (S1.out.more hb2)
    clear S1 hb2 k0 k1 k2 k3 HK
    obtain ⟨k0, k1, k2, k3⟩ := (S2.out.box 0 _ _ rfl).fourFi
    go_wp2
    go_ret2
    exact ⟨by rw [HV.out]; rfl, S2.out.below⟩

end Go.Proofs.Ytckofkdeedbbgaa
