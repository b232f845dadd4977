/- What this text proves: the parts Mos of the proof, each under its own words. -/
import Derived.Test.YtckofkdeedbbgaaV27
import Derived.Test.YtckofkdeedbbgaaShelf
import Derived.Test.YtckofkdeedbbgaaV16
import Derived.Test.YtckofkdeedbbgaaV15
import Derived.Deep.Cut
/- What this text proves: the contracts of MissingOf, of the program and the model. -/
namespace Go.Proofs.Ytckofkdeedbbgaa
open Go.ChangeShapes Go.WideShapes Go.ChangeAt Go.RowKit Go.Maps Go.Sort Go.Shelf
set_option linter.unusedVariables false

/-- The numbers of the empty ones among the first parts. -/
def lackU (l : List ByteArray) : Nat → List Int
  | 0 => []
  | k + 1 => if (l.getD k ⟨#[0]⟩).size = 0 then lackU l k ++ [(k : Int)] else lackU l k
theorem lackU_yes {l : List ByteArray} {k : Nat} (hk : k < l.length) (h : l[k].size = 0) : lackU l (k + 1) = lackU l k ++ [(k : Int)] := by
  show (if (l.getD k ⟨#[0]⟩).size = 0 then _ else _) = _
  rw [if_pos (by simpa [List.getD, hk] using h)]
theorem lackU_no {l : List ByteArray} {k : Nat} (hk : k < l.length) (h : ¬ l[k].size = 0) : lackU l (k + 1) = lackU l k := by
  show (if (l.getD k ⟨#[0]⟩).size = 0 then _ else _) = _
  rw [if_neg (by simpa [List.getD, hk] using h)]
theorem lackU_len (l : List ByteArray) (k : Nat) : (lackU l k).length ≤ k := by
  induction k with
  | zero => exact Nat.le_refl _
  | succ k ih =>
    show (if (l.getD k ⟨#[0]⟩).size = 0 then lackU l k ++ [(k : Int)] else lackU l k).length ≤ _
    split
    · rw [List.length_append]; simp; omega
    · omega
theorem lackU_mem {l : List ByteArray} (k : Nat) (hk : k ≤ l.length) (x : Int) : x ∈ lackU l k ↔ Lacks l (k : Int) x := by
  induction k with
  | zero =>
    constructor
    · intro h; cases h
    · rintro ⟨h0, h1, _⟩; omega
  | succ k ih =>
    have ih' := ih (by omega)
    by_cases h : l[k].size = 0
    · rw [lackU_yes (by omega) h, List.mem_append, ih', List.mem_singleton]
      constructor
      · rintro (⟨h0, h1, h2⟩ | rfl)
        · exact ⟨h0, by omega, h2⟩
        · exact ⟨by omega, by omega, by simpa using (by omega : k < l.length), by simpa using h⟩
      · rintro ⟨h0, h1, h2⟩
        by_cases e : x = (k : Int)
        · exact .inr e
        · exact .inl ⟨h0, by omega, h2⟩
    · rw [lackU_no (by omega) h, ih']
      constructor
      · rintro ⟨h0, h1, h2⟩
        exact ⟨h0, by omega, h2⟩
      · rintro ⟨h0, h1, h4, h5⟩
        refine ⟨h0, ?_, h4, h5⟩
        have e : x ≠ (k : Int) := fun e => h (by
          have e2 : x.toNat = k := by omega
          subst e2
          exact h5)
        omega
theorem lackU_asc (l : List ByteArray) (k : Nat) (hk : k ≤ l.length) : (lackU l k).Pairwise (· < ·) := by
  induction k with
  | zero => exact List.Pairwise.nil
  | succ k ih =>
    have ih' := ih (by omega)
    by_cases h : l[k].size = 0
    · rw [lackU_yes (by omega) h, List.pairwise_append]
      refine ⟨ih', List.pairwise_singleton _ _, fun a ha b hb => ?_⟩
      rw [List.mem_singleton.1 hb]
      exact ((lackU_mem k (by omega) a).1 ha).2.1
    · rw [lackU_no (by omega) h]; exact ih'
theorem lackU_ext (l : List ByteArray) (k j : Nat) : ∃ r, lackU l (k + j) = lackU l k ++ r := by
  induction j with
  | zero => exact ⟨[], by simp⟩
  | succ j ih =>
    obtain ⟨r, hr⟩ := ih
    show ∃ r', (if (l.getD (k + j) ⟨#[0]⟩).size = 0 then lackU l (k + j) ++ [((k + j : Nat) : Int)] else lackU l (k + j)) = lackU l k ++ r'
    split
    · exact ⟨r ++ [((k + j : Nat) : Int)], by rw [hr, List.append_assoc]⟩
    · exact ⟨r, hr⟩
theorem lackU_take {l : List ByteArray} {k n : Nat} (hkn : k ≤ n) (h : k = n ∧ (lackU l k).length ≤ 20 ∨ (lackU l k).length = 20) : (lackU l n).take 20 = lackU l k := by
  rcases h with ⟨rfl, h⟩ | h
  · exact List.take_of_length_le h
  · obtain ⟨j, rfl⟩ : ∃ j, n = k + j := ⟨n - k, by omega⟩
    obtain ⟨r, hr⟩ := lackU_ext l k j
    rw [hr, ← h, List.take_left']
    rfl
theorem lackU_sort {l : List ByteArray} {k : Nat} (hk : k ≤ l.length) {ss : List Int} (h : ss.Perm (lackU l k)) : ss.mergeSort (fun x y => decide (x ≤ y)) = lackU l k := by
  rw [show (fun x y : Int => decide (x ≤ y)) = leI from rfl, mergeSort_of_perm_i h]
  exact List.mergeSort_of_pairwise ((lackU_asc l k hk).imp fun h => by simp only [leI, decide_eq_true_eq]; omega)
/-- What MissingOf answers. -/
noncomputable def misL (f s c : Int) (l : List ByteArray) : List Int := open Classical in if FiOk f s c l ∧ s ≠ -1 then (lackU l (cntS s).toNat).take 20 else []
theorem misL_no {f s c : Int} {l : List ByteArray} (h : ¬ (FiOk f s c l ∧ s ≠ -1)) : misL f s c l = [] := by unfold misL; exact if_neg h
theorem misL_yes {f s c : Int} {l : List ByteArray} (h : FiOk f s c l ∧ s ≠ -1) : misL f s c l = (lackU l (cntS s).toNat).take 20 := by unfold misL; exact if_pos h
theorem misL_len (f s c : Int) (l : List ByteArray) : (misL f s c l).length ≤ 20 := by
  by_cases h : FiOk f s c l ∧ s ≠ -1
  · rw [misL_yes h, List.length_take]; omega
  · rw [misL_no h]; exact Nat.zero_le _
def InEnd (w : World) (r : List Int) (e : Ending) (w' : World) : Prop := Gives w (fun v => inT v r) e w'
theorem LsO.take {n : Nat} {w : World} {base : Nat} {A : Option Addr} {N c : Nat} {l : List (List Value)} (h : LsO n w base (.slice A N c) l) (m : Nat) (hm : m ≤ N) : LsO n w base (.slice A m c) (l.take m) := by
  have hN := h.len
  have hmm : (l.take m).length = m := by rw [List.length_take]; omega
  refine ⟨⟨A, c, by rw [hmm]⟩, fun k hk => h.up k (by cases A with | none => exact hk | some a => exact hk), fun x hx => h.wide x (List.mem_of_mem_take hx), fun h0 => ?_, fun A' m' c' e => ?_⟩
  · rw [hmm] at h0
    obtain ⟨g, off, ⟨c', hv⟩, hc, hf⟩ := h.rows (by omega)
    injection hv with h1 h2 h3
    subst h1
    refine ⟨g, off, ⟨c, by rw [hmm]⟩, fun k hk j hj => ?_, hf⟩
    rw [hmm] at hk
    rw [hc k (by omega) j hj, List.getElem_take]
  · injection e with _ h2 h3
    have := h.cap _ _ _ rfl
    omega
theorem head_sin (A : Option Addr) (n c K : Nat) (hK : K ≤ c) (W : World) : (Instr.slice 24 (.slice A n c) none (some (.int .i64 (K : Int))) none).run Try.prog W = .ok (.slice A K c) W := by
  have ht : Try.prog.underlying 24 = some (.slice 3) := Try.underlying24
  have he : Try.prog.elem 24 = 3 := by simp [Program.elem, ht]
  obtain ⟨i, hi, _, _, _⟩ := info_parts info_int
  rw [run_slice_h W 24 _ _ _ (by rw [he]; exact ht) .i64 _ (by omega) (by omega), he, run_sizeOf _ hi]
  cases A with
  | none => simp [Result.andThen, sliced]
  | some a => simp [Result.andThen, sliced, Addr.add]
theorem sorts_in (m : Nat) : AnyZI.SortsIn Try.prog Try.sortedA_ren Fence.wide m :=
  ⟨fun blk off cap ss W hH hblk hsz => callsIn_wide.2 (Try.slices_Sort_int blk off cap ss W hH hblk hsz),
   fun p cap W => callsIn_wide.2 (Try.slices_Sort_int_none p cap W)⟩
theorem keys_pl (mb : Option Nat) (W : World) : Calls Try.prog 91 #[.map mb] W fun e w' => e = .returned (.func (.func 144) #[] #[.pointer (some ⟨W.heap.size, 0, none⟩)]) ∧ w' = W.alloc (.cells #[.map mb] 148) :=
  (callsIn_wide (n := 5)).1 (AnyZI.keys_in Try.keysA Fence.wide 5 trivial rfl mb W)
set_option maxHeartbeats 1000000 in
theorem sorted_pl (b nn : Nat) (D0 : DataW Unit) (R : Value → Option (DataW Unit × List MemPlace)) (w : World) (hown : w.ownsMap Try.prog 3 R b nn D0) (hmax : Maps.size D0 ≤ 1000) :
    Calls Try.prog 90 #[.func (.func 144) #[] #[.pointer (some ⟨w.heap.size, 0, none⟩)]] (w.alloc (.cells #[.map (some b)] 148)) fun e w' => ∃ (v : Value) (ss : List Int), e = .returned v ∧ ss.Perm (intKeys D0) ∧
      w'.ownsRow (w.alloc (.cells #[.map (some b)] 148)).heap.size 3 1 v ss.length ((ss.mergeSort (fun x y => decide (x ≤ y))).map encZ) ∧ (v = .slice none 0 0 ↔ ss = []) ∧ Below (w.alloc (.cells #[.map (some b)] 148)).heap.size (w.alloc (.cells #[.map (some b)] 148)) w' := by
  refine (callsIn_wide (n := 5)).1 ?_
  have hbl := hown.lt
  have hseq : SeqGives Fence.wide 2 Try.prog 144 #[.pointer (some ⟨w.heap.size, 0, none⟩)] encZ (fun ss => ss.Perm (intKeys D0)) (Maps.size D0) (w.alloc (.cells #[.map (some b)] 148)) :=
    AnyZI.keys_gives (ρ := Try.keysA_ren) { Try.keysA with } Fence.wide _ trivial rfl (by omega) w.heap.size b nn D0 _ (by simp) (by simp) (by
      obtain ⟨es, clock, hb, Ft, hs, hD⟩ := hown
      exact ⟨es, clock, (Below.heap_alloc _ _ b hbl).trans hb, Ft, hs, hD⟩)
  exact AnyZI.sorted_in Try.sortedA Fence.wide 5 trivial trivial trivial trivial rfl (by omega) (sorts_in _) (enters_of Try.func143 (by kernel_rfl) rfl) 144 #[.pointer (some ⟨w.heap.size, 0, none⟩)] trivial (enters_of Try.func144 (by kernel_rfl) rfl) _ _ (by unfold maxLen; omega) (by omega) _ hseq

set_option maxRecDepth 20000 in
set_option maxHeartbeats 4000000 in
theorem mo_impl (f s c : Int) (A : Option Addr) (l : List ByteArray) (q : Nat) (hl : l.length ≤ 2000000) (w : World) (h : LsI 1 w w.heap.size A (l.map txC)) :
    Calls Try.prog 31 #[fiV f s c (.slice A l.length q)] w (InEnd w (misL f s c l)) := by
  have S1 := Lib.hid ((St.start w).made (fiL f s c (.slice A l.length q)) 67)
  have HK := Lib.hid (kne_impl f s c A l q hl _ (h.full S1.out.below))
  have HM := Lib.hid (fun (hcl : cntS s ≤ l.length) W (hb : Below w.heap.size w W) => msg_impl f s c A l q hl hcl W (h.full hb))
  have HCB := cntS_bd s
  obtain ⟨k0, k1, k2, k3⟩ := (S1.out.box 0 _ _ rfl).fourFi
  clear h
  by_cases hok : FiOk f s c l ∧ s ≠ -1
  · rw [show (fiB f s c l && s != -1) = true by rw [fiB_yes hok.1]; simpa using hok.2] at HK
    have HV := Lib.hid (misL_yes hok)
    have hl25 : l.length = 25 := hok.1.2.2.2.2.1
    obtain ⟨n, hn⟩ : ∃ n : Nat, cntS s = (n : Int) := ⟨(cntS s).toNat, by omega⟩
    have HMM := Lib.hid (HM.out (by omega))
    rw [hn] at HV HMM
    rw [Int.toNat_natCast] at HV
    have hn25 : n ≤ l.length := by omega
    have hnb : n ≤ 25 := by omega
    clear hl25
    have HPM := Lib.hid (fun x => lackU_mem n hn25 x)
    have HPS := Lib.hid (fun (ss : List Int) (hp : ss.Perm (lackU l n)) => lackU_sort hn25 hp)
    have HPN := Lib.hid ((lackU_asc l n hn25).imp (S := (· ≠ ·)) fun h e => by omega)
    have HPL := lackU_len l n
    clear hok HM hn HCB
    go_enter Try.func31, Try.ntmps31
    go_wp2_with fail
    refine HK.out.mono ?_
    rintro e w2 ⟨rfl, hb2⟩
    have S2 := Lib.hid (S1.out.more hb2)
    clear S1 hb2 k0 k1 k2 k3 HK
    obtain ⟨k0, k1, k2, k3⟩ := (S2.out.box 0 _ _ rfl).fourFi
    have HM2 := Lib.hid (HMM.out _ S2.out.below)
    go_wp2_with fail
    refine HM2.out.mono ?_
    rintro e w3 ⟨b, nn, D0, rfl, hb0, hn0, hown, hhas, hb3⟩
    have S3 := Lib.hid (S2.out.more hb3)
    clear S2 hb3 k0 k1 k2 k3 HM2 HMM
    have HSZ := hhas.len hown HPN.out HPM.out
    have HSP := Lib.hid (hhas.perm hown HPN.out HPM.out)
    have HSO := Lib.hid (sorted_pl b nn D0 _ w3 hown (by omega))
    have HKE := Lib.hid (keys_pl (some b) w3)
    clear hown hhas HPM
    go_wp2_with fail
    refine HKE.out.mono ?_
    rintro e w4 ⟨rfl, hw4⟩
    subst hw4
    go_wp2_with fail
    refine HSO.out.mono ?_
    rintro e w5 ⟨v, ss, rfl, hss, hrow, _, hb5⟩
    have hS3 := S3.out.below.trans ((Below.refl w3.heap.size w3).alloc (Nat.le_refl _) (.cells #[.map (some b)] 148) |>.mono S3.out.below.size)
    have hS5 := Lib.hid (hS3.trans (hb5.mono hS3.size))
    have hlen : ss.length = (lackU l n).length := hss.length_eq.trans HSP.out.symm.length_eq
    rw [HPS.out ss (hss.trans HSP.out.symm), hlen] at hrow
    have HO := Lib.hid (show OwnR 3 1 w5 (w3.alloc (.cells #[.map (some b)] 148)).heap.size v ((lackU l n).map inC) from ⟨by rw [List.length_map, in_flat]; exact hrow, in_len _⟩)
    have hz5 := Lib.hid (show w.heap.size ≤ (w3.alloc (.cells #[.map (some b)] 148)).heap.size from hS3.size)
    obtain ⟨A5, q5, hv⟩ := HO.out.form
    rw [List.length_map] at hv
    subst hv
    have hc5 := HO.out.cap.2
    clear hrow hss hb5 hS3 S3 HSP HSO HKE HPS HPN hlen HSZ
    generalize lackU l n = L at *
    generalize (w3.alloc (.cells #[.map (some b)] 148)).heap.size = bz at *
    by_cases h20 : L.length ≤ 20
    · have s1 := head_sin A5 L.length q5 L.length (by omega)
      have hm : min (L.length : Int) 20 = (L.length : Int) := by omega
      go_wp2
      go_ret
      have HL := LsO.take HO.out.toO L.length (by omega)
      refine ⟨_, rfl, ?_, fun k hk => ?_, hS5.out⟩
      · rw [HV.out]
        show LsO 1 _ 0 _ _
        rw [List.map_take]
        rw [List.take_of_length_le (by rw [List.length_map]; omega)] at HL ⊢
        exact HL.lower (Nat.zero_le _)
      · have := (HL.up k hk).1
        have := hz5.out
        omega
    · have s1 := head_sin A5 L.length q5 20 (by omega)
      have hm : min (L.length : Int) 20 = 20 := by omega
      have s1 : ∀ W, (Instr.slice 24 (.slice A5 L.length q5) none (some (.int .i64 20)) none).run Try.prog W = .ok (.slice A5 20 q5) W := s1
      go_wp2
      go_ret
      have HL := LsO.take HO.out.toO 20 (by omega)
      refine ⟨_, rfl, ?_, fun k hk => ?_, hS5.out⟩
      · rw [HV.out]
        show LsO 1 _ 0 _ _
        rw [List.map_take]
        skip
        exact HL.lower (Nat.zero_le _)
      · have := (HL.up k hk).1
        have := hz5.out
        omega
  · rw [show (fiB f s c l && s != -1) = false by
      by_cases g : FiOk f s c l
      · have g2 : s = -1 := by by_cases e : s = -1; exact e; exact absurd ⟨g, e⟩ hok
        rw [g2]; simp
      · rw [fiB_no g]; rfl] at HK
    have HV := Lib.hid (misL_no hok)
    clear HM hok HCB
    go_enter Try.func31, Try.ntmps31
    go_wp2_with fail
    refine HK.out.mono ?_
    rintro e w2 ⟨rfl, hb2⟩
    have S2 := Lib.hid (S1.out.more hb2)
    clear S1 hb2 k0 k1 k2 k3 HK
    go_wp2
    go_ret
    refine ⟨_, rfl, ?_, fun k hk => (by cases (show (none : Option Nat) = some k from hk)), S2.out.below⟩
    rw [HV.out]
    exact LsO.nil0 1 _ _ 0

end Go.Proofs.Ytckofkdeedbbgaa
