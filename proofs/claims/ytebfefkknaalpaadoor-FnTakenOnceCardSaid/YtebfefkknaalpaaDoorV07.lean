/- What this text proves: the parts SnC of the proof, each under its own words. -/
import Derived.Test.YtebfefkknaalpaaDoorV05
import Derived.Test.YtebfefkknaalpaaDoorV06
import Derived.Lib.SliceRun
/- What this text proves: the contracts of the model's own copy of a sender and of the program's: its Waiting lies in memory of their own. -/
namespace Go.Proofs.YtebfefkknaalpaaDoor
open Go.ChangeShapes Go.WideShapes Go.ChangeAt Go.RowKit
set_option linter.unusedVariables false

theorem rows_sns {W : World} {B : Nat} {A : Option Addr} {l : List Sn} (h : SnsAt W B A l) : RowsAt W A (l.map snC) := by
  rcases h with h | ⟨b, off, hA, _, hc⟩
  · exact .inl (by rw [List.length_map]; exact h)
  · refine .inr ⟨b, off, hA, fun j u hu => ?_⟩
    have hall : ∀ x ∈ l.map snC, x.length = 2 := fun x hx => by obtain ⟨q, _, rfl⟩ := List.mem_map.1 hx; rfl
    have hlen := flat_len hall
    have hj : j < (l.map snC).flatten.length := by
      rcases Nat.lt_or_ge j (l.map snC).flatten.length with h1 | h1
      · exact h1
      · rw [List.getElem?_eq_none h1] at hu; cases hu
    rw [hlen, List.length_map] at hj
    have hk : j / 2 < l.length := by omega
    have hf := flat_at 2 (l.map snC) hall (j / 2) (by rw [List.length_map]; exact hk) (j % 2) (by omega)
    rw [show j / 2 * 2 + j % 2 = j by omega, hu] at hf
    simp only [List.getElem_map] at hf
    obtain ⟨c0, c1⟩ := hc (j / 2) hk
    rcases (show j % 2 = 0 ∨ j % 2 = 1 by omega) with e | e
    · rw [e] at hf
      have hf : some u = some (Value.int .i64 l[j / 2].1) := hf
      rw [hf, ← c0, show off + j / 2 * 2 = off + j by omega]
    · rw [e] at hf
      have hf : some u = some (Value.string l[j / 2].2) := hf
      rw [hf, ← c1, show off + j / 2 * 2 + 1 = off + j by omega]
theorem sn_len (l : List Sn) : ∀ x ∈ l.map snC, x.length = 2 := fun x hx => by obtain ⟨q, _, rfl⟩ := List.mem_map.1 hx; rfl
theorem sn_one (l : List Sn) : ∀ x ∈ l.map snC, ∀ u ∈ x, u.oneCell' = true := fun x hx u hu => by
  obtain ⟨q, _, rfl⟩ := List.mem_map.1 hx
  simp only [snC, List.mem_cons, List.not_mem_nil, or_false] at hu
  rcases hu with rfl | rfl <;> rfl

set_option maxHeartbeats 1000000 in
theorem clone_sns (A : Option Addr) (l : List Sn) (k : Nat) (hl : l.length ≤ 1099511) (w : World) (h : SnsAt w w.heap.size A l) :
    Calls Tryd.prog 27 #[.slice A l.length k] w fun e w' => ∃ A1 c1, e = .returned (.slice A1 l.length c1) ∧ OwnN w' w.heap.size (.slice A1 l.length c1) l ∧ Below w.heap.size w w' := by
  have hq : ∀ (w : World) (a : Option Addr) (n c n' c' : Nat), (binOp .eql 24 (.slice a n c) (.slice none n' c')).run Tryd.prog w = .ok (.bool a.isNone) w := fun w a n c n' c' => Lib.run_eql_slice_nil w _ _ a n c n' c' Tryd.underlying24
  have HB := Lib.hid ((Below.refl _ w).alloc (Nat.le_refl _) (.cells #[] 48))
  have HE := Lib.hid (OwnR.empty (E := 48) (sz := 2) w w.heap.size (Nat.le_refl _))
  cases A with
  | none =>
    have h0 : l = [] := by
      rcases h with h0 | ⟨b, off, hA, _⟩
      · exact List.eq_nil_of_length_eq_zero h0
      · cases hA
    subst h0
    clear h
    go_enter Tryd.func27, Tryd.ntmps27
    go_wp2
    go_ret
    exact ⟨none, 0, rfl, OwnR.nil _ _ _ _, Below.refl _ _⟩
  | some a =>
    have HI := Lib.hid (rows_sns (h.more HB.out))
    obtain ⟨i, hi, hz0, hz1, hz2⟩ := info_parts info_snt
    have Hi := Lib.hid hi
    have Hz0 := Lib.hid hz0
    have Hz1 := Lib.hid hz1
    have Hz2 := Lib.hid hz2
    clear h hi hz0 hz1 hz2
    go_enter Tryd.func27, Tryd.ntmps27
    go_wp2_with (at_builtin; go_loud (refine app_rows 48 24 2 24 (snV 0 ⟨#[]⟩) i _ rfl _ _ rfl Tryd.underlying24 Hi.out Hz0.out Hz1.out Hz2.out rfl (by decide) (by decide) w.heap.size (.slice (some ⟨w.heap.size, 0, none⟩) 0 0) [] rfl HE.out (some a) (l.map snC) k (by rw [List.length_map]; rfl) (sn_len l) (sn_one l) HI.out (by simpa using hl) (by simp) ?_))
    intro v w2 hown hg _
    replace hown : OwnN w2 w.heap.size v l := hown
    obtain ⟨A2, c2, rfl⟩ := hown.nform
    have HO := Lib.hid hown
    have HB2 := Lib.hid (HB.out.grown hg (by simp) fun k hk => (World.ownsRow.lt HE.out.1 k hk).1)
    clear hown hg
    go_wp2
    go_ret
    exact ⟨_, _, rfl, HO.out, HB2.out⟩

set_option maxHeartbeats 2000000 in
theorem copy_impl (n b d : Int) (A : Option Addr) (l : List Sn) (k : Nat) (hl : l.length ≤ 1099511) (w : World) (h : SnsAt w w.heap.size A l) :
    Calls Tryd.prog 17 #[seV n b (.slice A l.length k) d] w fun e w' => ∃ A1 c1, e = .returned (seV n b (.slice A1 l.length c1) d) ∧ OwnN w' w.heap.size (.slice A1 l.length c1) l ∧ Below w.heap.size w w' := by
  have BO := (Box.made w (seL n b (.slice A l.length k) d) 26 _ rfl).alloc (.cells (seL 0 0 (.slice none 0 0) 0).toArray 26)
  have BR := Box.made (w.alloc (.cells (seL n b (.slice A l.length k) d).toArray 26)) (seL 0 0 (.slice none 0 0) 0) 26 (w.heap.size + 1) (by simp)
  have BB := ((Below.refl _ w).alloc (Nat.le_refl _) (.cells (seL n b (.slice A l.length k) d).toArray 26)).alloc (by simp) (.cells (seL 0 0 (.slice none 0 0) 0).toArray 26)
  have hz : ((w.alloc (.cells (seL n b (.slice A l.length k) d).toArray 26)).alloc (.cells (seL 0 0 (.slice none 0 0) 0).toArray 26)).heap.size = w.heap.size + 2 := by simp
  have HC := Lib.hid (clone_sns A l k hl _ ((h.more BB).raise BB.size))
  clear h
  go_enter Tryd.func17, Tryd.ntmps17
  go_wp2_with fail
  refine HC.out.mono ?_
  rintro e w2 ⟨A2, c2, rfl, hown, hb⟩
  have BO2 := BO.more hb
  have BR2 := BR.more hb
  have BB2 := BB.trans (hb.mono (by omega))
  rw [hz] at hown
  have BO3 := BO2.set 2 (by simp) (.slice A2 l.length c2)
  have BR3 := (BR2.other (ga := w.heap.size) (by omega) 2 (.slice A2 l.length c2))
  have HB3 := Lib.hid ((BB2.setCell (p := ⟨w.heap.size, 2, none⟩) (by simp) (.slice A2 l.length c2)))
  have HO3 := Lib.hid (hown.past (g := w.heap.size) (j := 2) (by omega) (.slice A2 l.length c2))
  obtain ⟨m0, m1, m2, m3⟩ := BO2.fourS
  have mi := BO2.ice
  obtain ⟨k0, k1, k2, k3⟩ := (show Box _ _ (seL n b (.slice A2 l.length c2) d) from BO3).fourS
  obtain ⟨r0, r1, r2, r3⟩ := BR3.fourS
  have ri := BR3.ice
  have BF := Lib.hid (BR3.all (us := seL n b (.slice A2 l.length c2) d) rfl)
  have HBF := Lib.hid (below_setCells (B := w.heap.size) (ga := w.heap.size + 1) (by omega) (seL n b (.slice A2 l.length c2) d) 0 _ HB3.out)
  have HOF := Lib.hid (HO3.out.cellsPast (g := w.heap.size + 1) (by omega) (seL n b (.slice A2 l.length c2) d) 0 _)
  clear BO BR BB HC BO2 BB2 BO3 BR3 BR2 hown hb hz
  go_wp2
  show bodyPost Tryd.prog Tryd.f17 _ Exit.ret _ ((w2.setCell ⟨w.heap.size, 2, none⟩ (.slice A2 l.length c2)).setCells (w.heap.size + 1) 0 (seL n b (.slice A2 l.length c2) d))
  generalize (w2.setCell ⟨w.heap.size, 2, none⟩ (.slice A2 l.length c2)).setCells (w.heap.size + 1) 0 (seL n b (.slice A2 l.length c2) d) = WE at *
  obtain ⟨c0, c1, c3, c4⟩ := BF.out.fourS
  refine bodyPost_ret_by (v := seV n b (.slice A2 l.length c2) d) ?_ rfl ⟨_, _, rfl, OwnR.lower HOF.out (by omega), HBF.out⟩
  simp [results, Tryd.f17, go_sem, c0, c1, c3, c4]
end Go.Proofs.YtebfefkknaalpaaDoor
