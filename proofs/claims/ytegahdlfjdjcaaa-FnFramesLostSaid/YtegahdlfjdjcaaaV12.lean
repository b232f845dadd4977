/- What this text proves: the parts PshM, ShMath of the proof, each under its own words. -/
import Derived.Test.YtegahdlfjdjcaaaV07
import Derived.Test.YtegahdlfjdjcaaaV02
import Derived.Test.YtegahdlfjdjcaaaV11
import Derived.Test.YtegahdlfjdjcaaaV08
/- What this text proves: what PushFrame answers, as numbers, bytes and packets. -/
namespace Go.Proofs.Ytegahdlfjdjcaaa
open Go.ChangeShapes Go.WideShapes Go.ChangeAt Go.RowKit
set_option linter.unusedVariables false

/-- Whether a packet stands at the beginning, and how many bytes it has. -/
noncomputable def okP (r : ByteArray) : Bool := (decP r 0).2.2.2.2
noncomputable def lenP (r : ByteArray) : Nat := (decP r 0).2.2.2.1.toNat
noncomputable def pkP (r : ByteArray) : Pk := ((decP r 0).1, (decP r 0).2.1, (decP r 0).2.2.1)
theorem okP_len {r : ByteArray} (h : okP r = true) : 4 ≤ lenP r ∧ lenP r ≤ r.size ∧ (decP r 0).2.2.2.1 = ((lenP r : Nat) : Int) := by
  unfold okP lenP at *
  by_cases hd : DcOk r 0
  · rw [decP_yes hd]
    have h3 := hd.2.2.1
    simp only [Int.toNat_zero] at h3 ⊢
    omega
  · rw [decP_no hd] at h
    exact absurd h (by simp)
/-- The packets and the rest behind k packets. -/
noncomputable def itP (r0 : ByteArray) : Nat → List Pk × ByteArray
  | 0 => ([], r0)
  | k + 1 => bif okP (itP r0 k).2 then ((itP r0 k).1 ++ (if (pkP (itP r0 k).2).1 = 15 then [] else [pkP (itP r0 k).2]), (itP r0 k).2.extract (lenP (itP r0 k).2) (itP r0 k).2.size) else itP r0 k
theorem itP_yes {r0 : ByteArray} {k : Nat} (h : okP (itP r0 k).2 = true) : itP r0 (k + 1) = ((itP r0 k).1 ++ (if (pkP (itP r0 k).2).1 = 15 then [] else [pkP (itP r0 k).2]), (itP r0 k).2.extract (lenP (itP r0 k).2) (itP r0 k).2.size) := by simp only [itP]; rw [h]; rfl
theorem itP_no {r0 : ByteArray} {k : Nat} (h : okP (itP r0 k).2 = false) : itP r0 (k + 1) = itP r0 k := by simp only [itP]; rw [h]; rfl
theorem itP_stay {r0 : ByteArray} {k : Nat} (h : okP (itP r0 k).2 = false) : ∀ j, itP r0 (k + j) = itP r0 k := by
  intro j
  induction j with
  | zero => rfl
  | succ j ih => rw [← Nat.add_assoc, itP_no (by rw [ih]; exact h), ih]
noncomputable def takeP (r0 : ByteArray) : List Pk × ByteArray := itP r0 r0.size
theorem takeP_at {r0 : ByteArray} {k : Nat} (hk : k ≤ r0.size) (h : okP (itP r0 k).2 = false) : takeP r0 = itP r0 k := by
  unfold takeP
  have := itP_stay h (r0.size - k)
  rwa [show k + (r0.size - k) = r0.size by omega] at this
theorem itP_len (r0 : ByteArray) (k : Nat) : (itP r0 k).1.length ≤ k := by
  induction k with
  | zero => exact Nat.le_refl _
  | succ k ih =>
    simp only [itP]
    cases okP (itP r0 k).2
    · simp only [cond_false]; omega
    · simp only [cond_true, List.length_append]; split <;> simp <;> omega
theorem itP_size (r0 : ByteArray) (k : Nat) : (itP r0 k).2.size ≤ r0.size := by
  induction k with
  | zero => exact Nat.le_refl _
  | succ k ih =>
    simp only [itP]
    cases okP (itP r0 k).2
    · exact ih
    · simp only [cond_true, ByteArray.size_extract]; omega
theorem takeP_len (r0 : ByteArray) : (takeP r0).1.length ≤ r0.size := itP_len r0 _
theorem takeP_size (r0 : ByteArray) : (takeP r0).2.size ≤ r0.size := itP_size r0 _
/-- Whether the rest begins with four bytes with which no packet begins. -/
def BrkP (r : ByteArray) : Prop := 4 ≤ r.size ∧ (15 < byteAt r 0 ∨ 40 < byteAt r 3)
instance (r : ByteArray) : Decidable (BrkP r) := by unfold BrkP; infer_instance
/-- Synced, Rest, Lost, in the three steps of PushFrame. -/
def g1 (n co : Int) (s : Bool × ByteArray × Int) : Bool × ByteArray × Int := if n ≠ -1 ∧ n ≠ co then (false, ⟨#[]⟩, lossN s.2.2) else s
def g2 (fi : Int) (d : ByteArray) (s : Bool × ByteArray × Int) : Bool × ByteArray × Int := if s.1 = true then (true, s.2.1 ++ d, s.2.2) else if fi ≠ 255 then (true, d.extract fi.toNat d.size, s.2.2) else s
noncomputable def g3 (s : Bool × ByteArray × Int) : Bool × ByteArray × Int := if BrkP (takeP s.2.1).2 then (false, ⟨#[]⟩, lossN s.2.2) else (s.1, (takeP s.2.1).2, s.2.2)
def PuOk (c n : Int) (s : Bool × ByteArray × Int) (f : Int × Int × Int × ByteArray) : Prop := UpOk c n s.1 s.2.1 s.2.2 ∧ FrOk f.1 f.2.1 f.2.2.1 f.2.2.2 ∧ c = f.1
instance (c n : Int) (s : Bool × ByteArray × Int) (f : Int × Int × Int × ByteArray) : Decidable (PuOk c n s f) := by unfold PuOk; infer_instance
noncomputable def puS (c n : Int) (s : Bool × ByteArray × Int) (f : Int × Int × Int × ByteArray) : Bool × ByteArray × Int := if PuOk c n s f then g3 (g2 f.2.2.1 f.2.2.2 (g1 n f.2.1 s)) else s
def puN (c n : Int) (s : Bool × ByteArray × Int) (f : Int × Int × Int × ByteArray) : Int := if PuOk c n s f then (f.2.1 + 1) % 256 else n
noncomputable def puL (c n : Int) (s : Bool × ByteArray × Int) (f : Int × Int × Int × ByteArray) : List Pk := if PuOk c n s f then (takeP (g2 f.2.2.1 f.2.2.2 (g1 n f.2.1 s)).2.1).1 else []
abbrev unW (c n : Int) (s : Bool × ByteArray × Int) : Value := unV c n s.1 s.2.1 s.2.2
/-- What PushFrame answers. -/
def PushEnd (c n : Int) (s : Bool × ByteArray × Int) (f : Int × Int × Int × ByteArray) (w : World) (e : Ending) (w' : World) : Prop :=
  ∃ v, e = .returned (.tuple #[unW c (puN c n s f) (puS c n s f), v]) ∧ OwnP w' w.heap.size v (puL c n s f) ∧ Below w.heap.size w w'
theorem lossN_in {l : Int} (h : 0 ≤ l ∧ l ≤ 1000000) : 0 ≤ lossN l ∧ lossN l ≤ 1000000 := by unfold lossN; split <;> omega
theorem g1_in {n co : Int} {s : Bool × ByteArray × Int} (h : 0 ≤ s.2.2 ∧ s.2.2 ≤ 1000000) : 0 ≤ (g1 n co s).2.2 ∧ (g1 n co s).2.2 ≤ 1000000 := by unfold g1; split; exact lossN_in h; exact h
theorem g1_size {n co : Int} {s : Bool × ByteArray × Int} : (g1 n co s).2.1.size ≤ s.2.1.size := by unfold g1; split; exact Nat.zero_le _; exact Nat.le_refl _
theorem g2_in {fi : Int} {d : ByteArray} {s : Bool × ByteArray × Int} : (g2 fi d s).2.2 = s.2.2 := by unfold g2; split; rfl; split <;> rfl
theorem g2_size {fi : Int} {d : ByteArray} {s : Bool × ByteArray × Int} : (g2 fi d s).2.1.size ≤ s.2.1.size + d.size := by
  unfold g2
  split
  · rw [ByteArray.size_append]; exact Nat.le_refl _
  · split
    · simp only [ByteArray.size_extract]; omega
    · exact Nat.le_add_right _ _
end Go.Proofs.Ytegahdlfjdjcaaa
/- What this text proves: the packets that are found in a beginning of the bytes of packets. -/
namespace Go.Proofs.Ytegahdlfjdjcaaa
open Go.ChangeShapes Go.WideShapes Go.ChangeAt Go.RowKit
set_option linter.unusedVariables false

theorem itP_run {r0 : ByteArray} : ∀ k, okP (itP r0 k).2 = true → 4 * k + (itP r0 k).2.size ≤ r0.size := by
  intro k
  induction k with
  | zero => intro _; show 4 * 0 + r0.size ≤ r0.size; omega
  | succ k ih =>
    intro h
    cases hk : okP (itP r0 k).2 with
    | false => rw [itP_no hk, hk] at h; exact absurd h (by simp)
    | true =>
      have h1 := ih hk
      have h2 := okP_len hk
      rw [itP_yes hk]
      show 4 * (k + 1) + ((itP r0 k).2.extract (lenP (itP r0 k).2) (itP r0 k).2.size).size ≤ _
      rw [ByteArray.size_extract]
      omega
theorem okP_size {r : ByteArray} (h : okP r = true) : 4 ≤ r.size := by have := okP_len h; omega
theorem itP_end (r0 : ByteArray) : okP (takeP r0).2 = false := by
  cases h : okP (takeP r0).2 with
  | false => rfl
  | true =>
    have h1 := itP_run r0.size h
    have h2 := okP_size h
    unfold takeP at h2
    omega
theorem itP_late {r0 : ByteArray} {k : Nat} (h : r0.size ≤ k) : itP r0 k = takeP r0 := by
  have := itP_stay (itP_end r0) (k - r0.size)
  rwa [show r0.size + (k - r0.size) = k by omega] at this
theorem itP_cons {X : ByteArray} (h : okP X = true) : ∀ k, itP X (k + 1) = (realP (pkP X) ++ (itP (X.extract (lenP X) X.size) k).1, (itP (X.extract (lenP X) X.size) k).2) := by
  intro k
  induction k with
  | zero => rw [itP_yes (k := 0) h]; show (([] : List Pk) ++ realP (pkP X), _) = (realP (pkP X) ++ ([] : List Pk), _); rw [List.nil_append, List.append_nil]; rfl
  | succ k ih =>
    cases hk : okP (itP (X.extract (lenP X) X.size) k).2 with
    | false => rw [itP_no (k := k + 1) (by rw [ih]; exact hk), itP_no hk, ih]
    | true => rw [itP_yes (k := k + 1) (by rw [ih]; exact hk), itP_yes hk, ih]; simp only [List.append_assoc]
theorem takeP_cons {X : ByteArray} (h : okP X = true) : takeP X = (realP (pkP X) ++ (takeP (X.extract (lenP X) X.size)).1, (takeP (X.extract (lenP X) X.size)).2) := by
  have h1 := okP_len h
  have h2 := itP_cons h (X.size - 1)
  rw [show X.size - 1 + 1 = X.size by omega, itP_late (r0 := X.extract (lenP X) X.size) (by rw [ByteArray.size_extract]; omega)] at h2
  exact h2
theorem takeP_stop {X : ByteArray} (h : okP X = false) : takeP X = ([], X) := takeP_at (Nat.zero_le _) h
theorem head_ok {p : Pk} (hp : OkQ p) (R : ByteArray) : okP (pkT p.1 p.2.1 p.2.2 ++ R) = true ∧ lenP (pkT p.1 p.2.1 p.2.2 ++ R) = 4 + p.2.2.size ∧ pkP (pkT p.1 p.2.1 p.2.2 ++ R) = p := by
  have h := decP_back hp ⟨#[]⟩ R _ (nil_app _).symm
  rw [show ((⟨#[]⟩ : ByteArray).size : Int) = 0 from rfl] at h
  unfold okP lenP pkP
  rw [h]
  exact ⟨rfl, by show (4 + (p.2.2.size : Int)).toNat = _; omega, rfl⟩
theorem cut_head (P R : ByteArray) (n : Nat) (hn : n = P.size) : (P ++ R).extract n (P ++ R).size = R := by
  subst hn
  apply list_inj
  rw [ext_list, app_list, ByteArray.size_append, size_list P, List.drop_left, List.take_of_length_le (by have := size_list R; omega)]
theorem takeP_head {p : Pk} (hp : OkQ p) (R : ByteArray) : takeP (pkT p.1 p.2.1 p.2.2 ++ R) = (realP p ++ (takeP R).1, (takeP R).2) := by
  obtain ⟨h1, h2, h3⟩ := head_ok hp R
  rw [takeP_cons h1, h3, cut_head _ _ _ (by rw [h2, pkT_size hp])]
/-- Two splits of one text: the shorter first part is the beginning of the other. -/
theorem split_two {A B C D : ByteArray} (h : A ++ B = C ++ D) (hs : A.size ≤ C.size) : ∃ E, C = A ++ E ∧ B = E ++ D := by
  have h1 : A.data.toList ++ B.data.toList = C.data.toList ++ D.data.toList := by rw [← app_list, ← app_list, h]
  have h2 := size_list A
  have h3 := size_list C
  rcases List.append_eq_append_iff.1 h1 with ⟨E, hE1, hE2⟩ | ⟨E, hE1, hE2⟩
  · exact ⟨⟨E.toArray⟩, list_inj (by rw [app_list, hE1]), list_inj (by rw [app_list, hE2])⟩
  · have hl := congrArg List.length hE1
    rw [List.length_append] at hl
    have : E = [] := List.eq_nil_of_length_eq_zero (by omega)
    subst this
    rw [List.append_nil] at hE1
    rw [List.nil_append] at hE2
    exact ⟨⟨#[]⟩, list_inj (by rw [app_list, hE1]; simp), list_inj (by rw [app_list, ← hE2]; simp)⟩
/-- The beginning of a packet is no packet, and not broken. -/
theorem part_no {p : Pk} (hp : OkQ p) {X Y : ByteArray} (h : pkT p.1 p.2.1 p.2.2 = X ++ Y) (hs : X.size < 4 + p.2.2.size) : okP X = false ∧ ¬ BrkP X ∧ X.size ≤ 43 := by
  obtain ⟨⟨a, q, d⟩, hh⟩ : ∃ x : Pk, x = p := ⟨p, rfl⟩
  subst hh
  obtain ⟨a, rfl⟩ := Int.eq_ofNat_of_zero_le hp.1.1
  obtain ⟨q, rfl⟩ := Int.eq_ofNat_of_zero_le hp.2.1.1
  have p1 := hp.1.2; have p2 := hp.2.1.2; have p3 := hp.2.2
  simp only at p1 p2 p3 h hs
  have hl := pkT_list (show PkOk (a : Int) (q : Int) d from hp)
  rw [h, app_list] at hl
  have hx := size_list X
  have at_ : ∀ i, i < X.size → byteAt X i = (([byteN a 0, byteN q 1, byteN q 0, byteN d.size 0] ++ d.data.toList).getD i 0).toNat := fun i hi => by
    unfold byteAt
    rw [← hl, List.getD_eq_getElem?_getD, List.getD_eq_getElem?_getD, List.getElem?_append_left (by omega)]
  refine ⟨?_, ?_, by omega⟩
  · unfold okP
    rw [decP_no]
    rintro ⟨_, h4, h5, _, _⟩
    have h3 : valW X 3 1 = d.size := by
      simp only [valW]
      rw [Nat.add_zero, at_ 3 (by omega)]
      show 256 * 0 + (byteN d.size 0).toNat = _
      rw [byteN_val]; simp; omega
    simp only [Int.toNat_zero, Nat.zero_add] at h5
    rw [h3] at h5
    omega
  · rintro ⟨h4, h5⟩
    rw [at_ 0 (by omega), at_ 3 (by omega)] at h5
    have e0 : ((([byteN a 0, byteN q 1, byteN q 0, byteN d.size 0] ++ d.data.toList).getD 0 0).toNat) = a := by show (byteN a 0).toNat = a; rw [byteN_val]; simp; omega
    have e3 : ((([byteN a 0, byteN q 1, byteN q 0, byteN d.size 0] ++ d.data.toList).getD 3 0).toNat) = d.size := by show (byteN d.size 0).toNat = _; rw [byteN_val]; simp; omega
    rw [e0, e3] at h5
    omega
theorem empty_of {X Y : ByteArray} (h : X ++ Y = ⟨#[]⟩) : X = ⟨#[]⟩ ∧ Y = ⟨#[]⟩ := by
  have h1 := congrArg (fun s : ByteArray => s.data.toList) h
  simp only at h1
  rw [app_list] at h1
  have h2 := List.append_eq_nil_iff.1 h1
  exact ⟨list_inj h2.1, list_inj h2.2⟩
/-- The packets of a beginning of a text of packets, and what is left of it. -/
theorem takeP_split (A : List Pk) : ∀ (X Y : ByteArray), (∀ p ∈ A, OkQ p) → X ++ Y = encQ A → ∃ A1 A2 X2, A = A1 ++ A2 ∧ X = encQ A1 ++ X2 ∧ takeP X = (realQ A1, X2) ∧ X2 ++ Y = encQ A2 ∧ ¬ BrkP X2 ∧ X2.size ≤ 43 ∧ (∀ p B, A2 = p :: B → X2.size < 4 + p.2.2.size) := by
  induction A with
  | nil =>
    intro X Y _ h
    obtain ⟨rfl, rfl⟩ := empty_of h
    exact ⟨[], [], ⟨#[]⟩, rfl, rfl, takeP_stop (by unfold okP; rw [decP_no (fun h => by have h1 : (0 : Int) + 4 ≤ ((0 : Nat) : Int) := h.2.1; omega)]), rfl, (fun h => by have h1 : 4 ≤ 0 := h.1; omega), by decide, fun p B h => by cases h⟩
  | cons p A ih =>
    intro X Y hA h
    have hp := hA p (List.mem_cons_self ..)
    have hz := pkT_size hp
    by_cases hs : 4 + p.2.2.size ≤ X.size
    · obtain ⟨E, rfl, hE⟩ := split_two (A := pkT p.1 p.2.1 p.2.2) (B := encQ A) (C := X) (D := Y) h.symm (by omega)
      obtain ⟨A1, A2, X2, rfl, rfl, h3, h4, h5, h6, h7⟩ := ih E Y (fun x hx => hA x (List.mem_cons_of_mem _ hx)) hE.symm
      exact ⟨p :: A1, A2, X2, rfl, by show _ = pkT _ _ _ ++ encQ A1 ++ X2; rw [app_assoc], by rw [takeP_head hp, h3]; rfl, h4, h5, h6, h7⟩
    · obtain ⟨E, hE, _⟩ := split_two (A := X) (B := Y) (C := pkT p.1 p.2.1 p.2.2) (D := encQ A) h (by omega)
      obtain ⟨h1, h2, h3⟩ := part_no hp hE (by omega)
      exact ⟨[], p :: A, X, rfl, (nil_app X).symm, takeP_stop h1, h, h2, h3, fun p' B hB => by cases hB; omega⟩
end Go.Proofs.Ytegahdlfjdjcaaa
