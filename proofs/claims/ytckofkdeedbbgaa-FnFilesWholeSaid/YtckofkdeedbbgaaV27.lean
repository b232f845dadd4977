/- What this text proves: the parts Mis of the proof, each under its own words. -/
import Derived.Test.YtckofkdeedbbgaaV25
import Derived.Test.YtckofkdeedbbgaaV26
import Derived.Maps.OwnSet
import Derived.Lib.SlKeysI
import Derived.Deep.LoopGhost
/- What this text proves: the contracts of the program's knowsEnd and missingSegments. -/
namespace Go.Proofs.Ytckofkdeedbbgaa
open Go.ChangeShapes Go.WideShapes Go.ChangeAt Go.RowKit Go.Maps
set_option linter.unusedVariables false

theorem law_int : Keyed Try.prog 3 := int_keyed Try.underlying3
/-- A map of numbers to bools in a block. -/
def mapT (b n : Nat) (D : DataW Unit) : Thing where
  F := fun k => k = b
  P := fun W => W.ownsMap Try.prog 3 (plainElem Try.prog 4) b n D
  lt := fun W h k hk => by rw [show k = b from hk]; exact h.lt
  keep := fun W W' S h ht hne => by
    have hlt := h.lt
    obtain ⟨es, clock, hb, F, hs, hD⟩ := h
    exact ⟨es, clock, (ht.block b hlt (hne b rfl)).trans hb, F, hs, hD⟩
/-- The numbers that a map has. -/
def HasI (D : DataW Unit) (q : Int → Prop) : Prop := ∀ x : Int, has D (.int .i64 x) = true ↔ q x
theorem HasI.put {D : DataW Unit} {q : Int → Prop} (h : HasI D q) (hm : IsMap D) (y : Int) (d : DataW Unit) : HasI (D.put (.int .i64 y) d) (fun x => q x ∨ x = y) := fun x => by
  by_cases e : x = y
  · subst e
    rw [has_put_same hm (by trivial)]
    simp
  · rw [has_put_other (fun g => e (by injection g)), h x]
    simp [e]
theorem HasI.del {D : DataW Unit} {q : Int → Prop} (h : HasI D q) (y : Int) : HasI (D.del (.int .i64 y)) (fun x => q x ∧ x ≠ y) := fun x => by
  by_cases e : x = y
  · subst e
    rw [has_del_same]
    simp
  · rw [has_del_other (fun g => e (by injection g)), h x]
    simp [e]
theorem HasI.congr {D : DataW Unit} {q q' : Int → Prop} (h : HasI D q) (e : ∀ x, q x ↔ q' x) : HasI D q' := fun x => (h x).trans (e x)
/-- A list without doubles of the numbers that a map has is its list of keys, up to the order. -/
theorem HasI.perm {W : World} {b n : Nat} {D : DataW Unit} {q : Int → Prop} (h : HasI D q) (hown : W.ownsMap Try.prog 3 (plainElem Try.prog 4) b n D) {ss : List Int} (hnd : ss.Nodup) (hm : ∀ x, x ∈ ss ↔ q x) : ss.Perm (intKeys D) := by
  obtain ⟨es, hD, hpw, _⟩ := hown.entries law_int
  obtain ⟨es', hD', hko⟩ := hown.keysOf
  obtain rfl : es = es' := by rw [hD] at hD'; simpa using hD'
  subst hD
  exact perm_intKeys hpw (fun p hp => by obtain ⟨v, hv⟩ := hko p hp; obtain ⟨x, _, hx, _⟩ := Maps.keyOf_i64 Try.underlying3 hv; exact ⟨x, hx⟩) hnd (fun x => by rw [hm x, h x])
theorem HasI.len {W : World} {b n : Nat} {D : DataW Unit} {q : Int → Prop} (h : HasI D q) (hown : W.ownsMap Try.prog 3 (plainElem Try.prog 4) b n D) {ss : List Int} (hnd : ss.Nodup) (hm : ∀ x, x ∈ ss ↔ q x) : Maps.size D = ss.length := by
  have h1 := (h.perm hown hnd hm).length_eq
  rw [h1]
  obtain ⟨es, hD, _, _⟩ := hown.entries law_int
  subst hD
  simp [intKeys, size_eq]
/-- Segment x of a file of n is empty. -/
def Lacks (l : List ByteArray) (n x : Int) : Prop := 0 ≤ x ∧ x < n ∧ ∃ h : x.toNat < l.length, l[x.toNat].size = 0
def LackJ (l : List ByteArray) (n : Int) (j : Nat) (x : Int) : Prop := 0 ≤ x ∧ x < n ∧ ((j : Int) ≤ x ∨ ∃ h : x.toNat < l.length, l[x.toNat].size = 0)
theorem LackJ.done {l : List ByteArray} {n : Int} (hn : n ≤ l.length) (x : Int) : LackJ l n l.length x ↔ Lacks l n x := by
  constructor
  · rintro ⟨h0, h1, h2 | h2⟩
    · omega
    · exact ⟨h0, h1, h2⟩
  · rintro ⟨h0, h1, h2⟩
    exact ⟨h0, h1, .inr h2⟩
theorem LackJ.full {l : List ByteArray} {n : Int} {j : Nat} (hj : j < l.length) (hs : ¬ l[j].size = 0) (x : Int) : (LackJ l n j x ∧ x ≠ (j : Int)) ↔ LackJ l n (j + 1) x := by
  constructor
  · rintro ⟨⟨h0, h1, h2⟩, h3⟩
    refine ⟨h0, h1, ?_⟩
    rcases h2 with h2 | h2
    · exact .inl (by omega)
    · exact .inr h2
  · rintro ⟨h0, h1, h2⟩
    rcases h2 with h2 | ⟨h4, h5⟩
    · exact ⟨⟨h0, h1, .inl (by omega)⟩, by omega⟩
    · refine ⟨⟨h0, h1, .inr ⟨h4, h5⟩⟩, fun e => hs ?_⟩
      have e2 : x.toNat = j := by omega
      subst e2
      exact h5
theorem LackJ.empty {l : List ByteArray} {n : Int} {j : Nat} (hj : j < l.length) (hs : l[j].size = 0) (x : Int) : LackJ l n j x ↔ LackJ l n (j + 1) x := by
  constructor
  · rintro ⟨h0, h1, h2⟩
    refine ⟨h0, h1, ?_⟩
    rcases h2 with h2 | h2
    · by_cases e : x = (j : Int)
      · subst e
        exact .inr ⟨by simpa using hj, by simpa using hs⟩
      · exact .inl (by omega)
    · exact .inr h2
  · rintro ⟨h0, h1, h2⟩
    refine ⟨h0, h1, ?_⟩
    rcases h2 with h2 | h2
    · exact .inl (by omega)
    · exact .inr h2

set_option maxRecDepth 20000 in
set_option maxHeartbeats 2000000 in
theorem kne_impl (f s c : Int) (A : Option Addr) (l : List ByteArray) (q : Nat) (hl : l.length ≤ 2000000) (w : World) (h : LsI 1 w w.heap.size A (l.map txC)) :
    Calls Try.prog 89 #[fiV f s c (.slice A l.length q)] w fun e w' => e = .returned (.bool (fiB f s c l && s != -1)) ∧ Below w.heap.size w w' := by
  have S1 := Lib.hid ((St.start w).made (fiL f s c (.slice A l.length q)) 67)
  have HK := Lib.hid (fok_impl f s c A l q hl _ (h.full S1.out.below))
  obtain ⟨k0, k1, k2, k3⟩ := (S1.out.box 0 _ _ rfl).fourFi
  clear h
  generalize fiB f s c l = z at *
  cases z
  · go_enter Try.func89, Try.ntmps89
    go_wp2_with fail
    refine HK.out.mono ?_
    rintro e w2 ⟨rfl, hb2⟩
    have S2 := Lib.hid (S1.out.more hb2)
    clear S1 hb2 k0 k1 k2 k3 HK
    obtain ⟨k0, k1, k2, k3⟩ := (S2.out.box 0 _ _ rfl).fourFi
    go_wp2
    go_ret
    exact ⟨by simp, S2.out.below⟩
  · go_enter Try.func89, Try.ntmps89
    go_wp2_with fail
    refine HK.out.mono ?_
    rintro e w2 ⟨rfl, hb2⟩
    have S2 := Lib.hid (S1.out.more hb2)
    clear S1 hb2 k0 k1 k2 k3 HK
    obtain ⟨k0, k1, k2, k3⟩ := (S2.out.box 0 _ _ rfl).fourFi
    go_wp2
    go_ret
    exact ⟨by simp, S2.out.below⟩

set_option maxRecDepth 20000 in
set_option maxHeartbeats 4000000 in
theorem msg_impl (f s c : Int) (A : Option Addr) (l : List ByteArray) (q : Nat) (hl : l.length ≤ 2000000) (hcl : cntS s ≤ l.length) (w : World) (h : LsI 1 w w.heap.size A (l.map txC)) :
    Calls Try.prog 92 #[fiV f s c (.slice A l.length q)] w fun e w' => ∃ b n D, e = .returned (.map (some b)) ∧ w.heap.size ≤ b ∧ n ≤ 25 ∧ w'.ownsMap Try.prog 3 (plainElem Try.prog 4) b n D ∧ HasI D (Lacks l (cntS s)) ∧ Below w.heap.size w w' := by
  have S1 := ((St.start w).made (fiL f s c (.slice A l.length q)) 67)
  have S2 := Lib.hid (S1.add (mapT ((w.alloc (.cells (fiL f s c (.slice A l.length q)).toArray 67))).heap.size 0 (.map [])) ((Below.refl _ _).alloc (Nat.le_refl _) (.map #[] 0)) (World.ownsMap_made _ _ _ _) (fun k hk => Nat.le_of_eq (show k = _ from hk).symm))
  have hmm := @run_makeMap Try.prog
  have HC := Lib.hid (cnt_impl s)
  have HCB := cntS_bd s
  obtain ⟨n, hn⟩ : ∃ n : Nat, cntS s = (n : Int) := ⟨(cntS s).toNat, by omega⟩
  have HI := Lib.hid (fun W (hb : Below w.heap.size w W) => h.full hb)
  rw [hn] at HC hcl ⊢
  have hn25 : n ≤ 25 := by omega
  have HD := Lib.hid (fun x => LackJ.done (l := l) (n := (n : Int)) (by omega) x)
  have HF := Lib.hid (fun j (hj : j < l.length) (hs : ¬ l[j].size = 0) x => LackJ.full (n := (n : Int)) hj hs x)
  have HE := Lib.hid (fun j (hj : j < l.length) (hs : l[j].size = 0) x => LackJ.empty (n := (n : Int)) hj hs x)
  clear h hn HCB S1
  have hbm : ((w.alloc (.cells (fiL f s c (.slice A l.length q)).toArray 67))).heap.size = w.heap.size + 1 := by simp
  rw [hbm] at S2
  obtain ⟨k0, k1, k2, k3⟩ := (S2.out.box 1 _ _ rfl).fourFi
  go_enter Try.func92, Try.ntmps92
  go_wp2_with fail
  refine (HC.out _).mono ?_
  rintro e w' ⟨rfl, rfl⟩
  clear k0 k1 k2 k3
  go_wp2
  go_loopg [11] n (fun gh v wx => ∃ (k : Nat) (D : DataW Unit), k ≤ n ∧ gh = n - k ∧ v = .int .i64 (k : Int) ∧ HasI D (fun x => 0 ≤ x ∧ x < (k : Int)) ∧ St w wx [mapT (w.heap.size + 1) k D, boxT w.heap.size (fiL f s c (.slice A l.length q))])
  case atStart => exact ⟨0, .map [], Nat.zero_le _, rfl, rfl, fun x => by simp [has_eq] <;> omega, S2.out⟩
  case round =>
    obtain ⟨k, D, hk, rfl, rfl, hD, hst⟩ := hrel
    have SS := Lib.hid hst
    have HH := Lib.hid hD
    clear hst hD S2
    by_cases hlt : k < n
    · have hd1 : decide (k < n) = true := by simp; omega
      have hd2 : decide ((k : Int) < (n : Int)) = true := by simp; omega
      have hkey : keyOf Try.prog 3 (.int .i64 (k : Int)) = some (.int .i64 (k : Int)) := keyOf_int_mk Try.underlying3 (WalkArith.wf_i64 (by omega))
      have hown := SS.out.nth 0 _ rfl
      go_wp2_with (at_mapUpdate; refine wpList_mapUpdate_own _ rfl _ _ _ 148 rfl 3 4 law_int Try.underlying148 _ (w.heap.size + 1) k D rfl hown (by unfold maxLen; omega) _ _ _ rfl rfl hkey _ [] (plainElem_bool Try.underlying4 true) ?_)
      intro w1 hown1 hgrow1
      have S3 := Lib.hid (SS.out.put 0 _ rfl (Touch.of_grown hgrow1) (fun k hk => by injection hk with hk; exact hk.symm) (mapT (w.heap.size + 1) (k + 1) (D.put (.int .i64 (k : Int)) (.lit (.bool true)))) hown1 (fun k hk => .inl hk))
      have HH2 := Lib.hid ((HH.out.put hown.isMap (k : Int) (.lit (.bool true))).congr (q' := fun x => 0 ≤ x ∧ x < ((k + 1 : Nat) : Int)) (fun x => by constructor <;> (intro g; omega)))
      clear hown hown1 hgrow1 SS HH
      go_wp2
      go_roundg (n - (k + 1))
      case measure => omega
      case rel => exact ⟨k + 1, _, by omega, rfl, by go_num, HH2.out, S3.out⟩
    · have hd1 : decide (k < n) = false := by simp; omega
      have hd2 : decide ((k : Int) < (n : Int)) = false := by simp; omega
      obtain rfl : k = n := by omega
      clear hlt
      obtain ⟨k0, k1, k2, k3⟩ := (SS.out.box 1 _ _ rfl).fourFi
      go_wp2
      clear k0 k1 k2 k3
      go_loopg [20] l.length (fun gh v wx => ∃ (j : Nat) (D : DataW Unit), j ≤ l.length ∧ gh = l.length - j ∧ v = .int .i64 (j : Int) ∧ HasI D (LackJ l (k : Int) j) ∧ St w wx [mapT (w.heap.size + 1) k D, boxT w.heap.size (fiL f s c (.slice A l.length q))])
      case atStart => exact ⟨0, D, Nat.zero_le _, rfl, rfl, HH.out.congr (fun x => by unfold LackJ; constructor <;> (intro g; first | (exact ⟨g.1, g.2, .inl (by omega)⟩) | exact ⟨g.1, g.2.1⟩)), SS.out⟩
      case round =>
        obtain ⟨j, D2, hj, rfl, rfl, hD2, hst⟩ := hrel
        have SR := Lib.hid hst
        have HR := Lib.hid hD2
        clear hst hD2 SS HH
        obtain ⟨k0, k1, k2, k3⟩ := (SR.out.box 1 _ _ rfl).fourFi
        by_cases hlt : j < l.length
        · have hd1 : decide (j < l.length) = true := by simp; omega
          have hd2 : decide ((j : Int) < (l.length : Int)) = true := by simp; omega
          obtain ⟨bb, off, rfl, hbb, hc⟩ := txCellsI (HI.out _ SR.out.below) (by omega)
          have hcj := hc j hlt
          clear hc
          by_cases hxx : l[j].size = 0
          · have he1 : l[j].toList = [] := by rw [ByteArray.toList_eq]; exact List.eq_nil_of_length_eq_zero (by simpa using hxx)
            have he2 : l[j].toList.isEmpty = true := by rw [he1]; rfl
            have H2 := Lib.hid (HR.out.congr (HE.out j hlt hxx))
            clear HR hxx
            generalize l[j] = x at *
            go_wp2
            go_roundg (l.length - (j + 1))
            case measure => omega
            case rel => exact ⟨j + 1, _, by omega, rfl, by go_num, H2.out, SR.out⟩
          · have he1 := tx_ne hxx
            have he2 := tx_ne2 hxx
            have he3 := tx_ne3 hxx
            have H2 := Lib.hid ((HR.out.del (j : Int)).congr (HF.out j hlt hxx))
            have hkey : keyOf Try.prog 3 (.int .i64 (j : Int)) = some (.int .i64 (j : Int)) := keyOf_int_mk Try.underlying3 (WalkArith.wf_i64 (by omega))
            have hown := SR.out.nth 0 _ rfl
            clear HR hxx
            generalize l[j] = x at *
            go_wp2_with (at_delete; refine wpList_delete_own _ rfl _ _ 148 3 rfl 4 law_int Try.underlying148 _ (w.heap.size + 1) k D2 rfl hown _ _ rfl hkey ?_)
            intro w1 hown1 hturn1
            have S3 := Lib.hid (SR.out.put 0 _ rfl (Touch.of_grown hturn1.grown) (fun k hk => by injection hk with hk; exact hk.symm) (mapT (w.heap.size + 1) k (D2.del (.int .i64 (j : Int)))) hown1 (fun k hk => .inl hk))
            clear hown hown1 hturn1 SR
            go_wp2
            go_roundg (l.length - (j + 1))
            case measure => omega
            case rel => exact ⟨j + 1, _, by omega, rfl, by go_num, H2.out, S3.out⟩
        · have hd1 : decide (j < l.length) = false := by simp; omega
          have hd2 : decide ((j : Int) < (l.length : Int)) = false := by simp; omega
          obtain rfl : j = l.length := by omega
          go_wp2
          go_ret
          exact ⟨_, k, D2, rfl, by omega, hn25, SR.out.nth 0 _ rfl, HR.out.congr HD.out, SR.out.below⟩

end Go.Proofs.Ytckofkdeedbbgaa
