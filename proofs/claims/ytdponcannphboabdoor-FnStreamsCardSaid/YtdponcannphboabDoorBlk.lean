/- What this text proves: the contracts of BlocksOf: program and model both return the texts of the blocks of a stream that can be read, and how many cannot. -/
import Derived.Test.YtdponcannphboabDoorFindC
import Derived.Test.YtdponcannphboabDoorLnkV
import Derived.Test.YtdponcannphboabDoorMarkS
import Derived.Test.YtdponcannphboabDoorMarkI
namespace Go.Proofs.YtdponcannphboabDoor
open Go.ChangeShapes Go.WideShapes Go.ChangeAt Go.RowKit
set_option linter.unusedVariables false

theorem findF_in (t : ByteArray) (n : Nat) : ∀ f k, ∀ p ∈ findF t n f k, ∃ q : Nat, p = (q : Int) ∧ q + 2 * n ≤ t.size := by
  intro f
  induction f with
  | zero => intro k p hp; cases hp
  | succ f ih =>
    intro k p hp
    by_cases h : k + 4 + 2 * n ≤ t.size
    · by_cases hm : t.extract k (k + 4) = markT
      · rw [findF_hit t n f k h hm] at hp
        rcases List.mem_cons.1 hp with rfl | hp
        · exact ⟨k + 4, rfl, h⟩
        · exact ih _ p hp
      · rw [findF_miss t n f k h hm] at hp
        exact ih _ p hp
    · rw [findF_end t n _ k h] at hp
      cases hp
theorem findV_at (t : ByteArray) (n : Int) (k : Nat) (hk : k < (findV t n).length) : ∃ m q : Nat, n = (m : Int) ∧ m ≤ 200 ∧ (findV t n)[k] = (q : Int) ∧ q + 2 * m ≤ t.size ∧ t.size ≤ 20000 := by
  by_cases h : FindOk t n
  · obtain ⟨m, rfl⟩ := Int.eq_ofNat_of_zero_le (show 0 ≤ n by have := h.1.1; omega)
    have hv := findV_in h
    have hmem : (findV t (m : Int))[k] ∈ findF t m (t.size + 1) 0 := by rw [← hv]; exact List.getElem_mem hk
    obtain ⟨q, hq, hle⟩ := findF_in t m _ _ _ hmem
    exact ⟨m, q, rfl, by have := h.1.2; omega, hq, hle, h.2⟩
  · rw [findV_out h] at hk
    exact absurd hk (Nat.not_lt_zero _)

/-- What is read of the block at a place. -/
noncomputable def readAt (t : ByteArray) (n p : Int) : ByteArray × Int × Bool := readV (t.extract p.toNat (p.toNat + 2 * n.toNat))
noncomputable def textsF (t : ByteArray) (n : Int) (ps : List Int) : List ByteArray := ps.filterMap fun p => if (readAt t n p).2.2 = true then some (readAt t n p).1 else none
noncomputable def badF (t : ByteArray) (n : Int) (ps : List Int) : Nat := (ps.filter fun p => !(readAt t n p).2.2).length
theorem textsF_yes (t : ByteArray) (n : Int) (ps : List Int) (p : Int) (h : (readAt t n p).2.2 = true) : textsF t n (ps ++ [p]) = textsF t n ps ++ [(readAt t n p).1] ∧ badF t n (ps ++ [p]) = badF t n ps := by
  constructor
  · unfold textsF
    rw [List.filterMap_append]
    simp [h]
  · unfold badF
    rw [List.filter_append]
    simp [h]
theorem textsF_no (t : ByteArray) (n : Int) (ps : List Int) (p : Int) (h : (readAt t n p).2.2 = false) : textsF t n (ps ++ [p]) = textsF t n ps ∧ badF t n (ps ++ [p]) = badF t n ps + 1 := by
  constructor
  · unfold textsF
    rw [List.filterMap_append]
    simp [h]
  · unfold badF
    rw [List.filter_append]
    simp [h]
theorem textsF_len (t : ByteArray) (n : Int) (ps : List Int) : (textsF t n ps).length ≤ ps.length := List.length_filterMap_le _ _
theorem badF_len (t : ByteArray) (n : Int) (ps : List Int) : badF t n ps ≤ ps.length := List.length_filter_le _ _

/-- A slice of numbers and one of texts lie in two blocks. -/
theorem own_apart {w : World} {b1 b2 : Nat} {v1 v2 : Value} {l1 : List Int} {l2 : List ByteArray} (h1 : OwnI w b1 v1 l1) (h2 : OwnS w b2 v2 l2) : v1.ownBlock = none ∨ v1.ownBlock ≠ v2.ownBlock := by
  rcases h1.2 with ⟨rfl, _⟩ | ⟨g, cap, cur, rfl, _, hh, _⟩
  · exact .inl rfl
  · refine .inr fun he => ?_
    rcases h2.2 with ⟨rfl, _⟩ | ⟨g', cap', cur', rfl, _, hh', _⟩
    · cases he
    · have e : g = g' := by simpa [Value.ownBlock] using he
      subst e
      rw [hh] at hh'
      simp at hh'

theorem app_text2 {ops : Array Oper} {rest : List Oper} {o : Oper} {a : Act} {Q : Exit → Act → World → Prop} (w : World) (hgd : o.guard = none) (s x : Operand)
    (ho : o.op = .call { callee := .builtin .append, args := #[s, x], argTypes := #[37, 37] })
    (base : Nat) (v : Value) (l : List ByteArray) (t : ByteArray) (hs : a.eval s = v) (hown : OwnS w base v l) (b2 : Nat) (v2 : Value) (l2 : List Int) (hi2 : OwnI w b2 v2 l2) (T : TypeId) (c : Nat)
    (hx : a.eval x = .slice (some ⟨w.heap.size, 0, none⟩) 1 c)
    (hlen : l.length ≤ 1099511627) (hbase : base ≤ w.heap.size)
    (h : ∀ v' w', OwnS w' base v' (l ++ [t]) → OwnI w' b2 v2 l2 → Below base w w' → w.heap.size ≤ w'.heap.size → wpList Tryd.prog ops Q rest (a.put o.dst v') w') :
    wpList Tryd.prog ops Q (o :: rest) a (w.alloc (.cells #[.string t] T)) := by
  obtain ⟨i, hi, hz0, hz1, hz2⟩ := info_parts info_str
  have hown' : (w.alloc (.cells #[.string t] T)).ownsRow base 9 1 v l.length (l.map Value.string) := World.ownsRow.alloc hown _
  have hint' : OwnI (w.alloc (.cells #[.string t] T)) b2 v2 l2 := World.ownsRow.alloc hi2 _
  refine wpList_append_own _ hgd s x 37 ho base 9 i (.string ⟨#[]⟩) 1 16 Tryd.underlying37 hi hz0 hz1 hz2 rfl (by decide) v l.length (l.map Value.string) hs hown'
    ⟨w.heap.size, 0, none⟩ 1 c [.string t] hx rfl (fun j u hu => ?_) (fun u hu => ?_) (by unfold maxLen; omega) (by omega) (by simp; omega) (fun v' w' hown2 hg _ => ?_)
  · rw [show (⟨w.heap.size, 0, none⟩ : Addr).add j = ⟨w.heap.size, j, none⟩ from by unfold Addr.add; split <;> simp_all]
    rw [World.cell?_alloc_at _ _ _ _ rfl]
    simpa using hu
  · obtain rfl : u = .string t := by simpa using hu
    rfl
  · have hz : w.heap.size ≤ w'.heap.size := by have := hg.size; simp at this; omega
    refine h v' w' ?_ ?_ ?_ hz
    · unfold OwnS
      rw [List.length_append, List.map_append]
      exact hown2
    · exact World.ownsRow.kept hint' hg (own_apart hint' hown')
    · exact ((Below.refl base w).alloc hbase _).grown hg (by simp; omega) fun k hk => (World.ownsRow.lt hown' k hk).1

/-- A new slice of texts, and a number. -/
def TextsRes (l : List ByteArray) (c : Nat) (w : World) (e : Ending) (w' : World) : Prop := ∃ v, e = .returned (.tuple #[v, .int .i64 (c : Int)]) ∧ OwnS w' w.heap.size v l ∧ Below w.heap.size w w'
end Go.Proofs.YtdponcannphboabDoor
