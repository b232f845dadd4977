/- What this text proves: the parts LoC, Code of the proof, each under its own words. -/
import Derived.Test.YtegahdlfjdjcaaaV32
import Derived.Test.YtegahdlfjdjcaaaV39
import Derived.Test.YtegahdlfjdjcaaaV42
import Derived.Test.YtegahdlfjdjcaaaV25
import Derived.Test.YtegahdlfjdjcaaaV26
import Derived.Test.YtegahdlfjdjcaaaV00
import Derived.WalkKit
import Derived.LoopTactic
import Derived.IntWalk
import Derived.Lib.Hide
import Derived.BigQuiet
import Derived.Deep.QuietTactic
import Derived.Outline
/- What this text proves: what packing, filling, taking and pushing answer in the law over lost frames, and its boxes. -/
namespace Go.Proofs.Ytegahdlfjdjcaaa
open Go.ChangeShapes Go.WideShapes Go.ChangeAt Go.RowKit
set_option linter.unusedVariables false

theorem packL_call (L : List Pk) (h : ∀ p ∈ L, OkQ p) (hL : L.length ≤ 7) (k : Nat) (hk : k < L.length) (hp : PaOk 0 0 (encQ (L.take k)) (stL (L.take k) 0)) :
    ∀ v W b, OwnI W b v (stL (L.take k) 0) → Calls Try.prog 20 #[paV 0 0 (encQ (L.take k)) v, pkV (L[k]'hk).1 (L[k]'hk).2.1 (L[k]'hk).2.2] W fun e w' => ∃ A1 n1 c1, e = .returned (.tuple #[paV 0 0 (encQ (L.take (k + 1))) (.slice A1 n1 c1), .bool true]) ∧ OwnI w' W.heap.size (.slice A1 n1 c1) (stL (L.take (k + 1)) 0) ∧ Below W.heap.size W w' := by
  intro v W b ho
  obtain ⟨h1, h2, h3, _⟩ := pack_next L h hL k hk hp
  have hz := encQ_size_le (L.take k) (fun p hp => h p (List.mem_of_mem_take hp))
  have hl := stL_len (L.take k) 0
  rw [List.length_take] at hz hl
  have hd := (h _ (List.getElem_mem hk)).2.2
  obtain ⟨A1, c1, rfl⟩ := ho.form
  refine (pack_impl 0 0 (encQ (L.take k)) A1 (stL (L.take k) 0) c1 (L[k]'hk).1 (L[k]'hk).2.1 (L[k]'hk).2.2 (by omega) (by omega) (by omega) W ho.ints).mono ?_
  rintro e w' ⟨v, e1, e2, e3⟩
  rw [h1, h2] at e1
  rw [h3] at e2
  obtain ⟨A2, c2, rfl⟩ := e2.form
  exact ⟨A2, _, c2, e1, e2, e3⟩
theorem fillL_call (L : List Pk) (h : ∀ p ∈ L, OkQ p) (hL : L.length ≤ 7) (hp : PaOk 0 0 (encQ L) (stL L 0)) :
    ∀ v W b, OwnI W b v (stL L 0) → Calls Try.prog 23 #[paV 0 0 (encQ L) v] W fun e w' => ∃ A1 n1 c1, e = .returned (paV 0 0 (encQ (L ++ idleQ (encQ L).size)) (.slice A1 n1 c1)) ∧ OwnI w' W.heap.size (.slice A1 n1 c1) (stL (L ++ idleQ (encQ L).size) 0) ∧ Below W.heap.size W w' := by
  intro v W b ho
  obtain ⟨_, h2, h3, _⟩ := fill_next L h hL hp
  have hz := encQ_size_le L h
  have hl := stL_len L 0
  obtain ⟨A1, c1, rfl⟩ := ho.form
  refine (fill_impl 0 0 (encQ L) A1 (stL L 0) c1 (by omega) (by omega) W ho.ints).mono ?_
  rintro e w' ⟨v, e1, e2, e3⟩
  rw [h2] at e1
  rw [h3] at e2
  obtain ⟨A2, c2, rfl⟩ := e2.form
  exact ⟨A2, _, c2, e1, e2, e3⟩
theorem takeL_call {S : ByteArray} {l : List Int} {K : Nat} (hp : PaOk 0 0 S l) (hS : S.size = 24 * K) (hK : K ≤ 14) (hl : l.length ≤ 1000) :
    ∀ v W b, OwnI W b v l → Calls Try.prog 29 #[paV 0 0 S v] W fun e w' => ∃ n1 r1 A1 m1 c1 v2, e = .returned (.tuple #[paV 0 n1 r1 (.slice A1 m1 c1), v2]) ∧ OwnF w' W.heap.size v2 ((List.range K).map (frI S l)) ∧ Below W.heap.size W w' := by
  intro v W b ho
  obtain ⟨A1, c1, rfl⟩ := ho.form
  refine (takes_impl 0 0 S A1 l c1 K (by omega) (by omega) (runs_at hp hS (by omega)) (by omega) W ho.ints).mono ?_
  rintro e w' ⟨v, v2, e1, e2, e3, e4⟩
  obtain ⟨A2, c2, rfl⟩ := e2.form
  rw [flT_at hp hS (by omega) K (Nat.le_refl _)] at e3
  exact ⟨_, _, A2, _, c2, v2, e1, e3, e4⟩
theorem pushL_call {keep : Nat → Bool} {S : ByteArray} {A : List Pk} {K : Nat} (hA : ∀ p ∈ A, OkQ p) (hS : S = encQ A) (hSz : S.size = 24 * K) (hK : K ≤ 14) (hpa : PaOk 0 0 S (stL A 0)) :
    ∃ t : Un4, UpOk 0 t.1 t.2.1 t.2.2.1 t.2.2.2 ∧ ((kpL keep S (stL A 0) K).length < K ∨ t.2.2.2 = 0) ∧
    ∀ v W b, OwnF W b v (kpL keep S (stL A 0) K) → Calls Try.prog 30 #[unV 0 (-1) false ⟨#[]⟩ 0, v] W fun e w' => ∃ v2, e = .returned (.tuple #[unV 0 t.1 t.2.1 t.2.2.1 t.2.2.2, v2]) ∧ OwnP w' W.heap.size v2 (wantQ keep A 0) ∧ Below W.heap.size W w' := by
  obtain ⟨t, h1, h2, h3, h4⟩ := lost_end (keep := keep) hA hS hSz (by omega) hpa
  refine ⟨t, h3, h4, fun v W b ho => ?_⟩
  obtain ⟨l1, _⟩ := kpL_len keep S (stL A 0) K
  have hd : ∀ k, k ≤ (kpL keep S (stL A 0) K).length → totD (kpL keep S (stL A 0) K) k ≤ 24 * k := by
    intro k
    induction k with
    | zero => intro _; exact Nat.le_refl _
    | succ k ih =>
      intro hk
      have h1 := ih (by omega)
      have h2 := kpL_data keep S (stL A 0) K _ (List.getElem_mem (show k < (kpL keep S (stL A 0) K).length from hk))
      simp only [totD]
      rw [getD_at (show k < (kpL keep S (stL A 0) K).length from hk)]
      omega
  have h5 := hd _ (Nat.le_refl _)
  refine (pushes_impl 0 (-1) false ⟨#[]⟩ 0 (kpL keep S (stL A 0) K) v b (by show 0 + _ ≤ _; omega) (by omega) W ho).mono ?_
  rintro e w' ⟨v2, e1, e2, e3⟩
  rw [show ((-1 : Int), false, (⟨#[]⟩ : ByteArray), (0 : Int)) = un0 from rfl] at e1 e2
  rw [h1] at e1
  rw [h2] at e2
  exact ⟨v2, e1, e2, e3⟩

/-- A packer's box, its Starts, the places where packets began. -/
structure FL (b W : World) (gP : Nat) (p : List Value) (vl : Value) (l : List Int) (v5 : Value) (F : List Int) : Prop where
  below : Below b.heap.size b W
  bp : Box W gP p
  oi : OwnI W (gP + 1) vl l
  o5 : OwnI W (gP + 1) v5 F
  ap : ∀ k, v5.ownBlock = some k → vl.ownBlock ≠ some k
  o1 : b.heap.size ≤ gP
theorem FL.far {b W : World} {gP : Nat} {p : List Value} {vl v5 : Value} {l F : List Int} (h : FL b W gP p vl l v5 F) : gP + 1 ≤ W.heap.size := h.bp.lt
theorem FL.more {b W W' : World} {gP : Nat} {p : List Value} {vl v5 : Value} {l F : List Int} (h : FL b W gP p vl l v5 F) (hb : Below W.heap.size W W') : FL b W' gP p vl l v5 F :=
  ⟨h.below.trans (hb.mono h.below.size), h.bp.more hb, h.oi.more hb, h.o5.more hb, h.ap, h.o1⟩
theorem FL.app {b W W' : World} {gP : Nat} {p : List Value} {vl v5 v' : Value} {l F F' : List Int} (h : FL b W gP p vl l v5 F) (ho : OwnI W' (gP + 1) v' F') (hg : W.grownBy W' v5.ownBlock) (hor : v'.ownBlock = v5.ownBlock ∨ v'.ownBlock = some W.heap.size) : FL b W' gP p vl l v' F' := by
  have o1 := h.o1
  have hl5 := World.ownsRow.lt h.o5
  have hll := World.ownsRow.lt h.oi
  refine ⟨h.below.grown hg h.below.size (fun k hk => by have := (hl5 k hk).1; omega), h.bp.grown hg (fun e => by have := (hl5 _ e).1; omega), OwnI.grown h.oi hg (fun k hk e => h.ap k e hk), ho, fun k hk e => ?_, h.o1⟩
  rcases hor with e1 | e1
  · exact h.ap k (by rw [← e1]; exact hk) e
  · rw [e1] at hk
    injection hk with hk
    have := (hll k e).2
    omega
theorem FL.freshP {b W W' : World} {gP : Nat} {p : List Value} {vl v5 v' : Value} {l l' F : List Int} (h : FL b W gP p vl l v5 F) (hb : Below W.heap.size W W') (ho : OwnI W' W.heap.size v' l') (us : List Value) (hl : us.length = p.length) : FL b (W'.setCells gP 0 us) gP us v' l' v5 F := by
  have hf := h.far
  have h2 := h.more hb
  exact ⟨below_setCells h.o1 us 0 _ h2.below, h2.bp.all hl, (OwnI.cellsPast' (by omega) us 0 W' ho).lower (by omega), OwnI.cellsPast' (by omega) us 0 W' h2.o5, fun k hk e => by have h3 := (World.ownsRow.lt h.o5 k hk).2; have h4 := (World.ownsRow.lt ho k e).1; omega, h.o1⟩
/-- Two slices of rows of different types lie in different blocks. -/
theorem rows_apart {w : World} {E1 E2 : TypeId} {s1 s2 b1 b2 : Nat} {v1 v2 : Value} {l1 l2 : List (List Value)} (hE : E1 ≠ E2) (h1 : OwnR E1 s1 w b1 v1 l1) (h2 : OwnR E2 s2 w b2 v2 l2) : ∀ k, v1.ownBlock = some k → v2.ownBlock ≠ some k := by
  intro k hk hk2
  rcases h1.1.2 with ⟨rfl, _⟩ | ⟨g1, cap1, cur1, rfl, _, hh1, _⟩
  · cases hk
  · rcases h2.1.2 with ⟨rfl, _⟩ | ⟨g2, cap2, cur2, rfl, _, hh2, _⟩
    · cases hk2
    · have e2 : g1 = g2 := by
        have e3 : g1 = k := by injection hk
        have e4 : g2 = k := by injection hk2
        rw [e3, e4]
      subst e2
      rw [hh1] at hh2
      injection hh2 with h3
      injection h3 with _ h4
      exact hE h4
/-- The frames that were kept, and which. -/
structure FK (b W : World) (v9 : Value) (fs : List Fr4) (v10 : Value) (ks : List Bool) : Prop where
  below : Below b.heap.size b W
  o9 : OwnF W b.heap.size v9 fs
  o10 : OwnR 4 1 W b.heap.size v10 (ks.map fun x => [Value.bool x])
theorem FK.more {b W W' : World} {v9 v10 : Value} {fs : List Fr4} {ks : List Bool} (h : FK b W v9 fs v10 ks) (hb : Below W.heap.size W W') : FK b W' v9 fs v10 ks :=
  ⟨h.below.trans (hb.mono h.below.size), OwnR.more h.o9 hb, OwnR.more h.o10 hb⟩
theorem FK.app9 {b W W' : World} {v9 v10 v' : Value} {fs fs' : List Fr4} {ks : List Bool} (h : FK b W v9 fs v10 ks) (ho : OwnF W' b.heap.size v' fs') (hg : W.grownBy W' v9.ownBlock) : FK b W' v' fs' v10 ks :=
  ⟨h.below.grown hg h.below.size (fun k hk => (OwnR.upto h.o9 k hk).1), ho, OwnR.grown h.o10 hg (fun k hk e => rows_apart (by decide) h.o9 h.o10 k e hk)⟩
theorem FK.app10 {b W W' : World} {v9 v10 v' : Value} {fs : List Fr4} {ks ks' : List Bool} (h : FK b W v9 fs v10 ks) (ho : OwnR 4 1 W' b.heap.size v' (ks'.map fun x => [Value.bool x])) (hg : W.grownBy W' v10.ownBlock) : FK b W' v9 fs v' ks' :=
  ⟨h.below.grown hg h.below.size (fun k hk => (OwnR.upto h.o10 k hk).1), OwnR.grown h.o9 hg (fun k hk e => rows_apart (by decide) h.o9 h.o10 k hk e), ho⟩
end Go.Proofs.Ytegahdlfjdjcaaa
/- What this text proves: what the laws ask of the bytes that they draw from: their length is looked at, and single ones are read. -/
namespace Go.Proofs.Ytegahdlfjdjcaaa
open Go.ChangeShapes Go.WideShapes Go.ChangeAt Go.RowKit
set_option linter.unusedVariables false

/-- The first n cells at an address below block B are bytes. -/
def CodeOk (w : World) (B : Nat) (A : Option Addr) (n : Nat) : Prop :=
  n = 0 ∨ ∃ b off, A = some ⟨b, off, none⟩ ∧ b < B ∧ ∀ j, j < n → ∃ x : Nat, x ≤ 255 ∧ w.cell? ⟨b, off + j, none⟩ = some (.int .u8 (x : Int))
theorem CodeOk.more {w w' : World} {B : Nat} {A : Option Addr} {n : Nat} (h : CodeOk w B A n) (hb : Below B w w') : CodeOk w' B A n := by
  rcases h with h | ⟨b, off, hA, hlt, hc⟩
  · exact .inl h
  · refine .inr ⟨b, off, hA, hlt, fun j hj => ?_⟩
    obtain ⟨x, hx, hcell⟩ := hc j hj
    exact ⟨x, hx, by rw [hb.cell (p := ⟨b, off + j, none⟩) hlt]; exact hcell⟩

def Small (w : World) (e : Ending) (w' : World) : Prop := ∃ x : Nat, x ≤ 255 ∧ e = .returned (.int .i64 (x : Int)) ∧ w = w'

theorem big_yes (A : Option Addr) (n c : Nat) (hn : 1048576 < n) (hm : n ≤ maxLen) (w : World) :
    Calls Try.prog 15 #[.slice A n c] w fun e w' => e = .returned (.bool true) ∧ w = w' := by
  unfold maxLen at hm
  have hd : decide ((1048576 : Int) < (n : Int)) = true := by simp; omega
  go_enter Try.func15, Try.ntmps15
  go_wp2
  go_ret
  exact ⟨rfl, rfl⟩
theorem big_no (A : Option Addr) (n c : Nat) (hn : n ≤ 1048576) (w : World) :
    Calls Try.prog 15 #[.slice A n c] w fun e w' => e = .returned (.bool false) ∧ w = w' := by
  have hd : decide ((1048576 : Int) < (n : Int)) = false := by simp; omega
  go_enter Try.func15, Try.ntmps15
  go_wp2
  go_ret
  exact ⟨rfl, rfl⟩

end Go.Proofs.Ytegahdlfjdjcaaa
