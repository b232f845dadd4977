/- What this text proves: the contracts of the laws' marks over lists of commands that wait: marks that were written are found again, and change nothing else. -/
import Derived.Test.YtmmedhjmilgnbabSntS
import Derived.Test.YtmmedhjmilgnbabMarkT
import Derived.Test.YtmmedhjmilgnbabGro
namespace Go.Proofs.Ytmmedhjmilgnbab
open Go.ChangeShapes Go.WideShapes Go.ChangeAt Go.RowKit
set_option linter.unusedVariables false

/-- Block g has N cells that no string shares. -/
structure Pad (W : World) (g N : Nat) : Prop where
  lt : g < W.heap.size
  has : ∀ j, j < N → ∃ v, W.cell? ⟨g, j, none⟩ = some v
  ice : ∀ j, W.frozen? ⟨g, j, none⟩ = false
theorem Pad.more {W W' : World} {g N : Nat} (h : Pad W g N) (hb : Below W.heap.size W W') : Pad W' g N :=
  ⟨Nat.lt_of_lt_of_le h.lt hb.size, fun j hj => by obtain ⟨v, hv⟩ := h.has j hj; exact ⟨v, (hb.cell (p := ⟨g, j, none⟩) h.lt).trans hv⟩, fun j => (hb.frozen (p := ⟨g, j, none⟩) h.lt).trans (h.ice j)⟩
theorem Pad.set {W : World} {g N : Nat} (h : Pad W g N) (i : Nat) (u : Value) : Pad (W.setCell ⟨g, i, none⟩ u) g N := by
  refine ⟨by simpa using h.lt, fun j hj => ?_, fun j => by rw [World.frozen?_setCell]; exact h.ice j⟩
  obtain ⟨v, hv⟩ := h.has j hj
  by_cases e : i = j
  · subst e
    exact ⟨u, World.cell?_setCell_same _ _ _ hv⟩
  · exact ⟨v, by rw [World.cell?_setCell_other _ _ _ _ (fun he => e (congrArg Addr.off he))]; exact hv⟩
/-- The first k commands of block g bear their marks. -/
def MkN (W : World) (g M k : Nat) : Prop := ∀ i, i < k → W.cell? ⟨g, i * 2, none⟩ = some (.int .i64 ((M : Int) + 2 * (i : Int))) ∧ W.cell? ⟨g, i * 2 + 1, none⟩ = some (.string (markV (M + 2 * i + 1)))
theorem MkN.more {W W' : World} {g M k n : Nat} (h : MkN W g M k) (hb : Below n W W') (hg : g < n) : MkN W' g M k := fun i hi =>
  ⟨(hb.cell (p := ⟨g, i * 2, none⟩) hg).trans (h i hi).1, (hb.cell (p := ⟨g, i * 2 + 1, none⟩) hg).trans (h i hi).2⟩
theorem MkN.past {W : World} {g M k : Nat} (h : MkN W g M k) (j : Nat) (hj : k * 2 ≤ j) (u : Value) : MkN (W.setCell ⟨g, j, none⟩ u) g M k := fun i hi => by
  refine ⟨?_, ?_⟩
  · rw [World.cell?_setCell_other _ _ _ _ (fun he => by have := congrArg Addr.off he; simp at this; omega)]; exact (h i hi).1
  · rw [World.cell?_setCell_other _ _ _ _ (fun he => by have := congrArg Addr.off he; simp at this; omega)]; exact (h i hi).2
theorem MkN.succ {W : World} {g M k : Nat} (h : MkN W g M k) (h0 : W.cell? ⟨g, k * 2, none⟩ = some (.int .i64 ((M : Int) + 2 * (k : Int)))) (h1 : W.cell? ⟨g, k * 2 + 1, none⟩ = some (.string (markV (M + 2 * k + 1)))) : MkN W g M (k + 1) := fun i hi => by
  rcases Nat.lt_or_ge i k with h3 | h3
  · exact h i h3
  · obtain rfl : i = k := by omega
    exact ⟨h0, h1⟩
/-- The marks of a list of commands lie there. -/
def MksN (W : World) (M : Nat) (v : Value) (n : Nat) : Prop := ∃ A c, v = .slice A n c ∧ (0 < n → ∃ g, A = some ⟨g, 0, none⟩ ∧ g < W.heap.size ∧ MkN W g M n)
theorem MksN.more {W W' : World} {M n : Nat} {v : Value} (h : MksN W M v n) (hb : Below W.heap.size W W') : MksN W' M v n := by
  obtain ⟨A, c, h1, h2⟩ := h
  refine ⟨A, c, h1, fun h0 => ?_⟩
  obtain ⟨g, h3, h4, h5⟩ := h2 h0
  exact ⟨g, h3, Nat.lt_of_lt_of_le h4 hb.size, h5.more hb h4⟩

set_option maxHeartbeats 4000000 in
theorem markN_any (w : World) (base : Nat) (v : Value) (l : List Sn) (hl : l.length ≤ 1100000) (M : Nat) (hM1 : 1 ≤ M) (hM : M ≤ 10000000) (hown : OwnN w base v l) (hbase : base ≤ w.heap.size) :
    Calls Try.prog 32 #[v, .int .i64 (M : Int)] w fun e w' => e = .returned (.int .i64 ((M : Int) + 2 * (l.length : Int))) ∧ w.grownBy w' v.ownBlock ∧ MksN w' M v l.length := by
  rcases Nat.eq_zero_or_pos l.length with h0 | h0
  · obtain ⟨A1, c1, rfl⟩ := hown.form
    have hlm : (l.map snC).length = 0 := by rw [List.length_map, h0]
    rw [hlm, h0]
    go_enter Try.func32, Try.ntmps32
    go_wp2
    refine wp_loop_rounds 1 ?_
    rw [rounds_succ]
    go_wp2
    go_ret
    exact ⟨by simp, grown_of (Below.refl _ _) _, A1, c1, rfl, fun h => absurd h (Nat.lt_irrefl 0)⟩
  · obtain ⟨g, c, rfl, hbg, hglt, hc, hf⟩ := hown.rows h0
    have P0 := Lib.hid (show Pad w g (2 * l.length) from ⟨hglt, fun j hj => by
      obtain ⟨a, b⟩ := hc (j / 2) (by omega)
      rcases (show j = j / 2 * 2 ∨ j = j / 2 * 2 + 1 by omega) with e | e
      · exact ⟨_, by rw [e]; exact a⟩
      · exact ⟨_, by rw [e]; exact b⟩, hf⟩)
    clear hc hf hown
    have HMT := Lib.hid (fun (n : Nat) (h1 : 0 < n) (h2 : n < 1000000000) W => mark_text n h1 h2 W)
    go_enter Try.func32, Try.ntmps32
    go_wp2
    go_loopg [1, 5] l.length (fun gh v1 v5 wx => ∃ k : Nat, k ≤ l.length ∧ gh = l.length - k ∧ v5 = .int .i64 (k : Int) ∧ v1 = .int .i64 ((M : Int) + 2 * (k : Int)) ∧ Pad wx g (2 * l.length) ∧ MkN wx g M k ∧ w.grownBy wx (some g) ∧ w.heap.size ≤ wx.heap.size)
    case atStart => exact ⟨0, by omega, rfl, rfl, by simp, P0.out, fun i hi => absurd hi (Nat.not_lt_zero _), grown_of (Below.refl _ _) _, Nat.le_refl _⟩
    case round =>
      obtain ⟨k, hk, rfl, rfl, rfl, hpad, hmk, hbel, hsz⟩ := hrel
      have HB := Lib.hid hbel
      by_cases hlt : k < l.length
      · have hd : decide (k < l.length) = true := by simp; omega
        obtain ⟨u0, c0⟩ := hpad.has (k * 2) (by omega)
        have i0 := hpad.ice
        have HP2 := Lib.hid (hpad.set (k * 2) (.int .i64 ((M : Int) + 2 * (k : Int))))
        have HM2 := Lib.hid (hmk.past (k * 2) (Nat.le_refl _) (.int .i64 ((M : Int) + 2 * (k : Int))))
        have hA : (wr.setCell ⟨g, k * 2, none⟩ (.int .i64 ((M : Int) + 2 * (k : Int)))).cell? ⟨g, k * 2, none⟩ = some (.int .i64 ((M : Int) + 2 * (k : Int))) := World.cell?_setCell_same _ _ _ c0
        have HA := Lib.hid hA
        have HW := Lib.hid (grown_store HB.out (j := k * 2) (.int .i64 ((M : Int) + 2 * (k : Int))))
        have HZ := Lib.hid (show w.heap.size ≤ (wr.setCell ⟨g, k * 2, none⟩ (.int .i64 ((M : Int) + 2 * (k : Int)))).heap.size by simpa using hsz)
        have HGL := Lib.hid (show g < (wr.setCell ⟨g, k * 2, none⟩ (.int .i64 ((M : Int) + 2 * (k : Int)))).heap.size by simpa using hpad.lt)
        have hmt := HMT.out (M + 2 * k + 1) (by omega) (by omega)
        rw [show ((M + 2 * k + 1 : Nat) : Int) = (M : Int) + 2 * (k : Int) + 1 by omega] at hmt
        have HMK := Lib.hid hmt
        obtain ⟨T, hT⟩ : ∃ T, markV (M + 2 * k + 1) = T := ⟨_, rfl⟩
        rw [hT] at HMK
        have HT := Lib.hid hT
        clear hT
        clear hbel hmk hA hmt
        go_wp2_with fail
        refine (HMK.out _).mono ?_
        rintro e w2 ⟨rfl, hb2⟩
        have P2 := HP2.out.more hb2
        have M2 := HM2.out.more hb2 HGL.out
        have A2 := Lib.hid ((hb2.cell (p := ⟨g, k * 2, none⟩) HGL.out).trans HA.out)
        have W2 := Lib.hid (grown_trans HW.out (grown_of hb2 (some g)))
        have Z2 := Lib.hid (Nat.le_trans HZ.out hb2.size)
        obtain ⟨u2, c2⟩ := P2.has (k * 2 + 1) (by omega)
        have i2 := P2.ice
        have PF := Lib.hid (P2.set (k * 2 + 1) (.string T))
        have MF := Lib.hid ((M2.past (k * 2 + 1) (by omega) (.string T)).succ (by rw [World.cell?_setCell_other _ _ _ _ (fun he => by have := congrArg Addr.off he; simp at this)]; exact A2.out) (by rw [HT.out]; exact World.cell?_setCell_same _ _ _ c2))
        clear P2 M2 hb2 c0 i0 hpad
        go_wp2
        go_roundg (l.length - (k + 1))
        case measure => omega
        case rel => exact ⟨k + 1, by omega, rfl, by go_num, by go_num, PF.out, MF.out, grown_store W2.out _, by have := Z2.out; simpa using this⟩
      · have hd : decide (k < l.length) = false := by simp; omega
        obtain rfl : k = l.length := by omega
        clear hlt
        go_wp2
        go_ret
        exact ⟨rfl, HB.out, _, _, rfl, fun _ => ⟨g, rfl, hpad.lt, hmk⟩⟩

set_option maxHeartbeats 4000000 in
theorem heldN_any (w : World) (M : Nat) (A : Option Addr) (n c : Nat) (hn : n ≤ 1100000) (hA : 0 < n → ∃ g, A = some ⟨g, 0, none⟩ ∧ g < w.heap.size ∧ MkN w g M n) (hM1 : 1 ≤ M) (hM : M ≤ 10000000) :
    Calls Try.prog 33 #[.slice A n c, .int .i64 (M : Int)] w fun e w' => e = .returned (.int .i64 ((M : Int) + 2 * (n : Int))) ∧ Below w.heap.size w w' := by
  rcases Nat.eq_zero_or_pos n with h0 | h0
  · subst h0
    clear hA
    go_enter Try.func33, Try.ntmps33
    go_wp2
    refine wp_loop_rounds 1 ?_
    rw [rounds_succ]
    go_wp2
    go_ret
    exact ⟨by simp, Below.refl _ _⟩
  · obtain ⟨g, rfl, hg, hmk⟩ := hA h0
    have HM := Lib.hid hmk
    have HMT := Lib.hid (fun (n : Nat) (h1 : 0 < n) (h2 : n < 1000000000) W => mark_text n h1 h2 W)
    clear hmk hA
    go_enter Try.func33, Try.ntmps33
    go_wp2
    go_loopg [1, 5] n (fun gh v1 v5 wx => ∃ k : Nat, k ≤ n ∧ gh = n - k ∧ v5 = .int .i64 (k : Int) ∧ v1 = .int .i64 ((M : Int) + 2 * (k : Int)) ∧ Below w.heap.size w wx)
    case atStart => exact ⟨0, by omega, rfl, rfl, by simp, Below.refl _ _⟩
    case round =>
      obtain ⟨k, hk, rfl, rfl, rfl, hbel⟩ := hrel
      have HB := Lib.hid hbel
      by_cases hlt : k < n
      · have hd : decide (k < n) = true := by simp; omega
        obtain ⟨x0, x1⟩ := HM.out k hlt
        have cx0 := (hbel.cell (p := ⟨g, k * 2, none⟩) hg).trans x0
        have cx1 := (hbel.cell (p := ⟨g, k * 2 + 1, none⟩) hg).trans x1
        have hmt := HMT.out (M + 2 * k + 1) (by omega) (by omega)
        rw [show ((M + 2 * k + 1 : Nat) : Int) = (M : Int) + 2 * (k : Int) + 1 by omega] at hmt
        have HMK := Lib.hid hmt
        have hself : ((markV (M + 2 * k + 1)).toList == (markV (M + 2 * k + 1)).toList) = true := beq_self_eq_true _
        generalize markV (M + 2 * k + 1) = T at *
        have HK2 := Lib.hid (fun W (hW : Below w.heap.size w W) => (HMK.out W).mono fun e w' h => (⟨h.1, hW.trans (h.2.mono hW.size), ((hW.trans (h.2.mono hW.size)).cell (p := ⟨g, k * 2 + 1, none⟩) hg).trans x1⟩ : e = .returned (.string T) ∧ Below w.heap.size w w' ∧ w'.cell? ⟨g, k * 2 + 1, none⟩ = some (.string T)))
        clear x0 x1 hmt hbel
        go_wp2
        go_region_law ((go_simp; go_at_call 41; (with_reducible refine (HK2.out _ HB.out.drew).mono ?_); rintro e w2 ⟨rfl, hb2, d2⟩))
        all_goals go_wp2
        all_goals
          go_roundg (n - (k + 1))
          case measure => omega
          case rel => exact ⟨k + 1, by omega, rfl, by go_num, by go_num, hb2⟩
      · have hd : decide (k < n) = false := by simp; omega
        obtain rfl : k = n := by omega
        clear hlt
        go_wp2
        go_ret
        exact ⟨rfl, HB.out⟩
theorem heldN_mks (w : World) (M : Nat) (v : Value) (n : Nat) (hn : n ≤ 1100000) (h : MksN w M v n) (hM1 : 1 ≤ M) (hM : M ≤ 10000000) :
    Calls Try.prog 33 #[v, .int .i64 (M : Int)] w fun e w' => e = .returned (.int .i64 ((M : Int) + 2 * (n : Int))) ∧ Below w.heap.size w w' := by
  obtain ⟨A, c, rfl, hA⟩ := h
  exact heldN_any w M A n c hn hA hM1 hM
end Go.Proofs.Ytmmedhjmilgnbab
