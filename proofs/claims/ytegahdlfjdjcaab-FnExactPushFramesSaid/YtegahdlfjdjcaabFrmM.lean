/- What this text proves: the contracts of the laws' marks over lists of frames: marks that were written are found again. -/
import Derived.Test.YtegahdlfjdjcaabFrmS
import Derived.Test.YtegahdlfjdjcaabPktM
import Derived.Test.YtegahdlfjdjcaabMarkG
namespace Go.Proofs.Ytegahdlfjdjcaab
open Go.ChangeShapes Go.WideShapes Go.ChangeAt Go.RowKit
set_option linter.unusedVariables false

/-- The first k frames of block g bear their marks. -/
def MkF (W : World) (g M k : Nat) : Prop := ∀ i, i < k → W.cell? ⟨g, i * 4, none⟩ = some (.int .i64 ((M : Int) + 4 * (i : Int))) ∧ W.cell? ⟨g, i * 4 + 1, none⟩ = some (.int .i64 ((M : Int) + 4 * (i : Int) + 1)) ∧ W.cell? ⟨g, i * 4 + 2, none⟩ = some (.int .i64 ((M : Int) + 4 * (i : Int) + 1 + 1)) ∧ W.cell? ⟨g, i * 4 + 3, none⟩ = some (.string (markV (M + 4 * i + 3)))
theorem MkF.more {W W' : World} {g M k n : Nat} (h : MkF W g M k) (hb : Below n W W') (hg : g < n) : MkF W' g M k := fun i hi =>
  ⟨(hb.cell (p := ⟨g, i * 4, none⟩) hg).trans (h i hi).1, (hb.cell (p := ⟨g, i * 4 + 1, none⟩) hg).trans (h i hi).2.1, (hb.cell (p := ⟨g, i * 4 + 2, none⟩) hg).trans (h i hi).2.2.1, (hb.cell (p := ⟨g, i * 4 + 3, none⟩) hg).trans (h i hi).2.2.2⟩
theorem MkF.past {W : World} {g M k : Nat} (h : MkF W g M k) (j : Nat) (hj : k * 4 ≤ j) (u : Value) : MkF (W.setCell ⟨g, j, none⟩ u) g M k := fun i hi => by
  refine ⟨?_, ?_, ?_, ?_⟩
  · rw [World.cell?_setCell_other _ _ _ _ (fun he => by have := congrArg Addr.off he; simp at this; omega)]; exact (h i hi).1
  · rw [World.cell?_setCell_other _ _ _ _ (fun he => by have := congrArg Addr.off he; simp at this; omega)]; exact (h i hi).2.1
  · rw [World.cell?_setCell_other _ _ _ _ (fun he => by have := congrArg Addr.off he; simp at this; omega)]; exact (h i hi).2.2.1
  · rw [World.cell?_setCell_other _ _ _ _ (fun he => by have := congrArg Addr.off he; simp at this; omega)]; exact (h i hi).2.2.2
theorem MkF.succ {W : World} {g M k : Nat} (h : MkF W g M k) (h0 : W.cell? ⟨g, k * 4, none⟩ = some (.int .i64 ((M : Int) + 4 * (k : Int)))) (h1 : W.cell? ⟨g, k * 4 + 1, none⟩ = some (.int .i64 ((M : Int) + 4 * (k : Int) + 1))) (h2 : W.cell? ⟨g, k * 4 + 2, none⟩ = some (.int .i64 ((M : Int) + 4 * (k : Int) + 1 + 1))) (h3 : W.cell? ⟨g, k * 4 + 3, none⟩ = some (.string (markV (M + 4 * k + 3)))) : MkF W g M (k + 1) := fun i hi => by
  rcases Nat.lt_or_ge i k with h4 | h4
  · exact h i h4
  · obtain rfl : i = k := by omega
    exact ⟨h0, h1, h2, h3⟩
/-- A world where frame k of block g bears its first three marks, behind k marked ones. -/
structure MkB (w W : World) (g N M k : Nat) : Prop where
  pad : Pad W g N
  mkd : MkF W g M k
  c0 : W.cell? ⟨g, k * 4, none⟩ = some (.int .i64 ((M : Int) + 4 * (k : Int)))
  c1 : W.cell? ⟨g, k * 4 + 1, none⟩ = some (.int .i64 ((M : Int) + 4 * (k : Int) + 1))
  c2 : W.cell? ⟨g, k * 4 + 2, none⟩ = some (.int .i64 ((M : Int) + 4 * (k : Int) + 1 + 1))
  gr : w.grownBy W (some g)
theorem cell_past {W : World} {g i j : Nat} {x u : Value} (h : W.cell? ⟨g, i, none⟩ = some x) (hij : j ≠ i) : (W.setCell ⟨g, j, none⟩ u).cell? ⟨g, i, none⟩ = some x := by
  rw [World.cell?_setCell_other _ _ _ _ (fun he => hij (congrArg Addr.off he))]
  exact h
theorem MkB.made {w W : World} {g N M k : Nat} (hp : Pad W g N) (hm : MkF W g M k) (hN : k * 4 + 3 < N) (hb : w.grownBy W (some g)) :
    MkB w (((W.setCell ⟨g, k * 4, none⟩ (.int .i64 ((M : Int) + 4 * (k : Int)))).setCell ⟨g, k * 4 + 1, none⟩ (.int .i64 ((M : Int) + 4 * (k : Int) + 1))).setCell ⟨g, k * 4 + 2, none⟩ (.int .i64 ((M : Int) + 4 * (k : Int) + 1 + 1))) g N M k := by
  obtain ⟨v0, d0⟩ := hp.has (k * 4) (by omega)
  obtain ⟨v1, d1⟩ := (hp.set (k * 4) (.int .i64 ((M : Int) + 4 * (k : Int)))).has (k * 4 + 1) (by omega)
  obtain ⟨v2, d2⟩ := ((hp.set (k * 4) (.int .i64 ((M : Int) + 4 * (k : Int)))).set (k * 4 + 1) (.int .i64 ((M : Int) + 4 * (k : Int) + 1))).has (k * 4 + 2) (by omega)
  exact ⟨((hp.set _ _).set _ _).set _ _, ((hm.past (k * 4) (Nat.le_refl _) _).past (k * 4 + 1) (by omega) _).past (k * 4 + 2) (by omega) _,
    cell_past (cell_past (World.cell?_setCell_same _ _ _ d0) (by omega)) (by omega), cell_past (World.cell?_setCell_same _ _ _ d1) (by omega), World.cell?_setCell_same _ _ _ d2,
    grown_store (grown_store (grown_store hb _) _) _⟩
theorem MkB.more {w W W' : World} {g N M k : Nat} (h : MkB w W g N M k) (hb : Below W.heap.size W W') : MkB w W' g N M k :=
  ⟨h.pad.more hb, h.mkd.more hb h.pad.lt, (hb.cell (p := ⟨g, k * 4, none⟩) h.pad.lt).trans h.c0, (hb.cell (p := ⟨g, k * 4 + 1, none⟩) h.pad.lt).trans h.c1, (hb.cell (p := ⟨g, k * 4 + 2, none⟩) h.pad.lt).trans h.c2, grown_trans h.gr (grown_of hb _)⟩
theorem MkB.last {w W : World} {g N M k : Nat} (h : MkB w W g N M k) (hN : k * 4 + 3 < N) (T : ByteArray) (hT : markV (M + 4 * k + 3) = T) :
    Pad (W.setCell ⟨g, k * 4 + 3, none⟩ (.string T)) g N ∧ MkF (W.setCell ⟨g, k * 4 + 3, none⟩ (.string T)) g M (k + 1) ∧ w.grownBy (W.setCell ⟨g, k * 4 + 3, none⟩ (.string T)) (some g) := by
  obtain ⟨v3, d3⟩ := h.pad.has (k * 4 + 3) hN
  subst hT
  exact ⟨h.pad.set _ _, (h.mkd.past (k * 4 + 3) (by omega) _).succ (cell_past h.c0 (by omega)) (cell_past h.c1 (by omega)) (cell_past h.c2 (by omega)) (World.cell?_setCell_same _ _ _ d3), grown_store h.gr _⟩

set_option maxHeartbeats 4000000 in
theorem markF_any (w : World) (base : Nat) (v : Value) (l : List (Int × Int × Int × ByteArray)) (hl : l.length ≤ 2000000) (M : Nat) (hM1 : 1 ≤ M) (hM : M ≤ 10000000) (hown : OwnF w base v l) (hbase : base ≤ w.heap.size) :
    Calls Try.prog 20 #[v, .int .i64 (M : Int)] w fun e w' => e = .returned (.int .i64 ((M : Int) + 4 * (l.length : Int))) ∧ w.grownBy w' v.ownBlock ∧ (∀ g c, 0 < l.length → v = .slice (some ⟨g, 0, none⟩) l.length c → g < w'.heap.size ∧ MkF w' g M l.length) := by
  rcases Nat.eq_zero_or_pos l.length with h0 | h0
  · obtain ⟨A1, c1, rfl⟩ := hown.form
    have hlm : (l.map frC).length = 0 := by rw [List.length_map, h0]
    rw [hlm, h0]
    go_enter Try.func20, Try.ntmps20
    go_wp2
    refine wp_loop_rounds 1 ?_
    rw [rounds_succ]
    go_wp2
    go_ret
    exact ⟨by simp, grown_of (Below.refl _ _) _, fun g c h => absurd h (Nat.lt_irrefl 0)⟩
  · obtain ⟨g, c, rfl, hbg, hglt, hc, hf⟩ := hown.rows h0
    have P0 := Lib.hid (show Pad w g (4 * l.length) from ⟨hglt, fun j hj => by
      obtain ⟨a, b, d, f⟩ := hc (j / 4) (by omega)
      rcases (show j = j / 4 * 4 ∨ j = j / 4 * 4 + 1 ∨ j = j / 4 * 4 + 2 ∨ j = j / 4 * 4 + 3 by omega) with e | e | e | e
      · exact ⟨_, by rw [e]; exact a⟩
      · exact ⟨_, by rw [e]; exact b⟩
      · exact ⟨_, by rw [e]; exact d⟩
      · exact ⟨_, by rw [e]; exact f⟩, hf⟩)
    clear hc hf hown
    have HMT := Lib.hid (fun (n : Nat) (h1 : 0 < n) (h2 : n < 1000000000) W => mark_text n h1 h2 W)
    go_enter Try.func20, Try.ntmps20
    go_wp2
    go_loopg [1, 5] l.length (fun gh v1 v5 wx => ∃ k : Nat, k ≤ l.length ∧ gh = l.length - k ∧ v5 = .int .i64 (k : Int) ∧ v1 = .int .i64 ((M : Int) + 4 * (k : Int)) ∧ Pad wx g (4 * l.length) ∧ MkF wx g M k ∧ w.grownBy wx (some g))
    case atStart => exact ⟨0, by omega, rfl, rfl, rfl, P0.out, fun i hi => absurd hi (Nat.not_lt_zero _), grown_of (Below.refl _ _) _⟩
    case round =>
      obtain ⟨k, hk, rfl, rfl, rfl, hpad, hmk, hbel⟩ := hrel
      have HB := Lib.hid hbel
      by_cases hlt : k < l.length
      · have hd : decide (k < l.length) = true := by simp; omega
        obtain ⟨u0, c0⟩ := hpad.has (k * 4) (by omega)
        obtain ⟨u1, c1⟩ := (hpad.set (k * 4) (.int .i64 ((M : Int) + 4 * (k : Int)))).has (k * 4 + 1) (by omega)
        obtain ⟨u2, c2⟩ := ((hpad.set (k * 4) (.int .i64 ((M : Int) + 4 * (k : Int)))).set (k * 4 + 1) (.int .i64 ((M : Int) + 4 * (k : Int) + 1))).has (k * 4 + 2) (by omega)
        have i0 := hpad.ice
        have HBB := Lib.hid (MkB.made hpad hmk (by omega) hbel)
        have hmt := HMT.out (M + 4 * k + 3) (by omega) (by omega)
        rw [show ((M + 4 * k + 3 : Nat) : Int) = (M : Int) + 4 * (k : Int) + 1 + 1 + 1 by omega] at hmt
        have HMK := Lib.hid hmt
        obtain ⟨T, hT⟩ : ∃ T, markV (M + 4 * k + 3) = T := ⟨_, rfl⟩
        rw [hT] at HMK
        have HT := Lib.hid hT
        clear hT
        clear hbel hmk hmt
        go_wp2_with fail
        refine (HMK.out _).mono ?_
        rintro e w2 ⟨rfl, hb2⟩
        have B2 := HBB.out.more hb2
        obtain ⟨u3, c3⟩ := B2.pad.has (k * 4 + 3) (by omega)
        have i2 := B2.pad.ice
        have HLL := Lib.hid (B2.last (by omega) T HT.out)
        clear B2 hb2 c0 c1 c2 i0 hpad
        go_wp2
        go_roundg (l.length - (k + 1))
        case measure => omega
        case rel => exact ⟨k + 1, by omega, rfl, by go_num, by go_num, HLL.out.1, HLL.out.2.1, HLL.out.2.2⟩
      · have hd : decide (k < l.length) = false := by simp; omega
        obtain rfl : k = l.length := by omega
        clear hlt
        go_wp2
        go_ret
        exact ⟨rfl, HB.out, fun g' c' _ e => by cases e; exact ⟨hpad.lt, hmk⟩⟩

set_option maxHeartbeats 4000000 in
theorem heldF_any (w : World) (M : Nat) (A : Option Addr) (n c : Nat) (hn : n ≤ 1000000) (hA : 0 < n → ∃ g, A = some ⟨g, 0, none⟩ ∧ g < w.heap.size ∧ MkF w g M n) (hM1 : 1 ≤ M) (hM : M ≤ 10000000) :
    Calls Try.prog 21 #[.slice A n c, .int .i64 (M : Int)] w fun e w' => e = .returned (.int .i64 ((M : Int) + 4 * (n : Int))) ∧ Below w.heap.size w w' := by
  rcases Nat.eq_zero_or_pos n with h0 | h0
  · subst h0
    clear hA
    go_enter Try.func21, Try.ntmps21
    go_wp2
    refine wp_loop_rounds 1 ?_
    rw [rounds_succ]
    go_wp2
    go_ret
    exact ⟨by simp, Below.refl _ _⟩
  · obtain ⟨g, rfl, hg, hmk⟩ := hA h0
    have HM := Lib.hid hmk
    have HMT := Lib.hid (fun (n : Nat) (h1 : 0 < n) (h2 : n < 1000000000) W => mark_text n h1 h2 W)
    clear hmk hA
    go_enter Try.func21, Try.ntmps21
    go_wp2
    go_loopg [1, 5] n (fun gh v1 v5 wx => ∃ k : Nat, k ≤ n ∧ gh = n - k ∧ v5 = .int .i64 (k : Int) ∧ v1 = .int .i64 ((M : Int) + 4 * (k : Int)) ∧ Below w.heap.size w wx)
    case atStart => exact ⟨0, by omega, rfl, rfl, by simp, Below.refl _ _⟩
    case round =>
      obtain ⟨k, hk, rfl, rfl, rfl, hbel⟩ := hrel
      have HB := Lib.hid hbel
      by_cases hlt : k < n
      · have hd : decide (k < n) = true := by simp; omega
        obtain ⟨x0, x1, x2, x3⟩ := HM.out k hlt
        have cx0 := (hbel.cell (p := ⟨g, k * 4, none⟩) hg).trans x0
        have cx1 := (hbel.cell (p := ⟨g, k * 4 + 1, none⟩) hg).trans x1
        have cx2 := (hbel.cell (p := ⟨g, k * 4 + 2, none⟩) hg).trans x2
        have cx3 := (hbel.cell (p := ⟨g, k * 4 + 3, none⟩) hg).trans x3
        have hmt := HMT.out (M + 4 * k + 3) (by omega) (by omega)
        rw [show ((M + 4 * k + 3 : Nat) : Int) = (M : Int) + 4 * (k : Int) + 1 + 1 + 1 by omega] at hmt
        have HMK := Lib.hid hmt
        have hself : ((markV (M + 4 * k + 3)).toList == (markV (M + 4 * k + 3)).toList) = true := beq_self_eq_true _
        generalize markV (M + 4 * k + 3) = T at *
        have HK2 := Lib.hid (fun W (hW : Below w.heap.size w W) => (HMK.out W).mono fun e w' h => (⟨h.1, hW.trans (h.2.mono hW.size), ((hW.trans (h.2.mono hW.size)).cell (p := ⟨g, k * 4 + 3, none⟩) hg).trans x3⟩ : e = .returned (.string T) ∧ Below w.heap.size w w' ∧ w'.cell? ⟨g, k * 4 + 3, none⟩ = some (.string T)))
        clear x0 x1 x2 x3 hmt hbel
        go_wp2
        go_region_law ((go_simp; go_at_call 52; (with_reducible refine (HK2.out _ HB.out.drew).mono ?_); rintro e w2 ⟨rfl, hb2, d2⟩))
        all_goals go_wp2
        all_goals
          go_roundg (n - (k + 1))
          case measure => omega
          case rel => exact ⟨k + 1, by omega, rfl, by go_num, by go_num, hb2⟩
      · have hd : decide (k < n) = false := by simp; omega
        obtain rfl : k = n := by omega
        clear hlt
        go_wp2
        go_ret
        exact ⟨rfl, HB.out⟩
end Go.Proofs.Ytegahdlfjdjcaab
