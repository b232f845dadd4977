/- What this text proves: a list of commands that lies somewhere in a block of the call's own (s[k:]): the laws' own comparison, marks and their reading. -/
import Derived.Test.YtmmedhjmilgnbabSntM
import Derived.Test.YtmmedhjmilgnbabSndB
import Derived.Test.YtmmedhjmilgnbabRowC
import Derived.Laws.Slices
namespace Go.Proofs.Ytmmedhjmilgnbab
open Go.ChangeShapes Go.WideShapes Go.ChangeAt Go.RowKit
set_option linter.unusedVariables false

structure OwnO (w : World) (base : Nat) (v : Value) (l : List Sn) : Prop where
  form : ∃ A c, v = .slice A l.length c
  up : ∀ k, v.ownBlock = some k → base ≤ k ∧ k < w.heap.size
  rows : 0 < l.length → ∃ g off, (∃ c, v = .slice (some ⟨g, off, none⟩) l.length c) ∧ (∀ k (hk : k < l.length), w.cell? ⟨g, off + k * 2, none⟩ = some (.int .i64 l[k].1) ∧ w.cell? ⟨g, off + k * 2 + 1, none⟩ = some (.string l[k].2)) ∧ (∀ j, w.frozen? ⟨g, j, none⟩ = false)
theorem OwnO.block {w : World} {base : Nat} {v : Value} {l : List Sn} (h : OwnO w base v l) {g off c : Nat} (e : v = .slice (some ⟨g, off, none⟩) l.length c) : base ≤ g ∧ g < w.heap.size := h.up g (by rw [e]; rfl)
theorem OwnN.toO {w : World} {base : Nat} {v : Value} {l : List Sn} (h : OwnN w base v l) : OwnO w base v l :=
  ⟨h.nform, World.ownsRow.lt h.1, fun h0 => by
    obtain ⟨g, c, hv, _, _, hc, hf⟩ := h.rows h0
    exact ⟨g, 0, ⟨c, hv⟩, fun k hk => by rw [Nat.zero_add]; exact hc k hk, hf⟩⟩
theorem OwnO.lower {w : World} {base base' : Nat} {v : Value} {l : List Sn} (h : OwnO w base v l) (hb : base' ≤ base) : OwnO w base' v l := ⟨h.form, fun k hk => ⟨Nat.le_trans hb (h.up k hk).1, (h.up k hk).2⟩, h.rows⟩
theorem OwnO.keep {w w' : World} {base : Nat} {v : Value} {l : List Sn} (h : OwnO w base v l) (hz : w.heap.size ≤ w'.heap.size) (hk : ∀ g, v.ownBlock = some g → ∀ j, w'.cell? ⟨g, j, none⟩ = w.cell? ⟨g, j, none⟩ ∧ w'.frozen? ⟨g, j, none⟩ = w.frozen? ⟨g, j, none⟩) : OwnO w' base v l :=
  ⟨h.form, fun k hk' => ⟨(h.up k hk').1, Nat.lt_of_lt_of_le (h.up k hk').2 hz⟩, fun h0 => by
    obtain ⟨g, off, ⟨c, hv⟩, hc, hf⟩ := h.rows h0
    have hb := hk g (by rw [hv]; rfl)
    exact ⟨g, off, ⟨c, hv⟩, fun k hk => ⟨(hb _).1.trans (hc k hk).1, (hb _).1.trans (hc k hk).2⟩, fun j => (hb j).2.trans (hf j)⟩⟩
theorem OwnO.more {w w' : World} {base : Nat} {v : Value} {l : List Sn} (h : OwnO w base v l) (hb : Below w.heap.size w w') : OwnO w' base v l :=
  h.keep hb.size fun g hg j => ⟨hb.cell (p := ⟨g, j, none⟩) (h.up g hg).2, hb.frozen (p := ⟨g, j, none⟩) (h.up g hg).2⟩
theorem OwnO.grown {w w' : World} {base : Nat} {v : Value} {l : List Sn} {row : Option Nat} (h : OwnO w base v l) (hg : w.grownBy w' row) (hne : ∀ k, v.ownBlock = some k → row ≠ some k) : OwnO w' base v l :=
  h.keep hg.size fun g hv j => by
    have hb : w'.heap[g]? = w.heap[g]? := hg.block g (h.up g hv).2 (fun e => hne g hv e.symm)
    exact ⟨by simp [World.cell?, hb], by simp [World.frozen?, hb]⟩
theorem OwnO.past {w : World} {b g j : Nat} {v : Value} {l : List Sn} (h : OwnO w b v l) (hg : v.ownBlock ≠ some g) (u : Value) : OwnO (w.setCell ⟨g, j, none⟩ u) b v l :=
  h.keep (by simp) fun k hk i => by
    have hne : g ≠ k := fun e => hg (by rw [e]; exact hk)
    exact ⟨World.cell?_setCell_other _ _ _ _ (fun he => hne (congrArg Addr.block he)), by rw [World.frozen?_setCell]⟩
theorem OwnO.cellsPast {b g : Nat} {v : Value} {l : List Sn} (hg : v.ownBlock ≠ some g) : ∀ (us : List Value) (o : Nat) (W : World), OwnO W b v l → OwnO (W.setCells g o us) b v l := by
  intro us
  induction us with
  | nil => intro o W h; exact h
  | cons u r ih => intro o W h; exact ih _ _ (h.past hg u)
theorem OwnO.ats {W : World} {base : Nat} {A : Option Addr} {c n : Nat} {l : List Sn} (h : OwnO W base (.slice A n c) l) : SnsAt W W.heap.size A l := by
  rcases Nat.eq_zero_or_pos l.length with h0 | h0
  · exact .inl h0
  · obtain ⟨g, off, ⟨c', hv⟩, hc, _⟩ := h.rows h0
    have hg := (h.block hv).2
    injection hv with hA
    exact .inr ⟨g, off, hA, hg, hc⟩
/-- s[k:] of a slice of the call's own. -/
theorem OwnN.drop {w : World} {base : Nat} {A : Option Addr} {c : Nat} {l : List Sn} (h : OwnN w base (.slice A l.length c) l) (k : Nat) (hk : k ≤ l.length) : l.length ≤ c ∧ OwnO w base (.slice (if c = k then A else A.map (·.add (k * 2))) (l.drop k).length (c - k)) (l.drop k) := by
  have hcap : l.length ≤ c := by
    rcases h.1.2 with ⟨hv, hn⟩ | ⟨g, cap, cur, hv, _, _, hn, _⟩
    · rw [List.length_map] at hn; omega
    · rw [List.length_map] at hn
      injection hv with _ _ hc
      omega
  refine ⟨hcap, ⟨_, _, rfl⟩, fun g hg => ?_, fun h0 => ?_⟩
  · refine World.ownsRow.lt h.1 g ?_
    cases A with
    | none => split at hg <;> cases hg
    | some a =>
      have ha : (a.add (k * 2)).block = a.block := by unfold Addr.add; split <;> rfl
      split at hg
      · exact hg
      · rw [← hg]; exact congrArg some ha.symm
  · rw [List.length_drop] at h0
    obtain ⟨g, c', hv, _, _, hc, hf⟩ := h.rows (by omega)
    injection hv with hA _ _
    subst hA
    refine ⟨g, k * 2, ⟨c - k, by rw [if_neg (by omega)]; simp [Addr.add]; omega⟩, fun i hi => ?_, hf⟩
    rw [List.length_drop] at hi
    obtain ⟨c0, c1⟩ := hc (k + i) (by omega)
    simp only [List.getElem_drop]
    rw [← c0, ← c1]
    exact ⟨by rw [show k * 2 + i * 2 = (k + i) * 2 by omega], by rw [show k * 2 + i * 2 + 1 = (k + i) * 2 + 1 by omega]⟩

set_option maxHeartbeats 2000000 in
theorem eqSo_any (w : World) (b1 b2 : Nat) (v1 v2 : Value) (l : List Sn) (hl : l.length ≤ 2000000) (h1 : OwnO w b1 v1 l) (h2 : OwnO w b2 v2 l) :
    Calls Try.prog 31 #[v1, v2] w fun e w' => e = .returned (.bool true) ∧ Below w.heap.size w w' := by
  rcases Nat.eq_zero_or_pos l.length with h0 | h0
  · obtain ⟨A1, c1, rfl⟩ := h1.form
    obtain ⟨A2, c2, rfl⟩ := h2.form
    rw [h0]
    go_enter Try.func31, Try.ntmps31
    go_wp2
    refine wp_loop_rounds 1 ?_
    rw [rounds_succ]
    go_wp2
    go_ret
    exact ⟨rfl, Below.refl _ _⟩
  · obtain ⟨g1, o1, ⟨c1, hv1⟩, hc1, _⟩ := h1.rows h0
    have hg1 := (h1.block hv1).2
    subst hv1
    obtain ⟨g2, o2, ⟨c2, hv2⟩, hc2, _⟩ := h2.rows h0
    have hg2 := (h2.block hv2).2
    subst hv2
    have H1 := Lib.hid hc1
    have H2 := Lib.hid hc2
    have HE := Lib.hid (fun q d W => eq_snt q d W)
    clear hc1 hc2 h1 h2
    go_enter Try.func31, Try.ntmps31
    go_wp2
    go_loopg [5] l.length (fun g v5 wx => ∃ k : Nat, k ≤ l.length ∧ g = l.length - k ∧ v5 = .int .i64 (k : Int) ∧ Below w.heap.size w wx)
    case atStart => exact ⟨0, by omega, rfl, rfl, Below.refl _ _⟩
    case round =>
      obtain ⟨k, hk, rfl, rfl, hbel⟩ := hrel
      have HB := Lib.hid hbel
      by_cases hlt : k < l.length
      · have hd : decide (k < l.length) = true := by simp; omega
        obtain ⟨x0, x1⟩ := H1.out k hlt
        obtain ⟨y0, y1⟩ := H2.out k hlt
        have cx0 := (hbel.cell (p := ⟨g1, o1 + k * 2, none⟩) hg1).trans x0
        have cx1 := (hbel.cell (p := ⟨g1, o1 + k * 2 + 1, none⟩) hg1).trans x1
        have cy0 := (hbel.cell (p := ⟨g2, o2 + k * 2, none⟩) hg2).trans y0
        have cy1 := (hbel.cell (p := ⟨g2, o2 + k * 2 + 1, none⟩) hg2).trans y1
        clear x0 x1 y0 y1 hbel
        generalize l[k].1 = a at *
        generalize l[k].2 = d at *
        go_wp2
        go_region_law ((go_simp; go_at_call 40; (with_reducible refine (HE.out _ _ _).mono ?_); rintro e w2 ⟨rfl, hb2⟩))
        all_goals go_wp2
        all_goals
          go_roundg (l.length - (k + 1))
          case measure => omega
          case rel => exact ⟨k + 1, by omega, rfl, by go_num, HB.out.drew.trans (hb2.mono HB.out.drew.size)⟩
      · have hd : decide (k < l.length) = false := by simp; omega
        clear hlt
        go_wp2
        go_ret
        exact ⟨rfl, HB.out⟩
/-- Block g has N cells from off on that no string shares. -/
structure PadO (W : World) (g off N : Nat) : Prop where
  lt : g < W.heap.size
  has : ∀ j, j < N → ∃ v, W.cell? ⟨g, off + j, none⟩ = some v
  ice : ∀ j, W.frozen? ⟨g, j, none⟩ = false
theorem PadO.more {W W' : World} {g off N : Nat} (h : PadO W g off N) (hb : Below W.heap.size W W') : PadO W' g off N :=
  ⟨Nat.lt_of_lt_of_le h.lt hb.size, fun j hj => by obtain ⟨v, hv⟩ := h.has j hj; exact ⟨v, (hb.cell (p := ⟨g, off + j, none⟩) h.lt).trans hv⟩, fun j => (hb.frozen (p := ⟨g, j, none⟩) h.lt).trans (h.ice j)⟩
theorem PadO.set {W : World} {g off N : Nat} (h : PadO W g off N) (i : Nat) (u : Value) : PadO (W.setCell ⟨g, i, none⟩ u) g off N := by
  refine ⟨by simpa using h.lt, fun j hj => ?_, fun j => by rw [World.frozen?_setCell]; exact h.ice j⟩
  obtain ⟨v, hv⟩ := h.has j hj
  by_cases e : i = off + j
  · subst e
    exact ⟨u, World.cell?_setCell_same _ _ _ hv⟩
  · exact ⟨v, by rw [World.cell?_setCell_other _ _ _ _ (fun he => e (congrArg Addr.off he))]; exact hv⟩
/-- The first k commands of block g bear their marks. -/
def MkO (W : World) (g off M k : Nat) : Prop := ∀ i, i < k → W.cell? ⟨g, off + i * 2, none⟩ = some (.int .i64 ((M : Int) + 2 * (i : Int))) ∧ W.cell? ⟨g, off + i * 2 + 1, none⟩ = some (.string (markV (M + 2 * i + 1)))
theorem MkO.more {W W' : World} {g off M k n : Nat} (h : MkO W g off M k) (hb : Below n W W') (hg : g < n) : MkO W' g off M k := fun i hi =>
  ⟨(hb.cell (p := ⟨g, off + i * 2, none⟩) hg).trans (h i hi).1, (hb.cell (p := ⟨g, off + i * 2 + 1, none⟩) hg).trans (h i hi).2⟩
theorem MkO.past {W : World} {g off M k : Nat} (h : MkO W g off M k) (j : Nat) (hj : off + k * 2 ≤ j) (u : Value) : MkO (W.setCell ⟨g, j, none⟩ u) g off M k := fun i hi => by
  refine ⟨?_, ?_⟩
  · rw [World.cell?_setCell_other _ _ _ _ (fun he => by have := congrArg Addr.off he; simp at this; omega)]; exact (h i hi).1
  · rw [World.cell?_setCell_other _ _ _ _ (fun he => by have := congrArg Addr.off he; simp at this; omega)]; exact (h i hi).2
theorem MkO.succ {W : World} {g off M k : Nat} (h : MkO W g off M k) (h0 : W.cell? ⟨g, off + k * 2, none⟩ = some (.int .i64 ((M : Int) + 2 * (k : Int)))) (h1 : W.cell? ⟨g, off + k * 2 + 1, none⟩ = some (.string (markV (M + 2 * k + 1)))) : MkO W g off M (k + 1) := fun i hi => by
  rcases Nat.lt_or_ge i k with h3 | h3
  · exact h i h3
  · obtain rfl : i = k := by omega
    exact ⟨h0, h1⟩
/-- The marks of a list of commands lie there. -/
def MksO (W : World) (M : Nat) (v : Value) (n : Nat) : Prop := ∃ A c, v = .slice A n c ∧ (0 < n → ∃ g off, A = some ⟨g, off, none⟩ ∧ g < W.heap.size ∧ MkO W g off M n)
theorem MksO.more {W W' : World} {M n : Nat} {v : Value} (h : MksO W M v n) (hb : Below W.heap.size W W') : MksO W' M v n := by
  obtain ⟨A, c, h1, h2⟩ := h
  refine ⟨A, c, h1, fun h0 => ?_⟩
  obtain ⟨g, off, h3, h4, h5⟩ := h2 h0
  exact ⟨g, off, h3, Nat.lt_of_lt_of_le h4 hb.size, h5.more hb h4⟩

set_option maxHeartbeats 4000000 in
theorem markO_any (w : World) (base : Nat) (v : Value) (l : List Sn) (hl : l.length ≤ 1100000) (M : Nat) (hM1 : 1 ≤ M) (hM : M ≤ 10000000) (hown : OwnO w base v l) (hbase : base ≤ w.heap.size) :
    Calls Try.prog 32 #[v, .int .i64 (M : Int)] w fun e w' => e = .returned (.int .i64 ((M : Int) + 2 * (l.length : Int))) ∧ w.grownBy w' v.ownBlock ∧ MksO w' M v l.length := by
  rcases Nat.eq_zero_or_pos l.length with h0 | h0
  · obtain ⟨A1, c1, rfl⟩ := hown.form
    rw [h0]
    go_enter Try.func32, Try.ntmps32
    go_wp2
    refine wp_loop_rounds 1 ?_
    rw [rounds_succ]
    go_wp2
    go_ret
    exact ⟨by simp, grown_of (Below.refl _ _) _, A1, c1, rfl, fun h => absurd h (Nat.lt_irrefl 0)⟩
  · obtain ⟨g, off, ⟨c, hv⟩, hc, hf⟩ := hown.rows h0
    obtain ⟨hbg, hglt⟩ := hown.block hv
    subst hv
    have P0 := Lib.hid (show PadO w g off (2 * l.length) from ⟨hglt, fun j hj => by
      obtain ⟨a, b⟩ := hc (j / 2) (by omega)
      rcases (show off + j = off + j / 2 * 2 ∨ off + j = off + j / 2 * 2 + 1 by omega) with e | e
      · exact ⟨_, by rw [e]; exact a⟩
      · exact ⟨_, by rw [e]; exact b⟩, hf⟩)
    clear hc hf hown
    have HMT := Lib.hid (fun (n : Nat) (h1 : 0 < n) (h2 : n < 1000000000) W => mark_text n h1 h2 W)
    go_enter Try.func32, Try.ntmps32
    go_wp2
    go_loopg [1, 5] l.length (fun gh v1 v5 wx => ∃ k : Nat, k ≤ l.length ∧ gh = l.length - k ∧ v5 = .int .i64 (k : Int) ∧ v1 = .int .i64 ((M : Int) + 2 * (k : Int)) ∧ PadO wx g off (2 * l.length) ∧ MkO wx g off M k ∧ w.grownBy wx (some g) ∧ w.heap.size ≤ wx.heap.size)
    case atStart => exact ⟨0, by omega, rfl, rfl, by simp, P0.out, fun i hi => absurd hi (Nat.not_lt_zero _), grown_of (Below.refl _ _) _, Nat.le_refl _⟩
    case round =>
      obtain ⟨k, hk, rfl, rfl, rfl, hpad, hmk, hbel, hsz⟩ := hrel
      have HB := Lib.hid hbel
      by_cases hlt : k < l.length
      · have hd : decide (k < l.length) = true := by simp; omega
        obtain ⟨u0, c0⟩ := hpad.has (k * 2) (by omega)
        have i0 := hpad.ice
        have HP2 := Lib.hid (hpad.set (off + k * 2) (.int .i64 ((M : Int) + 2 * (k : Int))))
        have HM2 := Lib.hid (hmk.past (off + k * 2) (Nat.le_refl _) (.int .i64 ((M : Int) + 2 * (k : Int))))
        have hA : (wr.setCell ⟨g, off + k * 2, none⟩ (.int .i64 ((M : Int) + 2 * (k : Int)))).cell? ⟨g, off + k * 2, none⟩ = some (.int .i64 ((M : Int) + 2 * (k : Int))) := World.cell?_setCell_same _ _ _ c0
        have HA := Lib.hid hA
        have HW := Lib.hid (grown_store HB.out (j := off + k * 2) (.int .i64 ((M : Int) + 2 * (k : Int))))
        have HZ := Lib.hid (show w.heap.size ≤ (wr.setCell ⟨g, off + k * 2, none⟩ (.int .i64 ((M : Int) + 2 * (k : Int)))).heap.size by simpa using hsz)
        have HGL := Lib.hid (show g < (wr.setCell ⟨g, off + k * 2, none⟩ (.int .i64 ((M : Int) + 2 * (k : Int)))).heap.size by simpa using hpad.lt)
        have hmt := HMT.out (M + 2 * k + 1) (by omega) (by omega)
        rw [show ((M + 2 * k + 1 : Nat) : Int) = (M : Int) + 2 * (k : Int) + 1 by omega] at hmt
        have HMK := Lib.hid hmt
        obtain ⟨T, hT⟩ : ∃ T, markV (M + 2 * k + 1) = T := ⟨_, rfl⟩
        rw [hT] at HMK
        have HT := Lib.hid hT
        clear hT
        clear hbel hmk hA hmt
        go_wp2_with fail
        refine (HMK.out _).mono ?_
        rintro e w2 ⟨rfl, hb2⟩
        have P2 := HP2.out.more hb2
        have M2 := HM2.out.more hb2 HGL.out
        have A2 := Lib.hid ((hb2.cell (p := ⟨g, off + k * 2, none⟩) HGL.out).trans HA.out)
        have W2 := Lib.hid (grown_trans HW.out (grown_of hb2 (some g)))
        have Z2 := Lib.hid (Nat.le_trans HZ.out hb2.size)
        obtain ⟨u2, c2⟩ := P2.has (k * 2 + 1) (by omega)
        replace c2 : w2.cell? ⟨g, off + k * 2 + 1, none⟩ = some u2 := c2
        have i2 := P2.ice
        have PF := Lib.hid (P2.set (off + k * 2 + 1) (.string T))
        have MF := Lib.hid ((M2.past (off + k * 2 + 1) (by omega) (.string T)).succ (by rw [World.cell?_setCell_other _ _ _ _ (fun he => by have := congrArg Addr.off he; simp at this)]; exact A2.out) (by rw [HT.out]; exact World.cell?_setCell_same _ _ _ c2))
        clear P2 M2 hb2 c0 i0 hpad
        go_wp2
        go_roundg (l.length - (k + 1))
        case measure => omega
        case rel => exact ⟨k + 1, by omega, rfl, by go_num, by go_num, PF.out, MF.out, grown_store W2.out _, by have := Z2.out; simpa using this⟩
      · have hd : decide (k < l.length) = false := by simp; omega
        obtain rfl : k = l.length := by omega
        clear hlt
        go_wp2
        go_ret
        exact ⟨rfl, HB.out, _, _, rfl, fun _ => ⟨g, off, rfl, hpad.lt, hmk⟩⟩

set_option maxHeartbeats 4000000 in
theorem heldO_any (w : World) (M : Nat) (A : Option Addr) (n c : Nat) (hn : n ≤ 1100000) (hA : 0 < n → ∃ g off, A = some ⟨g, off, none⟩ ∧ g < w.heap.size ∧ MkO w g off M n) (hM1 : 1 ≤ M) (hM : M ≤ 10000000) :
    Calls Try.prog 33 #[.slice A n c, .int .i64 (M : Int)] w fun e w' => e = .returned (.int .i64 ((M : Int) + 2 * (n : Int))) ∧ Below w.heap.size w w' := by
  rcases Nat.eq_zero_or_pos n with h0 | h0
  · subst h0
    clear hA
    go_enter Try.func33, Try.ntmps33
    go_wp2
    refine wp_loop_rounds 1 ?_
    rw [rounds_succ]
    go_wp2
    go_ret
    exact ⟨by simp, Below.refl _ _⟩
  · obtain ⟨g, off, rfl, hg, hmk⟩ := hA h0
    have HM := Lib.hid hmk
    have HMT := Lib.hid (fun (n : Nat) (h1 : 0 < n) (h2 : n < 1000000000) W => mark_text n h1 h2 W)
    clear hmk hA
    go_enter Try.func33, Try.ntmps33
    go_wp2
    go_loopg [1, 5] n (fun gh v1 v5 wx => ∃ k : Nat, k ≤ n ∧ gh = n - k ∧ v5 = .int .i64 (k : Int) ∧ v1 = .int .i64 ((M : Int) + 2 * (k : Int)) ∧ Below w.heap.size w wx)
    case atStart => exact ⟨0, by omega, rfl, rfl, by simp, Below.refl _ _⟩
    case round =>
      obtain ⟨k, hk, rfl, rfl, rfl, hbel⟩ := hrel
      have HB := Lib.hid hbel
      by_cases hlt : k < n
      · have hd : decide (k < n) = true := by simp; omega
        obtain ⟨x0, x1⟩ := HM.out k hlt
        have cx0 := (hbel.cell (p := ⟨g, off + k * 2, none⟩) hg).trans x0
        have cx1 := (hbel.cell (p := ⟨g, off + k * 2 + 1, none⟩) hg).trans x1
        have hmt := HMT.out (M + 2 * k + 1) (by omega) (by omega)
        rw [show ((M + 2 * k + 1 : Nat) : Int) = (M : Int) + 2 * (k : Int) + 1 by omega] at hmt
        have HMK := Lib.hid hmt
        have hself : ((markV (M + 2 * k + 1)).toList == (markV (M + 2 * k + 1)).toList) = true := beq_self_eq_true _
        generalize markV (M + 2 * k + 1) = T at *
        have HK2 := Lib.hid (fun W (hW : Below w.heap.size w W) => (HMK.out W).mono fun e w' h => (⟨h.1, hW.trans (h.2.mono hW.size), ((hW.trans (h.2.mono hW.size)).cell (p := ⟨g, off + k * 2 + 1, none⟩) hg).trans x1⟩ : e = .returned (.string T) ∧ Below w.heap.size w w' ∧ w'.cell? ⟨g, off + k * 2 + 1, none⟩ = some (.string T)))
        clear x0 x1 hmt hbel
        go_wp2
        go_region_law ((go_simp; go_at_call 41; (with_reducible refine (HK2.out _ HB.out.drew).mono ?_); rintro e w2 ⟨rfl, hb2, d2⟩))
        all_goals go_wp2
        all_goals
          go_roundg (n - (k + 1))
          case measure => omega
          case rel => exact ⟨k + 1, by omega, rfl, by go_num, by go_num, hb2⟩
      · have hd : decide (k < n) = false := by simp; omega
        obtain rfl : k = n := by omega
        clear hlt
        go_wp2
        go_ret
        exact ⟨rfl, HB.out⟩
theorem heldO_mks (w : World) (M : Nat) (v : Value) (n : Nat) (hn : n ≤ 1100000) (h : MksO w M v n) (hM1 : 1 ≤ M) (hM : M ≤ 10000000) :
    Calls Try.prog 33 #[v, .int .i64 (M : Int)] w fun e w' => e = .returned (.int .i64 ((M : Int) + 2 * (n : Int))) ∧ Below w.heap.size w w' := by
  obtain ⟨A, c, rfl, hA⟩ := h
  exact heldO_any w M A n c hn hA hM1 hM
end Go.Proofs.Ytmmedhjmilgnbab
