/- What this text proves: the parts Draw, At, LawV, SegLaw of the proof, each under its own words. -/
import Derived.Test.YtckofkdeedbbgaaV31
import Derived.Test.YtckofkdeedbbgaaV06
import Derived.Test.YtckofkdeedbbgaaV00
import Derived.OpenVars
import Derived.ChangeVars
import Derived.Test.YtckofkdeedbbgaaV17
import Derived.Deep.LoopGhost
/- What this text proves: the drawn texts have the length that is asked for. -/
namespace Go.Proofs.Ytckofkdeedbbgaa
open Go.ChangeShapes Go.WideShapes Go.ChangeAt Go.RowKit
set_option linter.unusedVariables false

theorem OwnB.form {w : World} {base : Nat} {v : Value} {l : List UInt8} (h : OwnB w base v l) : ∃ A c, v = .slice A l.length c := by
  rcases h.2 with ⟨rfl, hn⟩ | ⟨g, cap, cur, rfl, _⟩
  · exact ⟨none, 0, by rw [hn]⟩
  · exact ⟨_, cap, rfl⟩
theorem OwnB.kept {w w' : World} {base g : Nat} {v : Value} {l : List UInt8} (h : OwnB w base v l) (hg : w.grownBy w' (some g)) (hlt : g < base) : OwnB w' base v l := by
  refine World.ownsRow.kept h hg ?_
  by_cases he : v.ownBlock = none
  · exact .inl he
  · refine .inr fun e => ?_
    have := (World.ownsRow.lt h g e).1
    omega
def lenV : Value → Nat
  | .slice _ n _ => n
  | _ => 0

def TextRes (m : Nat) (g : Nat) (w : World) (e : Ending) (w' : World) : Prop := ∃ s : ByteArray, s.size = m ∧ e = .returned (.string s) ∧ CurB w' g ∧ w.grownBy w' (some g)

set_option maxHeartbeats 1000000 in
theorem bytes_any (w : World) (g m : Nat) (hm : m ≤ 1048576) (hcur : CurB w g) :
    Calls Try.prog 76 #[.pointer (some ⟨g, 0, none⟩), .int .i64 m] w (TextRes m g w) := by
  have hlt := hcur.lt
  have Hcur := Lib.hid hcur
  clear hcur
  go_enter Try.func76, Try.ntmps76
  go_wp2
  go_loopw [5] (fun v wr => ∃ l : List UInt8, l.length ≤ m ∧ OwnB wr w.heap.size v l ∧ CurB wr g ∧ w.grownBy wr (some g)) (fun v _ => m - lenV v)
  case atStart => exact ⟨[], by simp, OwnB.empty w _ (Nat.le_refl _), Hcur.out.more ((Below.refl w.heap.size w).alloc (Nat.le_refl _) _) hlt, World.grownBy_alloc w _ _⟩
  case round =>
    obtain ⟨l, hl, hown, hcu, hgr⟩ := hrel
    obtain ⟨A, c, rfl⟩ := hown.form
    have hsz := hgr.size
    by_cases hlm : l.length < m
    · have hd : decide (l.length < m) = true := by simp; omega
      go_wp2_with fail
      refine (below_any _ g 256 (by decide) hcu).mono ?_
      rintro e w2 ⟨x, hx0, hx1, _, rfl, hc2, hg2⟩
      have hx2 := hx1 (by decide)
      have hown2 := hown.kept hg2 hlt
      clear hown
      generalize hv : Value.slice A l.length c = v at hown2 ⊢
      clear hv
      have hsz2 : w.heap.size ≤ w2.heap.size := Nat.le_trans hsz hg2.size
      go_wp2_with (at_builtin; refine app_bytes w2 rfl _ _ rfl w.heap.size v l [UInt8.ofNat x.toNat] rfl hown2 _ _ 1 1 rfl rfl ?c1 ?c2 hsz2 ?_)
      case c1 => simp [cellB, UInt8.toNat_ofNat']; omega
      case c2 => simp; omega
      intro v' w' hown' hbel' hsz'
      obtain ⟨A', c', rfl⟩ := hown'.form
      go_wp2
      refine ⟨⟨_, by simp; omega, hown', hc2.more hbel' hlt, grown_then_below (grown_trans hgr hg2) hbel' (Nat.le_refl _)⟩, by simp [lenV]; omega⟩
    · have hd : decide (l.length < m) = false := by simp; omega
      have hcv := conv_bytes wr _ _ _ hown
      have hlm2 := Lib.hid (show l.length = m by omega)
      clear hlm
      go_wp2
      go_ret
      exact ⟨⟨l.toArray⟩, by show l.toArray.size = m; simpa using hlm2.out, rfl, hcu, hgr⟩

def DrawnRes (m : Nat) (w : World) (e : Ending) (w' : World) : Prop := ∃ s : ByteArray, s.size ≤ m ∧ e = .returned (.string s) ∧ Below w.heap.size w w'
end Go.Proofs.Ytckofkdeedbbgaa
/- What this text proves: the laws' own reading of one byte returns a number from 0 to 255, whatever the place. -/
namespace Go.Proofs.Ytckofkdeedbbgaa
open Go.ChangeShapes Go.WideShapes Go.ChangeAt Go.RowKit
set_option linter.unusedVariables false

set_option maxHeartbeats 400000 in
theorem at_any (B : Nat) (A : Option Addr) (n c : Nat) (hn : n ≤ 1048576) (i : Nat) (hi : i ≤ 1000000) (w : World) (hc : CodeOk w B A n) :
    Calls Try.prog 14 #[.slice A n c, .int .i64 i] w (Small w) := by
  by_cases h0 : n = 0
  · subst h0
    go_enter Try.func14, Try.ntmps14
    go_wp2
    go_ret
    exact ⟨0, by omega, rfl, rfl⟩
  · rcases hc with hc | ⟨b, off, rfl, hlt, hcell⟩
    · exact absurd hc h0
    · have hd : ((n : Int) == 0) = false := by simp; omega
      have hd2 : 0 < n := by omega
      obtain ⟨x, hx, hxc⟩ := hcell ((i * 5 + 1) % n) (Nat.mod_lt _ hd2)
      have hlt2 : (i * 5 + 1) % n < n := Nat.mod_lt _ hd2
      have hm0 : (0 : Int) ≤ ((i : Int) * 5 + 1) % (n : Int) := Int.emod_nonneg _ (by omega)
      have hm1 : ((i : Int) * 5 + 1) % (n : Int) < (n : Int) := Int.emod_lt_of_pos _ (by omega)
      clear hcell h0
      go_enter Try.func14, Try.ntmps14
      go_wp2
      go_ret
      exact ⟨x, hx, rfl, rfl⟩
end Go.Proofs.Ytckofkdeedbbgaa
/- What this text proves: a step of every row that names a variable of the program's own: a law that returned true, and that wrote into nothing that was there before the call, left each argument and the variable as it was. -/
namespace Go.Proofs.Ytckofkdeedbbgaa
open Go.ChangeShapes Go.WideShapes Go.ChangeAt Go.RowKit

theorem calm_post_v {H : Type} {enc : TypeId × Value → H} {P : Program} {f : Func} {s : ChangeSpec} {apart fresh handsOn : Bool} {W W' : World} {args : Array Value} {v : Value}
    {ds gs : List (DataW H)} {p q : List MemPlace} (hV : DataW.TrodVars enc P W (fun _ => true) s.vars gs q) (whole : DataW.Whole enc P f.params.toList s.vars apart W args.toList ds gs (p ++ q)) (hl : laidOutB P = true) (hr : varsRowed P s.vars = true) (calm : Below W.heap.size W W')
    (told : ∀ b sp hd, DataW.TrodAll enc P W' b sp hd f.resultTypes.toList (v.resultList f.resultTypes.size) (s.fn H (ds ++ gs)).results [])
    (kept : ∀ sp : Nat → Bool, (∀ x ∈ p, sp x.block = true) → DataW.TrodAll enc P W' 0 sp true f.params.toList args.toList (s.fn H (ds ++ gs)).args p)
    (same : (s.fn H (ds ++ gs)).vars = gs) :
    s.post enc P f apart fresh handsOn false W args v W' :=
  ⟨ds, gs, p ++ q, [], p, q, whole, told _ _ _, kept _ (fun x hx => decide_eq_true (whole.lt x (List.mem_append_left _ hx))), by rw [same]; exact Below.trodVars hl calm hr hV,
    World.keptBut_mono (fun _ hx => ⟨hx, .inr (List.mem_append.1 hx)⟩) (calm.frame (· ∈ p ++ q)), fun h => nomatch h⟩
end Go.Proofs.Ytckofkdeedbbgaa
/- What this text proves: the law that segments, ends and lists of missing segments can be read from their bytes returns true for every bytes that it draws from. -/
namespace Go.Proofs.Ytckofkdeedbbgaa
open Go.ChangeShapes Go.WideShapes Go.ChangeAt Go.RowKit
set_option linter.unusedVariables false


def PickRes (n : Nat) (f : Nat → Int) (g : Nat) (w : World) (e : Ending) (w' : World) : Prop := ∃ j, j < n ∧ e = .returned (.int .i64 (f j)) ∧ CurB w' g ∧ w.grownBy w' (some g)
set_option maxHeartbeats 1000000 in
theorem pick_at (w : World) (g b n c : Nat) (f : Nat → Int) (hf : ∀ j, -9223372036854775808 ≤ f j ∧ f j ≤ 9223372036854775807) (hn0 : 0 < n) (hn : n ≤ 1000) (hb : b < w.heap.size) (hbg : b ≠ g)
    (hcell : ∀ j, j < n → w.cell? ⟨b, j, none⟩ = some (.int .i64 (f j))) (hcur : CurB w g) :
    Calls Try.prog 77 #[.pointer (some ⟨g, 0, none⟩), .slice (some ⟨b, 0, none⟩) n c] w (PickRes n f g w) := by
  have Hf := Lib.hid hf
  have Hc := Lib.hid hcell
  clear hf hcell
  go_enter Try.func77, Try.ntmps77
  go_wp2_with fail
  refine (below_any _ g n (by omega) hcur).mono ?_
  rintro e w1 ⟨x, hx0, hx1, hx2, rfl, hc1, hg1⟩
  have hx3 := hx1 (by omega)
  clear hx1 hx2
  obtain ⟨j, rfl⟩ := Int.eq_ofNat_of_zero_le hx0
  have hj : j < n := by omega
  have cj : w1.cell? ⟨b, j, none⟩ = some (.int .i64 (f j)) := hg1.cell (Hc.out j hj) (fun e => by injection e with e; exact hbg e)
  go_wp2
  go_ret
  exact ⟨j, hj, rfl, hc1, hg1⟩
def fileNs : List Int := [0, 1, 24, 60, 120, 200]
theorem fileNs_ok (j : Nat) : 0 ≤ fileNs.getD j 0 ∧ fileNs.getD j 0 ≤ 200 := by
  match j with
  | 0 => decide
  | 1 => decide
  | 2 => decide
  | 3 => decide
  | 4 => decide
  | 5 => decide
  | j + 6 => exact ⟨by simp [fileNs], by simp [fileNs]⟩
set_option maxRecDepth 20000 in
set_option maxHeartbeats 2000000 in
theorem draw_file (A : Option Addr) (n c : Nat) (hn : n ≤ 1048576) (w : World) (hc : CodeOk w w.heap.size A n) :
    Calls Try.prog 24 #[.slice A n c] w (DrawnRes 200 w) := by
  have Hn := Lib.hid (new_any A n c hn w hc)
  clear hc
  go_enter Try.func24, Try.ntmps24
  go_wp2_with fail
  refine Hn.out.mono ?_
  rintro e w1 ⟨rfl, hc1, hb1⟩
  have HB := Lib.hid hb1
  have hlt := hc1.lt
  have hb2 : Below w1.heap.size w1 (w1.alloc (.cells #[.int .i64 0, .int .i64 1, .int .i64 24, .int .i64 60, .int .i64 120, .int .i64 200] 3)) := (Below.refl _ _).alloc (Nat.le_refl _) _
  have HB2 := Lib.hid (HB.out.trans (hb2.mono HB.out.size))
  have HP := Lib.hid (pick_at (w1.alloc (.cells #[.int .i64 0, .int .i64 1, .int .i64 24, .int .i64 60, .int .i64 120, .int .i64 200] 3)) w.heap.size w1.heap.size 6 6 (fun j => fileNs.getD j 0) (fun j => by have := fileNs_ok j; omega) (by decide) (by decide) (by simp) (by have := hlt; omega) (fun j hj => by
    rw [World.cell?_alloc_at _ _ _ _ rfl]
    match j, hj with
    | 0, _ => rfl
    | 1, _ => rfl
    | 2, _ => rfl
    | 3, _ => rfl
    | 4, _ => rfl
    | 5, _ => rfl) (hc1.more hb2 hlt))
  clear hb1 hb2 hlt hc1
  go_wp2_with fail
  refine HP.out.mono ?_
  rintro e w2 ⟨j, hj, he, hc2, hg2⟩
  have hr := fileNs_ok j
  obtain ⟨m, hm⟩ := Int.eq_ofNat_of_zero_le hr.1
  replace he : e = .returned (.int .i64 (m : Int)) := by rw [he]; exact congrArg (fun x => Ending.returned (.int .i64 x)) hm
  subst he
  rw [hm] at hr
  clear hm
  go_wp2_with fail
  refine (bytes_any _ _ m (by omega) hc2).mono ?_
  rintro e w3 ⟨s, hs, rfl, hc3, hg3⟩
  go_wp2
  go_ret
  exact ⟨s, by omega, rfl, below_of_new HB2.out (grown_trans hg2 hg3) (Nat.le_refl _)⟩

theorem own_two (W : World) (y0 y1 : Int) : OwnIn (W.alloc (.cells #[.int .i64 y0, .int .i64 y1] 3)) 0 (.slice (some ⟨W.heap.size, 0, none⟩) 2 2) [y0, y1] := by
  refine ⟨⟨_, 2, rfl⟩, fun k hk => ?_, in_len _, fun _ => ⟨W.heap.size, 0, ⟨2, rfl⟩, fun k hk j hj => ?_, fun j => World.frozen?_alloc_at _ _ _ j rfl⟩, fun A m c e => ?_⟩
  · have h1 : (some W.heap.size : Option Nat) = some k := hk
    injection h1 with h1
    exact ⟨Nat.zero_le _, by rw [← h1]; simp⟩
  · obtain rfl : j = 0 := by omega
    rw [World.cell?_alloc_at _ _ _ _ rfl]
    match k, hk with
    | 0, _ => rfl
    | 1, _ => rfl
  · injection e with _ h1 h2
    omega
end Go.Proofs.Ytckofkdeedbbgaa
