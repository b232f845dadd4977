/- What this text proves: the drawn texts have the length that is asked for. -/
import Derived.Test.YtjcdekonidekcadNew
import Derived.Test.YtjcdekonidekcadBuf
namespace Go.Proofs.Ytjcdekonidekcad
open Go.ChangeShapes Go.WideShapes Go.ChangeAt Go.RowKit
set_option linter.unusedVariables false

theorem OwnB.form {w : World} {base : Nat} {v : Value} {l : List UInt8} (h : OwnB w base v l) : ∃ A c, v = .slice A l.length c := by
  rcases h.2 with ⟨rfl, hn⟩ | ⟨g, cap, cur, rfl, _⟩
  · exact ⟨none, 0, by rw [hn]⟩
  · exact ⟨_, cap, rfl⟩
theorem OwnB.kept {w w' : World} {base g : Nat} {v : Value} {l : List UInt8} (h : OwnB w base v l) (hg : w.grownBy w' (some g)) (hlt : g < base) : OwnB w' base v l := by
  refine World.ownsRow.kept h hg ?_
  by_cases he : v.ownBlock = none
  · exact .inl he
  · refine .inr fun e => ?_
    have := (World.ownsRow.lt h g e).1
    omega
def lenV : Value → Nat
  | .slice _ n _ => n
  | _ => 0

def TextRes (m : Nat) (g : Nat) (w : World) (e : Ending) (w' : World) : Prop := ∃ s : ByteArray, s.size = m ∧ e = .returned (.string s) ∧ CurB w' g ∧ w.grownBy w' (some g)

set_option maxHeartbeats 1000000 in
theorem bytes_any (w : World) (g m : Nat) (hm : m ≤ 1048576) (hcur : CurB w g) :
    Calls Try.prog 32 #[.pointer (some ⟨g, 0, none⟩), .int .i64 m] w (TextRes m g w) := by
  have hlt := hcur.lt
  have Hcur := Lib.hid hcur
  clear hcur
  go_enter Try.func32, Try.ntmps32
  go_wp2
  go_loopw [5] (fun v wr => ∃ l : List UInt8, l.length ≤ m ∧ OwnB wr w.heap.size v l ∧ CurB wr g ∧ w.grownBy wr (some g)) (fun v _ => m - lenV v)
  case atStart => exact ⟨[], by simp, OwnB.empty w _ (Nat.le_refl _), Hcur.out.more ((Below.refl w.heap.size w).alloc (Nat.le_refl _) _) hlt, World.grownBy_alloc w _ _⟩
  case round =>
    obtain ⟨l, hl, hown, hcu, hgr⟩ := hrel
    obtain ⟨A, c, rfl⟩ := hown.form
    have hsz := hgr.size
    by_cases hlm : l.length < m
    · have hd : decide (l.length < m) = true := by simp; omega
      go_wp2_with fail
      refine (below_any _ g 256 (by decide) hcu).mono ?_
      rintro e w2 ⟨x, hx0, hx1, _, rfl, hc2, hg2⟩
      have hx2 := hx1 (by decide)
      have hown2 := hown.kept hg2 hlt
      clear hown
      generalize hv : Value.slice A l.length c = v at hown2 ⊢
      clear hv
      have hsz2 : w.heap.size ≤ w2.heap.size := Nat.le_trans hsz hg2.size
      go_wp2_with (at_builtin; refine app_bytes w2 rfl _ _ rfl w.heap.size v l [UInt8.ofNat x.toNat] rfl hown2 _ _ 1 1 rfl rfl ?c1 ?c2 hsz2 ?_)
      case c1 => simp [cellB, UInt8.toNat_ofNat']; omega
      case c2 => simp; omega
      intro v' w' hown' hbel' hsz'
      obtain ⟨A', c', rfl⟩ := hown'.form
      go_wp2
      refine ⟨⟨_, by simp; omega, hown', hc2.more hbel' hlt, grown_then_below (grown_trans hgr hg2) hbel' (Nat.le_refl _)⟩, by simp [lenV]; omega⟩
    · have hd : decide (l.length < m) = false := by simp; omega
      have hcv := conv_bytes wr _ _ _ hown
      have hlm2 := Lib.hid (show l.length = m by omega)
      clear hlm
      go_wp2
      go_ret
      exact ⟨⟨l.toArray⟩, by show l.toArray.size = m; simpa using hlm2.out, rfl, hcu, hgr⟩

def DrawnRes (m : Nat) (w : World) (e : Ending) (w' : World) : Prop := ∃ s : ByteArray, s.size ≤ m ∧ e = .returned (.string s) ∧ Below w.heap.size w w'
end Go.Proofs.Ytjcdekonidekcad
