/- What this text proves: plain facts on a stream of blocks that follow one another: each is found, and read. -/
import Derived.Test.YtdponcannphboabDoorBlk
import Derived.Test.YtdponcannphboabDoorMade
namespace Go.Proofs.YtdponcannphboabDoor
open Go.ChangeShapes Go.WideShapes Go.ChangeAt Go.RowKit
set_option linter.unusedVariables false

/-- A piece of a text, and the stream of the first pieces' blocks. -/
def pieceT (s : ByteArray) (n j : Nat) : ByteArray := s.extract (j * n) (j * n + n)
def piecesL (s : ByteArray) (n j : Nat) : List ByteArray := (List.range j).map (pieceT s n)
def streamT (s : ByteArray) (n j : Nat) : ByteArray := Nat.rec (motive := fun _ => ByteArray) ⟨#[]⟩ (fun i r => r ++ makeT (pieceT s n i)) j
theorem streamT_zero (s : ByteArray) (n : Nat) : streamT s n 0 = ⟨#[]⟩ := rfl
theorem streamT_succ (s : ByteArray) (n j : Nat) : streamT s n (j + 1) = streamT s n j ++ makeT (pieceT s n j) := rfl
theorem piecesL_succ (s : ByteArray) (n j : Nat) : piecesL s n (j + 1) = piecesL s n j ++ [pieceT s n j] := by
  unfold piecesL
  rw [List.range_succ, List.map_append]
  rfl
theorem piecesL_len (s : ByteArray) (n j : Nat) : (piecesL s n j).length = j := by simp [piecesL]
theorem mul_le_of {s n j c : Nat} (hc : c * n ≤ s) (hj : j < c) : j * n + n ≤ s := by
  have h := Nat.mul_le_mul_right n (show j + 1 ≤ c by omega)
  rw [Nat.succ_mul] at h
  omega
theorem pieceT_size (s : ByteArray) (n j c : Nat) (hc : c * n ≤ s.size) (hj : j < c) : (pieceT s n j).size = n := by
  have h := mul_le_of hc hj
  unfold pieceT
  rw [ByteArray.size_extract]
  omega
theorem streamT_size (s : ByteArray) (n c : Nat) (h0 : 1 ≤ n) (hn : n ≤ 200) (hc : c * n ≤ s.size) : ∀ j, j ≤ c → (streamT s n j).size = j * (4 + 2 * n) := by
  intro j
  induction j with
  | zero => intro _; simp [streamT_zero]; rfl
  | succ j ih =>
    intro hj
    have hz := pieceT_size s n j c hc (by omega)
    rw [streamT_succ, ByteArray.size_append, ih (by omega), makeT_size _ (by omega) (by omega), hz]
    exact (Nat.succ_mul j (4 + 2 * n)).symm
theorem streamT_parts (s : ByteArray) (n j : Nat) : ∀ d, ∃ rest, (streamT s n (j + 1 + d)).data.toList = (streamT s n j).data.toList ++ (makeT (pieceT s n j)).data.toList ++ rest := by
  intro d
  induction d with
  | zero => exact ⟨[], by rw [Nat.add_zero, streamT_succ, ByteArray.data_append, Array.toList_append, List.append_nil]⟩
  | succ d ih =>
    obtain ⟨rest, h⟩ := ih
    refine ⟨rest ++ (makeT (pieceT s n (j + 1 + d))).data.toList, ?_⟩
    rw [show j + 1 + (d + 1) = (j + 1 + d) + 1 by omega, streamT_succ, ByteArray.data_append, Array.toList_append, h, List.append_assoc]
theorem ext_mid (t : ByteArray) (pre mid post : List UInt8) (h : t.data.toList = pre ++ mid ++ post) (a b : Nat) (ha : a = pre.length) (hb : b = pre.length + mid.length) : t.extract a b = ⟨mid.toArray⟩ := by
  subst ha
  subst hb
  apply ByteArray.ext
  apply Array.toList_inj.1
  rw [ByteArray.data_extract, Array.toList_extract, List.extract_eq_take_drop, h]
  simp
theorem stream_at (s : ByteArray) (n c : Nat) (h0 : 1 ≤ n) (hn : n ≤ 200) (hc : c * n ≤ s.size) (j : Nat) (hj : j < c) :
    (streamT s n c).extract (j * (4 + 2 * n)) (j * (4 + 2 * n) + 4) = markT ∧ (streamT s n c).extract (j * (4 + 2 * n) + 4) (j * (4 + 2 * n) + 4 + 2 * n) = bodyT (pieceT s n j) := by
  obtain ⟨d, rfl⟩ : ∃ d, c = j + 1 + d := ⟨c - (j + 1), by omega⟩
  obtain ⟨rest, h⟩ := streamT_parts s n j d
  have hz := pieceT_size s n j _ hc hj
  have hsz := streamT_size s n _ h0 hn hc j (by omega)
  have hm : makeT (pieceT s n j) = markT ++ bodyT (pieceT s n j) := by unfold makeT; rw [if_neg (by omega)]
  have hbz : (bodyT (pieceT s n j)).data.toList.length = 2 * n := by
    have := bodyT_size (pieceT s n j)
    rw [hz] at this
    simpa using this
  have hlen : (streamT s n j).data.toList.length = j * (4 + 2 * n) := by simpa using hsz
  rw [hm, ByteArray.data_append, Array.toList_append] at h
  constructor
  · exact ext_mid _ (streamT s n j).data.toList markT.data.toList ((bodyT (pieceT s n j)).data.toList ++ rest) (by rw [h]; simp only [List.append_assoc]) _ _ hlen.symm (by rw [hlen]; rfl)
  · have e := ext_mid (streamT s n (j + 1 + d)) ((streamT s n j).data.toList ++ markT.data.toList) (bodyT (pieceT s n j)).data.toList rest (by rw [h]; simp only [List.append_assoc]) (j * (4 + 2 * n) + 4) (j * (4 + 2 * n) + 4 + 2 * n) (by rw [List.length_append, hlen]; rfl) (by rw [List.length_append, hlen, hbz]; rfl)
    rw [e]
theorem find_stream (s : ByteArray) (n c : Nat) (h0 : 1 ≤ n) (hn : n ≤ 200) (hc : c * n ≤ s.size) : ∀ d f j, j + d = c → d ≤ f → findF (streamT s n c) n f (j * (4 + 2 * n)) = (List.range d).map fun i => (((j + i) * (4 + 2 * n) + 4 : Nat) : Int) := by
  have hsz := streamT_size s n c h0 hn hc c (Nat.le_refl _)
  intro d
  induction d with
  | zero =>
    intro f j hj _
    rw [findF_end _ _ _ _ (by rw [hsz, show j = c by omega]; omega)]
    rfl
  | succ d ih =>
    intro f j hj hf
    obtain ⟨f, rfl⟩ : ∃ g, f = g + 1 := ⟨f - 1, by omega⟩
    have hle := Nat.mul_le_mul_right (4 + 2 * n) (show j + 1 ≤ c by omega)
    rw [Nat.succ_mul j (4 + 2 * n)] at hle
    rw [findF_hit _ n f _ (by rw [hsz]; omega) (stream_at s n c h0 hn hc j (by omega)).1]
    rw [show j * (4 + 2 * n) + 4 + 2 * n = (j + 1) * (4 + 2 * n) by rw [Nat.succ_mul j (4 + 2 * n)]; omega, ih f (j + 1) (by omega) (by omega), List.range_succ_eq_map, List.map_cons, List.map_map]
    congr 1
    refine List.map_congr_left fun i _ => ?_
    show _ = (((j + (i + 1)) * (4 + 2 * n) + 4 : Nat) : Int)
    rw [show j + 1 + i = j + (i + 1) by omega]
theorem findV_stream (s : ByteArray) (n c : Nat) (h0 : 1 ≤ n) (hn : n ≤ 200) (hc : c * n ≤ s.size) (hs : c * (4 + 2 * n) ≤ 20000) : findV (streamT s n c) (n : Int) = (List.range c).map fun i => ((i * (4 + 2 * n) + 4 : Nat) : Int) := by
  have hsz := streamT_size s n c h0 hn hc c (Nat.le_refl _)
  have hcb : c ≤ c * (4 + 2 * n) := Nat.le_mul_of_pos_right c (by omega)
  rw [findV_in ⟨by omega, by rw [hsz]; exact hs⟩]
  have h := find_stream s n c h0 hn hc c ((streamT s n c).size + 1) 0 (by omega) (by rw [hsz]; omega)
  rw [Nat.zero_mul] at h
  rw [h]
  refine List.map_congr_left fun i _ => ?_
  rw [Nat.zero_add]
theorem read_stream (s : ByteArray) (n c : Nat) (h0 : 1 ≤ n) (hn : n ≤ 200) (hc : c * n ≤ s.size) (i : Nat) (hi : i < c) : readAt (streamT s n c) (n : Int) ((i * (4 + 2 * n) + 4 : Nat) : Int) = (pieceT s n i, 0, true) := by
  unfold readAt
  rw [show (((i * (4 + 2 * n) + 4 : Nat) : Int)).toNat = i * (4 + 2 * n) + 4 from rfl, show ((n : Int)).toNat = n from rfl, (stream_at s n c h0 hn hc i hi).2]
  have hz := pieceT_size s n i c hc hi
  exact readV_body _ (by omega) (by omega)
theorem texts_stream (s : ByteArray) (n c : Nat) (h0 : 1 ≤ n) (hn : n ≤ 200) (hc : c * n ≤ s.size) : ∀ d, d ≤ c → textsF (streamT s n c) (n : Int) ((List.range d).map fun i => ((i * (4 + 2 * n) + 4 : Nat) : Int)) = piecesL s n d ∧ badF (streamT s n c) (n : Int) ((List.range d).map fun i => ((i * (4 + 2 * n) + 4 : Nat) : Int)) = 0 := by
  intro d
  induction d with
  | zero => intro _; exact ⟨rfl, rfl⟩
  | succ d ih =>
    intro hd
    have hr := read_stream s n c h0 hn hc d (by omega)
    obtain ⟨i1, i2⟩ := ih (by omega)
    rw [List.range_succ, List.map_append, List.map_cons, List.map_nil]
    obtain ⟨e1, e2⟩ := textsF_yes (streamT s n c) (n : Int) ((List.range d).map fun i => ((i * (4 + 2 * n) + 4 : Nat) : Int)) ((d * (4 + 2 * n) + 4 : Nat) : Int) (by rw [hr])
    rw [e1, e2, i1, i2, hr, piecesL_succ]
    exact ⟨rfl, rfl⟩
end Go.Proofs.YtdponcannphboabDoor
