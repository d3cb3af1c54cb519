/- Layer 4's reference: panes written. -/
import Derived.Test.YtponelbfddfliaaRefS
namespace Go.Proofs.Ytponelbfddfliaa
open Go.ChangeShapes Go.WideShapes Go.ChangeAt Go.RowKit

theorem parts_lit (w : World) (t : TypeId) (l : List PT) (n : Nat) (cs : Array Value) (hcs : cs = (pcells l).toArray) (hl : ∀ p ∈ l, p.ok) (hn : l.length = n) : Parts (w.alloc (.cells cs t)) (w.heap.size + 1) (some ⟨w.heap.size, 0, none⟩) n l :=
  ⟨hn, hl, fun _ => ⟨w.heap.size, 0, rfl, by omega, fun i hi => by
    obtain ⟨h1, h2, h3⟩ := pcells_at l i (by omega)
    subst hcs
    rw [(Blk.new w t _).cell, (Blk.new w t _).cell, (Blk.new w t _).cell]
    simp only [Nat.zero_add]
    exact ⟨by simpa using h1, by simpa using h2, by simpa using h3⟩⟩⟩
def paneV (k : ByteArray) (s e : Int) : Value := .agg #[.string k, .int .i64 s, .int .i64 e]
def primL (k : ByteArray) (s e : Int) : List PT := [⟨2, 0, k⟩, ⟨1, e, ⟨#[]⟩⟩, ⟨1, s, ⟨#[]⟩⟩]
def secL (k : ByteArray) (s e : Int) : List PT := [⟨1, e, ⟨#[]⟩⟩, ⟨2, 0, k⟩, ⟨1, s, ⟨#[]⟩⟩]
theorem prim_ok (k : ByteArray) (s e : Int) (hk : k.size ≤ 1000000) (hs : -9223372036854775808 ≤ s ∧ s ≤ 9223372036854775807) (he : -9223372036854775808 ≤ e ∧ e ≤ 9223372036854775807) : (∀ p ∈ primL k s e, p.ok) ∧ (∀ p ∈ secL k s e, p.ok) := by
  have h1 : (PT.mk 2 0 k).ok := ⟨by show (2 : Nat) < 256; decide, by show _ ≤ (0 : Int) ∧ (0 : Int) ≤ _; omega, hk⟩
  have h2 : (PT.mk 1 e ⟨#[]⟩).ok := ⟨by show (1 : Nat) < 256; decide, he, by show (0 : Nat) ≤ _; omega⟩
  have h3 : (PT.mk 1 s ⟨#[]⟩).ok := ⟨by show (1 : Nat) < 256; decide, hs, by show (0 : Nat) ≤ _; omega⟩
  constructor
  · intro p hp
    simp [primL] at hp
    rcases hp with rfl | rfl | rfl <;> assumption
  · intro p hp
    simp [secL] at hp
    rcases hp with rfl | rfl | rfl <;> assumption
set_option maxRecDepth 100000 in
set_option maxHeartbeats 2000000 in
theorem refPrimary_any (k : ByteArray) (s e : Int) (w : World) (hk : k.size ≤ 1000000) (hs : -9223372036854775808 ≤ s ∧ s ≤ 9223372036854775807) (he : -9223372036854775808 ≤ e ∧ e ≤ 9223372036854775807) :
    Calls Try.prog 55 #[paneV k s e] w (TextP w (Ky.put (tos (primL k s e)))) := by
  have HOK := Lib.hid (prim_ok k s e hk hs he).1
  clear hs he hk
  unfold paneV
  obtain ⟨w0, hw0⟩ : ∃ w0, w.alloc (.cells #[.string k, .int .i64 s, .int .i64 e] 34) = w0 := ⟨_, rfl⟩
  have hbk := Blk.new w 34 #[.string k, .int .i64 s, .int .i64 e]
  have hbe : Below w.heap.size w (w.alloc (.cells #[.string k, .int .i64 s, .int .i64 e] 34)) := (Below.refl _ _).alloc (Nat.le_refl _) _
  have hz : (w.alloc (.cells #[.string k, .int .i64 s, .int .i64 e] 34)).heap.size = w.heap.size + 1 := by simp
  rw [hw0] at hbk hbe hz
  have HC : Hid (∀ W, Below w0.heap.size w0 W → W.cell? ⟨w.heap.size, 0, none⟩ = some (.string k) ∧ W.cell? ⟨w.heap.size, 1, none⟩ = some (.int .i64 s) ∧ W.cell? ⟨w.heap.size, 2, none⟩ = some (.int .i64 e)) := Lib.hid fun W hW => by
    have hb := hbk.below hW (by omega)
    exact ⟨hb.cell 0, hb.cell 1, hb.cell 2⟩
  have HBE := Lib.hid hbe
  have D0 : Below w0.heap.size w0 w0.drew := (Below.refl _ _).drew
  clear hbk hbe hz
  go_enter Try.func55, Try.ntmps55
  go_wp2_with fail
  clear hw0
  go_region_held3 (fun W => W.cell? ⟨w.heap.size, 0, none⟩ = some (.string k) ∧ W.cell? ⟨w.heap.size, 1, none⟩ = some (.int .i64 s) ∧ W.cell? ⟨w.heap.size, 2, none⟩ = some (.int .i64 e)) (first | exact HC.out _ D0 | exact HC.out _ D1 | exact HC.out _ D2 | exact HC.out _ D3 | exact HC.out _ (D3.alloc D3.size _) | exact HC.out _ D4) (first
    | (go_at_call 50; (refine (refPut_any 3 3 _ _ (primL k s e) _ ((parts_lit _ _ (primL k s e) 3 _ (by rfl) HOK.out rfl).more (Nat.le_refl _)) (by simp) (by omega)).mono ?_); rintro x w4 ⟨U, rfl, hU, hUs, b4⟩; have D4 := (D3.alloc D3.size _).trans (b4.mono (by have := D3.size; simp; omega)); clear D3 b4)
    | (go_at_call 39; have _ := D2; (refine (refIntP_any s _).mono ?_); rintro x w3 ⟨rfl, b3⟩; simp only [partV]; have D3 := below_next D2 b3; clear D2 b3)
    | (go_at_call 39; have _ := D1; (refine (refIntP_any e _).mono ?_); rintro x w2 ⟨rfl, b2⟩; simp only [partV]; have D2 := below_next D1 b2; clear D1 b2)
    | (go_at_call 38; (refine (refTextP_any k _).mono ?_); rintro x w1 ⟨rfl, b1⟩; simp only [partV]; have D1 := below_next D0 b1; clear D0 b1))
  go_wp2_with fail
  go_ret
  exact ⟨U, rfl, hU, hUs, HBE.out.trans (D4.mono HBE.out.size)⟩
set_option maxRecDepth 100000 in
set_option maxHeartbeats 2000000 in
theorem refSecondary_any (k : ByteArray) (s e : Int) (w : World) (hk : k.size ≤ 1000000) (hs : -9223372036854775808 ≤ s ∧ s ≤ 9223372036854775807) (he : -9223372036854775808 ≤ e ∧ e ≤ 9223372036854775807) :
    Calls Try.prog 54 #[paneV k s e] w (TextP w (Ky.put (tos (secL k s e)))) := by
  have HOK := Lib.hid (prim_ok k s e hk hs he).2
  clear hs he hk
  unfold paneV
  obtain ⟨w0, hw0⟩ : ∃ w0, w.alloc (.cells #[.string k, .int .i64 s, .int .i64 e] 34) = w0 := ⟨_, rfl⟩
  have hbk := Blk.new w 34 #[.string k, .int .i64 s, .int .i64 e]
  have hbe : Below w.heap.size w (w.alloc (.cells #[.string k, .int .i64 s, .int .i64 e] 34)) := (Below.refl _ _).alloc (Nat.le_refl _) _
  have hz : (w.alloc (.cells #[.string k, .int .i64 s, .int .i64 e] 34)).heap.size = w.heap.size + 1 := by simp
  rw [hw0] at hbk hbe hz
  have HC : Hid (∀ W, Below w0.heap.size w0 W → W.cell? ⟨w.heap.size, 0, none⟩ = some (.string k) ∧ W.cell? ⟨w.heap.size, 1, none⟩ = some (.int .i64 s) ∧ W.cell? ⟨w.heap.size, 2, none⟩ = some (.int .i64 e)) := Lib.hid fun W hW => by
    have hb := hbk.below hW (by omega)
    exact ⟨hb.cell 0, hb.cell 1, hb.cell 2⟩
  have HBE := Lib.hid hbe
  have D0 : Below w0.heap.size w0 w0.drew := (Below.refl _ _).drew
  clear hbk hbe hz
  go_enter Try.func54, Try.ntmps54
  go_wp2_with fail
  clear hw0
  go_region_held3 (fun W => W.cell? ⟨w.heap.size, 0, none⟩ = some (.string k) ∧ W.cell? ⟨w.heap.size, 1, none⟩ = some (.int .i64 s) ∧ W.cell? ⟨w.heap.size, 2, none⟩ = some (.int .i64 e)) (first | exact HC.out _ D0 | exact HC.out _ D1 | exact HC.out _ D2 | exact HC.out _ D3 | exact HC.out _ (D3.alloc D3.size _) | exact HC.out _ D4) (first
    | (go_at_call 50; (refine (refPut_any 3 3 _ _ (secL k s e) _ ((parts_lit _ _ (secL k s e) 3 _ (by rfl) HOK.out rfl).more (Nat.le_refl _)) (by simp) (by omega)).mono ?_); rintro x w4 ⟨U, rfl, hU, hUs, b4⟩; have D4 := (D3.alloc D3.size _).trans (b4.mono (by have := D3.size; simp; omega)); clear D3 b4)
    | (go_at_call 39; have _ := D2; (refine (refIntP_any s _).mono ?_); rintro x w3 ⟨rfl, b3⟩; simp only [partV]; have D3 := below_next D2 b3; clear D2 b3)
    | (go_at_call 38; have _ := D1; (refine (refTextP_any k _).mono ?_); rintro x w2 ⟨rfl, b2⟩; simp only [partV]; have D2 := below_next D1 b2; clear D1 b2)
    | (go_at_call 39; (refine (refIntP_any e _).mono ?_); rintro x w1 ⟨rfl, b1⟩; simp only [partV]; have D1 := below_next D0 b1; clear D0 b1))
  go_wp2_with fail
  go_ret
  exact ⟨U, rfl, hU, hUs, HBE.out.trans (D4.mono HBE.out.size)⟩
end Go.Proofs.Ytponelbfddfliaa
