/- Layer 4, the program: panes written. -/
import Derived.Test.YtponelbfddfliaaRefQ
import Derived.Test.YtponelbfddfliaaKeyB
namespace Go.Proofs.Ytponelbfddfliaa
open Go.ChangeShapes Go.WideShapes Go.ChangeAt Go.RowKit

set_option maxHeartbeats 400000 in
theorem textP_any (s : ByteArray) (w : World) : Calls Try.prog 35 #[.string s] w (PartP w (partV 2 0 s)) := by
  go_enter Try.func35, Try.ntmps35
  go_wp2_with fail
  refine bodyPost_ret (v := partV 2 0 s) ?_ rfl ⟨rfl, ?_⟩
  · simp [results, Try.results35, go_sem, partV]
  · exact (Below.refl _ _).alloc (Nat.le_refl _) _
set_option maxHeartbeats 400000 in
theorem numberP_any (n : Int) (w : World) : Calls Try.prog 36 #[.int .i64 n] w (PartP w (partV 1 n ⟨#[]⟩)) := by
  go_enter Try.func36, Try.ntmps36
  go_wp2_with fail
  refine bodyPost_ret (v := partV 1 n ⟨#[]⟩) ?_ rfl ⟨rfl, ?_⟩
  · simp [results, Try.results36, go_sem, partV]
  · exact (Below.refl _ _).alloc (Nat.le_refl _) _
set_option maxRecDepth 100000 in
set_option maxHeartbeats 2000000 in
theorem primary_any (k : ByteArray) (s e : Int) (w : World) (hk : k.size ≤ 1000000) (hs : -9223372036854775808 ≤ s ∧ s ≤ 9223372036854775807) (he : -9223372036854775808 ≤ e ∧ e ≤ 9223372036854775807) :
    Calls Try.prog 17 #[paneV k s e] w (TextP w (Ky.put (tos (primL k s e)))) := by
  have HOK := Lib.hid (prim_ok k s e hk hs he).1
  clear hs he hk
  unfold paneV
  obtain ⟨w0, hw0⟩ : ∃ w0, w.alloc (.cells #[.string k, .int .i64 s, .int .i64 e] 33) = w0 := ⟨_, rfl⟩
  have hbk := Blk.new w 33 #[.string k, .int .i64 s, .int .i64 e]
  have hbe : Below w.heap.size w (w.alloc (.cells #[.string k, .int .i64 s, .int .i64 e] 33)) := (Below.refl _ _).alloc (Nat.le_refl _) _
  have hz : (w.alloc (.cells #[.string k, .int .i64 s, .int .i64 e] 33)).heap.size = w.heap.size + 1 := by simp
  rw [hw0] at hbk hbe hz
  have HC : Hid (∀ W, Below w0.heap.size w0 W → W.cell? ⟨w.heap.size, 0, none⟩ = some (.string k) ∧ W.cell? ⟨w.heap.size, 1, none⟩ = some (.int .i64 s) ∧ W.cell? ⟨w.heap.size, 2, none⟩ = some (.int .i64 e)) := Lib.hid fun W hW => by
    have hb := hbk.below hW (by omega)
    exact ⟨hb.cell 0, hb.cell 1, hb.cell 2⟩
  have HBE := Lib.hid hbe
  have D0 : Below w0.heap.size w0 w0.drew := (Below.refl _ _).drew
  clear hbk hbe hz
  go_enter Try.func17, Try.ntmps17
  go_wp2_with fail
  clear hw0
  go_region_held3 (fun W => W.cell? ⟨w.heap.size, 0, none⟩ = some (.string k) ∧ W.cell? ⟨w.heap.size, 1, none⟩ = some (.int .i64 s) ∧ W.cell? ⟨w.heap.size, 2, none⟩ = some (.int .i64 e)) (first | exact HC.out _ D0 | exact HC.out _ D1 | exact HC.out _ D2 | exact HC.out _ D3 | exact HC.out _ (D3.alloc D3.size _) | exact HC.out _ D4) (first
    | (go_at_call 34; (refine (put_any 3 3 _ _ (primL k s e) _ ((parts_lit _ _ (primL k s e) 3 _ (by rfl) HOK.out rfl).more (Nat.le_refl _)) (by simp) (by omega)).mono ?_); rintro x w4 ⟨U, rfl, hU, hUs, b4⟩; have D4 := (D3.alloc D3.size _).trans (b4.mono (by have := D3.size; simp; omega)); clear D3 b4)
    | (go_at_call 36; have _ := D2; (refine (numberP_any s _).mono ?_); rintro x w3 ⟨rfl, b3⟩; simp only [partV]; have D3 := below_next D2 b3; clear D2 b3)
    | (go_at_call 36; have _ := D1; (refine (numberP_any e _).mono ?_); rintro x w2 ⟨rfl, b2⟩; simp only [partV]; have D2 := below_next D1 b2; clear D1 b2)
    | (go_at_call 35; (refine (textP_any k _).mono ?_); rintro x w1 ⟨rfl, b1⟩; simp only [partV]; have D1 := below_next D0 b1; clear D0 b1))
  go_wp2_with fail
  go_ret
  exact ⟨U, rfl, hU, hUs, HBE.out.trans (D4.mono HBE.out.size)⟩
set_option maxRecDepth 100000 in
set_option maxHeartbeats 2000000 in
theorem secondary_any (k : ByteArray) (s e : Int) (w : World) (hk : k.size ≤ 1000000) (hs : -9223372036854775808 ≤ s ∧ s ≤ 9223372036854775807) (he : -9223372036854775808 ≤ e ∧ e ≤ 9223372036854775807) :
    Calls Try.prog 18 #[paneV k s e] w (TextP w (Ky.put (tos (secL k s e)))) := by
  have HOK := Lib.hid (prim_ok k s e hk hs he).2
  clear hs he hk
  unfold paneV
  obtain ⟨w0, hw0⟩ : ∃ w0, w.alloc (.cells #[.string k, .int .i64 s, .int .i64 e] 33) = w0 := ⟨_, rfl⟩
  have hbk := Blk.new w 33 #[.string k, .int .i64 s, .int .i64 e]
  have hbe : Below w.heap.size w (w.alloc (.cells #[.string k, .int .i64 s, .int .i64 e] 33)) := (Below.refl _ _).alloc (Nat.le_refl _) _
  have hz : (w.alloc (.cells #[.string k, .int .i64 s, .int .i64 e] 33)).heap.size = w.heap.size + 1 := by simp
  rw [hw0] at hbk hbe hz
  have HC : Hid (∀ W, Below w0.heap.size w0 W → W.cell? ⟨w.heap.size, 0, none⟩ = some (.string k) ∧ W.cell? ⟨w.heap.size, 1, none⟩ = some (.int .i64 s) ∧ W.cell? ⟨w.heap.size, 2, none⟩ = some (.int .i64 e)) := Lib.hid fun W hW => by
    have hb := hbk.below hW (by omega)
    exact ⟨hb.cell 0, hb.cell 1, hb.cell 2⟩
  have HBE := Lib.hid hbe
  have D0 : Below w0.heap.size w0 w0.drew := (Below.refl _ _).drew
  clear hbk hbe hz
  go_enter Try.func18, Try.ntmps18
  go_wp2_with fail
  clear hw0
  go_region_held3 (fun W => W.cell? ⟨w.heap.size, 0, none⟩ = some (.string k) ∧ W.cell? ⟨w.heap.size, 1, none⟩ = some (.int .i64 s) ∧ W.cell? ⟨w.heap.size, 2, none⟩ = some (.int .i64 e)) (first | exact HC.out _ D0 | exact HC.out _ D1 | exact HC.out _ D2 | exact HC.out _ D3 | exact HC.out _ (D3.alloc D3.size _) | exact HC.out _ D4) (first
    | (go_at_call 34; (refine (put_any 3 3 _ _ (secL k s e) _ ((parts_lit _ _ (secL k s e) 3 _ (by rfl) HOK.out rfl).more (Nat.le_refl _)) (by simp) (by omega)).mono ?_); rintro x w4 ⟨U, rfl, hU, hUs, b4⟩; have D4 := (D3.alloc D3.size _).trans (b4.mono (by have := D3.size; simp; omega)); clear D3 b4)
    | (go_at_call 36; have _ := D2; (refine (numberP_any s _).mono ?_); rintro x w3 ⟨rfl, b3⟩; simp only [partV]; have D3 := below_next D2 b3; clear D2 b3)
    | (go_at_call 35; have _ := D1; (refine (textP_any k _).mono ?_); rintro x w2 ⟨rfl, b2⟩; simp only [partV]; have D2 := below_next D1 b2; clear D1 b2)
    | (go_at_call 36; (refine (numberP_any e _).mono ?_); rintro x w1 ⟨rfl, b1⟩; simp only [partV]; have D1 := below_next D0 b1; clear D0 b1))
  go_wp2_with fail
  go_ret
  exact ⟨U, rfl, hU, hUs, HBE.out.trans (D4.mono HBE.out.size)⟩
end Go.Proofs.Ytponelbfddfliaa
