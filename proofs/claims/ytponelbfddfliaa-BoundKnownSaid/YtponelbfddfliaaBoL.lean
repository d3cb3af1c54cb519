/- Layer 4's reference: is a pane ahead of another one? Made by tools/gen/bol.py. -/
import Derived.Test.YtponelbfddfliaaBoV
import Derived.Test.YtponelbfddfliaaRefR
import Derived.Deep.DeepCutAuto
namespace Go.Proofs.Ytponelbfddfliaa
open Go.ChangeShapes Go.WideShapes Go.ChangeAt Go.RowKit

theorem Parts.go {w w' : World} {n : Nat} {A : Option Addr} {l : List PT} (h : Parts w w.heap.size A n l) (b : Below w.heap.size w w') : Parts w' w'.heap.size A n l := (h.below b (Nat.le_refl _)).more b.size
theorem parts_new (w : World) (t : TypeId) (l : List PT) (cs : Array Value) (hcs : cs = (pcells l).toArray) (hl : ∀ p ∈ l, p.ok) : Parts (w.alloc (.cells cs t)) (w.alloc (.cells cs t)).heap.size (some ⟨w.heap.size, 0, none⟩) l.length l := (parts_lit w t l l.length cs hcs hl rfl).more (by simp)
theorem parts_new' (w : World) (o : Obj) (t : TypeId) (l : List PT) (cs : Array Value) (hcs : cs = (pcells l).toArray) (hl : ∀ p ∈ l, p.ok) : Parts ((w.alloc o).alloc (.cells cs t)) ((w.alloc o).alloc (.cells cs t)).heap.size (some ⟨w.heap.size + 1, 0, none⟩) l.length l := by
  have h := parts_new (w.alloc o) t l cs hcs hl
  rw [show (w.alloc o).heap.size = w.heap.size + 1 by simp] at h
  exact h
set_option maxRecDepth 100000 in
set_option maxHeartbeats 4000000 in
theorem refLess_any (sec : Bool) (ka kb : ByteArray) (sa ea sb eb : Int) (w : World) (ha : panOk ⟨ka, sa, ea⟩) (hb : panOk ⟨kb, sb, eb⟩) :
    Calls Try.prog 22 #[.agg #[.string ka, .int .i64 sa, .int .i64 ea], .agg #[.string kb, .int .i64 sb, .int .i64 eb], .bool sec] w (PartP w (.bool (ahead sec ⟨ka, sa, ea⟩ ⟨kb, sb, eb⟩))) := by
  obtain ⟨w0, hw0⟩ : ∃ w0, ((w.alloc (.cells #[.string ka, .int .i64 sa, .int .i64 ea] 34)).alloc (.cells #[.string kb, .int .i64 sb, .int .i64 eb] 34)) = w0 := ⟨_, rfl⟩
  have h1 := Blk.new w 34 #[.string ka, .int .i64 sa, .int .i64 ea]
  have h2 := Blk.new (w.alloc (.cells #[.string ka, .int .i64 sa, .int .i64 ea] 34)) 34 #[.string kb, .int .i64 sb, .int .i64 eb]
  have hbe : Below w.heap.size w ((w.alloc (.cells #[.string ka, .int .i64 sa, .int .i64 ea] 34)).alloc (.cells #[.string kb, .int .i64 sb, .int .i64 eb] 34)) := ((Below.refl _ _).alloc (Nat.le_refl _) _).alloc (by simp) _
  have h1' := h1.below ((Below.refl (w.alloc (.cells #[.string ka, .int .i64 sa, .int .i64 ea] 34)).heap.size _).alloc (Nat.le_refl _) (.cells #[.string kb, .int .i64 sb, .int .i64 eb] 34)) (by simp)
  rw [hw0] at h1' h2 hbe
  rw [show (w.alloc (.cells #[.string ka, .int .i64 sa, .int .i64 ea] 34)).heap.size = w.heap.size + 1 by simp] at h2
  have HC : Hid (∀ W, Below w0.heap.size w0 W → (fun W => (W.cell? ⟨w.heap.size, 0, none⟩ = some (.string ka) ∧ W.cell? ⟨w.heap.size, 1, none⟩ = some (.int .i64 sa) ∧ W.cell? ⟨w.heap.size, 2, none⟩ = some (.int .i64 ea)) ∧ W.cell? ⟨w.heap.size + 1, 0, none⟩ = some (.string kb) ∧ W.cell? ⟨w.heap.size + 1, 1, none⟩ = some (.int .i64 sb) ∧ W.cell? ⟨w.heap.size + 1, 2, none⟩ = some (.int .i64 eb)) W) := Lib.hid fun W hW => by
    have b1 := h1'.below hW h1'.lt
    have b2 := h2.below hW h2.lt
    exact ⟨⟨b1.cell 0, b1.cell 1, b1.cell 2⟩, b2.cell 0, b2.cell 1, b2.cell 2⟩
  have HBE := Lib.hid hbe
  have HOK := Lib.hid (And.intro (rowP_ok sec ha) (rowP_ok sec hb))
  have HOP := Lib.hid (And.intro (rowP_ok false ha) (rowP_ok false hb))
  obtain ⟨PA, hPA⟩ : ∃ P, rowP sec ⟨ka, sa, ea⟩ = P := ⟨_, rfl⟩
  obtain ⟨PB, hPB⟩ : ∃ P, rowP sec ⟨kb, sb, eb⟩ = P := ⟨_, rfl⟩
  have D0 : Below w0.heap.size w0 w0.drew := (Below.refl _ _).drew
  unfold ahead
  rw [hPA, hPB]
  rw [hPA, hPB] at HOK
  clear h1 h2 hbe h1' ha hb
  cases sec
  · rw [← hPA, ← hPB] at HOK ⊢
    clear hPA hPB HOP
    obtain ⟨c, hc⟩ : ∃ c, Ky.cmpRow (tos (rowP false ⟨ka, sa, ea⟩)) (tos (rowP false ⟨kb, sb, eb⟩)) = c := ⟨_, rfl⟩
    have HCM := Lib.hid hc
    rw [hc]
    clear hc
    go_enter Try.func22, Try.ntmps22
    go_wp2_with fail
    clear hw0
    go_cut [7, 8] (fun x y wx => ∃ g1 g2, x = .slice (some ⟨g1, 0, none⟩) 3 3 ∧ y = .slice (some ⟨g2, 0, none⟩) 3 3 ∧ Parts wx wx.heap.size (some ⟨g1, 0, none⟩) 3 (primL ka sa ea) ∧ Parts wx wx.heap.size (some ⟨g2, 0, none⟩) 3 (primL kb sb eb) ∧ Below w0.heap.size w0 wx)
    case first =>
      go_region_held3 (fun W => (W.cell? ⟨w.heap.size, 0, none⟩ = some (.string ka) ∧ W.cell? ⟨w.heap.size, 1, none⟩ = some (.int .i64 sa) ∧ W.cell? ⟨w.heap.size, 2, none⟩ = some (.int .i64 ea)) ∧ W.cell? ⟨w.heap.size + 1, 0, none⟩ = some (.string kb) ∧ W.cell? ⟨w.heap.size + 1, 1, none⟩ = some (.int .i64 sb) ∧ W.cell? ⟨w.heap.size + 1, 2, none⟩ = some (.int .i64 eb)) (first | with_reducible exact HC.out _ D0 | with_reducible exact HC.out _ D1 | with_reducible exact HC.out _ D2 | with_reducible exact HC.out _ D3 | with_reducible exact HC.out _ (D3.alloc D3.size _) | with_reducible exact HC.out _ D4 | with_reducible exact HC.out _ (D4.alloc D4.size _) | with_reducible exact HC.out _ D5 | with_reducible exact HC.out _ (D5.alloc D5.size _) | with_reducible exact HC.out _ D6 | with_reducible exact HC.out _ (D6.alloc D6.size _) | with_reducible exact HC.out _ ((D6.alloc D6.size _).alloc (D6.alloc D6.size _).size _)) (first
        | (go_at_call 39; have _ := D5; (refine (refIntP_any sb _).mono ?_); rintro x w6 ⟨rfl, b6⟩; simp only [partV]; (first | ((have D6 : Below w0.heap.size w0 w6 := by with_reducible exact below_next D5 b6); (try have P1 := Lib.hid (P1.out.go b6))) | ((have D6 : Below w0.heap.size w0 w6 := by with_reducible exact below_next (D5.alloc D5.size _) b6); have P1 := Lib.hid ((parts_new _ _ (primL ka sa ea) _ (by rfl) HOK.out.1).go b6))); clear D5 b6)
        | (go_at_call 39; have _ := D4; (refine (refIntP_any eb _).mono ?_); rintro x w5 ⟨rfl, b5⟩; simp only [partV]; (first | ((have D5 : Below w0.heap.size w0 w5 := by with_reducible exact below_next D4 b5); (try have P1 := Lib.hid (P1.out.go b5))) | ((have D5 : Below w0.heap.size w0 w5 := by with_reducible exact below_next (D4.alloc D4.size _) b5); have P1 := Lib.hid ((parts_new _ _ (primL ka sa ea) _ (by rfl) HOK.out.1).go b5))); clear D4 b5)
        | (go_at_call 38; have _ := D3; (refine (refTextP_any kb _).mono ?_); rintro x w4 ⟨rfl, b4⟩; simp only [partV]; (first | ((have D4 : Below w0.heap.size w0 w4 := by with_reducible exact below_next D3 b4); (try have P1 := Lib.hid (P1.out.go b4))) | ((have D4 : Below w0.heap.size w0 w4 := by with_reducible exact below_next (D3.alloc D3.size _) b4); have P1 := Lib.hid ((parts_new _ _ (primL ka sa ea) _ (by rfl) HOK.out.1).go b4))); clear D3 b4)
        | (go_at_call 39; have _ := D2; (refine (refIntP_any sa _).mono ?_); rintro x w3 ⟨rfl, b3⟩; simp only [partV]; (have D3 : Below w0.heap.size w0 w3 := by with_reducible exact below_next D2 b3); (try have P1 := Lib.hid (P1.out.go b3)); clear D2 b3)
        | (go_at_call 39; have _ := D1; (refine (refIntP_any ea _).mono ?_); rintro x w2 ⟨rfl, b2⟩; simp only [partV]; (have D2 : Below w0.heap.size w0 w2 := by with_reducible exact below_next D1 b2); (try have P1 := Lib.hid (P1.out.go b2)); clear D1 b2)
        | (go_at_call 38; have _ := D0; (refine (refTextP_any ka _).mono ?_); rintro x w1 ⟨rfl, b1⟩; simp only [partV]; (have D1 : Below w0.heap.size w0 w1 := by with_reducible exact below_next D0 b1); (try have P1 := Lib.hid (P1.out.go b1)); clear D0 b1))
      all_goals (go_wp2_with fail)
      all_goals (go_meet)
      all_goals first
        | exact ⟨_, _, rfl, rfl, P1.out.go ((Below.refl _ _).alloc (Nat.le_refl _) _), parts_new _ _ (primL kb sb eb) _ (by rfl) HOK.out.2, D6.alloc D6.size _⟩
        | exact ⟨w6.heap.size, w6.heap.size + 1, rfl, rfl, (parts_new w6 _ (primL ka sa ea) _ (by rfl) HOK.out.1).go ((Below.refl _ _).alloc (Nat.le_refl _) _), parts_new' w6 _ _ (primL kb sb eb) _ (by rfl) HOK.out.2, (D6.alloc D6.size _).alloc (D6.alloc D6.size _).size _⟩
        | exact ⟨w6.heap.size + 1, w6.heap.size, rfl, rfl, parts_new' w6 _ _ (primL ka sa ea) _ (by rfl) HOK.out.1, (parts_new w6 _ (primL kb sb eb) _ (by rfl) HOK.out.2).go ((Below.refl _ _).alloc (Nat.le_refl _) _), (D6.alloc D6.size _).alloc (D6.alloc D6.size _).size _⟩
    case rest =>
    obtain ⟨g1, g2, rfl, rfl, p1, p2, hb⟩ := hcut
    have HP := Lib.hid (And.intro p1 (And.intro p2 hb))
    clear p1 p2 hb
    go_wp2_with fail
    refine (refCompare_any 3 3 3 3 _ _ _ _ _ _ HP.out.1 HP.out.2.1 (Nat.le_refl _) (by omega) (by omega)).mono ?_
    rw [show rowP false ⟨ka, sa, ea⟩ = primL ka sa ea from rfl, show rowP false ⟨kb, sb, eb⟩ = primL kb sb eb from rfl] at HCM
    rw [HCM.out]
    rintro e wz ⟨rfl, bz⟩
    go_wp2_with fail
    go_ret
    exact ⟨rfl, HBE.out.trans ((HP.out.2.2.trans (bz.mono HP.out.2.2.size)).mono HBE.out.size)⟩
  · rw [← hPA, ← hPB] at HOK ⊢
    clear hPA hPB
    obtain ⟨c, hc⟩ : ∃ c, Ky.cmpRow (tos (rowP true ⟨ka, sa, ea⟩)) (tos (rowP true ⟨kb, sb, eb⟩)) = c := ⟨_, rfl⟩
    have HCM := Lib.hid hc
    rw [hc]
    clear hc
    go_enter Try.func22, Try.ntmps22
    go_wp2_with fail
    clear hw0
    go_cut [7, 8] (fun _ _ wx => Below w0.heap.size w0 wx)
    case first =>
      go_region_held3 (fun W => (W.cell? ⟨w.heap.size, 0, none⟩ = some (.string ka) ∧ W.cell? ⟨w.heap.size, 1, none⟩ = some (.int .i64 sa) ∧ W.cell? ⟨w.heap.size, 2, none⟩ = some (.int .i64 ea)) ∧ W.cell? ⟨w.heap.size + 1, 0, none⟩ = some (.string kb) ∧ W.cell? ⟨w.heap.size + 1, 1, none⟩ = some (.int .i64 sb) ∧ W.cell? ⟨w.heap.size + 1, 2, none⟩ = some (.int .i64 eb)) (first | with_reducible exact HC.out _ D0 | with_reducible exact HC.out _ D1 | with_reducible exact HC.out _ D2 | with_reducible exact HC.out _ D3 | with_reducible exact HC.out _ (D3.alloc D3.size _) | with_reducible exact HC.out _ D4 | with_reducible exact HC.out _ (D4.alloc D4.size _) | with_reducible exact HC.out _ D5 | with_reducible exact HC.out _ (D5.alloc D5.size _) | with_reducible exact HC.out _ D6 | with_reducible exact HC.out _ (D6.alloc D6.size _) | with_reducible exact HC.out _ ((D6.alloc D6.size _).alloc (D6.alloc D6.size _).size _)) (first
        | (go_at_call 39; have _ := D5; (refine (refIntP_any sb _).mono ?_); rintro x w6 ⟨rfl, b6⟩; simp only [partV]; (first | ((have D6 : Below w0.heap.size w0 w6 := by with_reducible exact below_next D5 b6); (try have P1 := Lib.hid (P1.out.go b6))) | ((have D6 : Below w0.heap.size w0 w6 := by with_reducible exact below_next (D5.alloc D5.size _) b6); have P1 := Lib.hid ((parts_new _ _ (primL ka sa ea) _ (by rfl) HOP.out.1).go b6))); clear D5 b6)
        | (go_at_call 39; have _ := D4; (refine (refIntP_any eb _).mono ?_); rintro x w5 ⟨rfl, b5⟩; simp only [partV]; (first | ((have D5 : Below w0.heap.size w0 w5 := by with_reducible exact below_next D4 b5); (try have P1 := Lib.hid (P1.out.go b5))) | ((have D5 : Below w0.heap.size w0 w5 := by with_reducible exact below_next (D4.alloc D4.size _) b5); have P1 := Lib.hid ((parts_new _ _ (primL ka sa ea) _ (by rfl) HOP.out.1).go b5))); clear D4 b5)
        | (go_at_call 38; have _ := D3; (refine (refTextP_any kb _).mono ?_); rintro x w4 ⟨rfl, b4⟩; simp only [partV]; (first | ((have D4 : Below w0.heap.size w0 w4 := by with_reducible exact below_next D3 b4); (try have P1 := Lib.hid (P1.out.go b4))) | ((have D4 : Below w0.heap.size w0 w4 := by with_reducible exact below_next (D3.alloc D3.size _) b4); have P1 := Lib.hid ((parts_new _ _ (primL ka sa ea) _ (by rfl) HOP.out.1).go b4))); clear D3 b4)
        | (go_at_call 39; have _ := D2; (refine (refIntP_any sa _).mono ?_); rintro x w3 ⟨rfl, b3⟩; simp only [partV]; (have D3 : Below w0.heap.size w0 w3 := by with_reducible exact below_next D2 b3); (try have P1 := Lib.hid (P1.out.go b3)); clear D2 b3)
        | (go_at_call 39; have _ := D1; (refine (refIntP_any ea _).mono ?_); rintro x w2 ⟨rfl, b2⟩; simp only [partV]; (have D2 : Below w0.heap.size w0 w2 := by with_reducible exact below_next D1 b2); (try have P1 := Lib.hid (P1.out.go b2)); clear D1 b2)
        | (go_at_call 38; have _ := D0; (refine (refTextP_any ka _).mono ?_); rintro x w1 ⟨rfl, b1⟩; simp only [partV]; (have D1 : Below w0.heap.size w0 w1 := by with_reducible exact below_next D0 b1); (try have P1 := Lib.hid (P1.out.go b1)); clear D0 b1))
      all_goals (go_wp2_with fail)
      all_goals (go_meet)
      all_goals first
        | exact D6.alloc D6.size _
        | exact (D6.alloc D6.size _).alloc (D6.alloc D6.size _).size _
    case rest =>
    have D0 := hcut.drew
    clear hcut HOP
    go_wp2_with fail
    go_region_held3 (fun W => (W.cell? ⟨w.heap.size, 0, none⟩ = some (.string ka) ∧ W.cell? ⟨w.heap.size, 1, none⟩ = some (.int .i64 sa) ∧ W.cell? ⟨w.heap.size, 2, none⟩ = some (.int .i64 ea)) ∧ W.cell? ⟨w.heap.size + 1, 0, none⟩ = some (.string kb) ∧ W.cell? ⟨w.heap.size + 1, 1, none⟩ = some (.int .i64 sb) ∧ W.cell? ⟨w.heap.size + 1, 2, none⟩ = some (.int .i64 eb)) (first | with_reducible exact HC.out _ D0 | with_reducible exact HC.out _ D1 | with_reducible exact HC.out _ D2 | with_reducible exact HC.out _ D3 | with_reducible exact HC.out _ (D3.alloc D3.size _) | with_reducible exact HC.out _ D4 | with_reducible exact HC.out _ (D4.alloc D4.size _) | with_reducible exact HC.out _ D5 | with_reducible exact HC.out _ (D5.alloc D5.size _) | with_reducible exact HC.out _ D6 | with_reducible exact HC.out _ (D6.alloc D6.size _) | with_reducible exact HC.out _ ((D6.alloc D6.size _).alloc (D6.alloc D6.size _).size _)) (first
        | (go_at_call 39; have _ := D2; (refine (refIntP_any sa _).mono ?_); rintro x w3 ⟨rfl, b3⟩; simp only [partV]; (have D3 : Below w0.heap.size w0 w3 := by with_reducible exact below_next D2 b3); (try have P1 := Lib.hid (P1.out.go b3)); clear D2 b3)
        | (go_at_call 38; have _ := D1; (refine (refTextP_any ka _).mono ?_); rintro x w2 ⟨rfl, b2⟩; simp only [partV]; (have D2 : Below w0.heap.size w0 w2 := by with_reducible exact below_next D1 b2); (try have P1 := Lib.hid (P1.out.go b2)); clear D1 b2)
        | (go_at_call 39; have _ := D0; (refine (refIntP_any ea _).mono ?_); rintro x w1 ⟨rfl, b1⟩; simp only [partV]; (have D1 : Below w0.heap.size w0 w1 := by with_reducible exact below_next D0 b1); (try have P1 := Lib.hid (P1.out.go b1)); clear D0 b1))
    go_wp2_with fail
    have D4 := (D3.alloc D3.size (.cells #[.int .u8 1, .int .i64 ea, .string ⟨#[]⟩, .int .u8 2, .int .i64 0, .string ka, .int .u8 1, .int .i64 sa, .string ⟨#[]⟩] 71))
    have P1 := Lib.hid (parts_new w3 71 (secL ka sa ea) #[.int .u8 1, .int .i64 ea, .string ⟨#[]⟩, .int .u8 2, .int .i64 0, .string ka, .int .u8 1, .int .i64 sa, .string ⟨#[]⟩] (by rfl) HOK.out.1)
    obtain ⟨w9, hw9⟩ : ∃ w9, w3.alloc (.cells #[.int .u8 1, .int .i64 ea, .string ⟨#[]⟩, .int .u8 2, .int .i64 0, .string ka, .int .u8 1, .int .i64 sa, .string ⟨#[]⟩] 71) = w9 := ⟨_, rfl⟩
    rw [hw9] at D4 P1
    first | rw [hw9] | skip
    have D0 := D4.drew
    have P1 := Lib.hid (P1.out.go ((Below.refl _ _).drew))
    clear hw9 D3 D4
    go_region_held3 (fun W => (W.cell? ⟨w.heap.size, 0, none⟩ = some (.string ka) ∧ W.cell? ⟨w.heap.size, 1, none⟩ = some (.int .i64 sa) ∧ W.cell? ⟨w.heap.size, 2, none⟩ = some (.int .i64 ea)) ∧ W.cell? ⟨w.heap.size + 1, 0, none⟩ = some (.string kb) ∧ W.cell? ⟨w.heap.size + 1, 1, none⟩ = some (.int .i64 sb) ∧ W.cell? ⟨w.heap.size + 1, 2, none⟩ = some (.int .i64 eb)) (first | with_reducible exact HC.out _ D0 | with_reducible exact HC.out _ D1 | with_reducible exact HC.out _ D2 | with_reducible exact HC.out _ D3 | with_reducible exact HC.out _ (D3.alloc D3.size _) | with_reducible exact HC.out _ D4 | with_reducible exact HC.out _ (D4.alloc D4.size _) | with_reducible exact HC.out _ D5 | with_reducible exact HC.out _ (D5.alloc D5.size _) | with_reducible exact HC.out _ D6 | with_reducible exact HC.out _ (D6.alloc D6.size _) | with_reducible exact HC.out _ ((D6.alloc D6.size _).alloc (D6.alloc D6.size _).size _)) (first
        | (go_at_call 39; have _ := D2; (refine (refIntP_any sb _).mono ?_); rintro x w6 ⟨rfl, b3⟩; simp only [partV]; (have D3 : Below w0.heap.size w0 w6 := by with_reducible exact below_next D2 b3); (try have P1 := Lib.hid (P1.out.go b3)); clear D2 b3)
        | (go_at_call 38; have _ := D1; (refine (refTextP_any kb _).mono ?_); rintro x w5 ⟨rfl, b2⟩; simp only [partV]; (have D2 : Below w0.heap.size w0 w5 := by with_reducible exact below_next D1 b2); (try have P1 := Lib.hid (P1.out.go b2)); clear D1 b2)
        | (go_at_call 39; have _ := D0; (refine (refIntP_any eb _).mono ?_); rintro x w4 ⟨rfl, b1⟩; simp only [partV]; (have D1 : Below w0.heap.size w0 w4 := by with_reducible exact below_next D0 b1); (try have P1 := Lib.hid (P1.out.go b1)); clear D0 b1))
    go_wp2_with fail
    have D4 := (D3.alloc D3.size (.cells #[.int .u8 1, .int .i64 eb, .string ⟨#[]⟩, .int .u8 2, .int .i64 0, .string kb, .int .u8 1, .int .i64 sb, .string ⟨#[]⟩] 71))
    have P2 := Lib.hid (parts_new w6 71 (secL kb sb eb) #[.int .u8 1, .int .i64 eb, .string ⟨#[]⟩, .int .u8 2, .int .i64 0, .string kb, .int .u8 1, .int .i64 sb, .string ⟨#[]⟩] (by rfl) HOK.out.2)
    have P3 := Lib.hid (P1.out.go ((Below.refl _ _).alloc (Nat.le_refl _) (.cells #[.int .u8 1, .int .i64 eb, .string ⟨#[]⟩, .int .u8 2, .int .i64 0, .string kb, .int .u8 1, .int .i64 sb, .string ⟨#[]⟩] 71)))
    refine (refCompare_any 3 3 3 3 _ _ _ _ _ _ P3.out P2.out (Nat.le_refl _) (by omega) (by omega)).mono ?_
    rw [show rowP true ⟨ka, sa, ea⟩ = secL ka sa ea from rfl, show rowP true ⟨kb, sb, eb⟩ = secL kb sb eb from rfl] at HCM
    rw [HCM.out]
    rintro e wz ⟨rfl, bz⟩
    go_wp2_with fail
    go_ret
    exact ⟨rfl, HBE.out.trans ((D4.trans (bz.mono D4.size)).mono HBE.out.size)⟩
end Go.Proofs.Ytponelbfddfliaa
