/- Layer 10, the program: a filter's row of a pane. -/
import Derived.Test.YtponelbfddfliaaBoB
import Derived.Test.YtponelbfddfliaaKeyF
namespace Go.Proofs.Ytponelbfddfliaa
open Go.ChangeShapes Go.WideShapes Go.ChangeAt Go.RowKit

def priF : Value := .func (.func 61) #[] #[]
def secF : Value := .func (.func 60) #[] #[]
theorem mPrimary_any (k : ByteArray) (s e : Int) (w : World) (hp : panOk ⟨k, s, e⟩) : Calls Try.prog 61 #[.agg #[.string k, .int .i64 s, .int .i64 e]] w (TextP w (row false ⟨k, s, e⟩)) := by
  have HC := Lib.hid (fun W => primary_any k s e W hp.1 hp.2.1 hp.2.2)
  unfold paneV at HC
  clear hp
  go_enter Try.func61, Try.ntmps61
  go_wp2_with fail
  refine (HC.out _).mono ?_
  rintro e w1 ⟨U, rfl, hU, hUs, b1⟩
  go_wp2_with fail
  go_ret
  exact ⟨U, rfl, hU, hUs, ((Below.refl _ _).alloc (Nat.le_refl _) _).trans (b1.mono (by simp))⟩
theorem mSecondary_any (k : ByteArray) (s e : Int) (w : World) (hp : panOk ⟨k, s, e⟩) : Calls Try.prog 60 #[.agg #[.string k, .int .i64 s, .int .i64 e]] w (TextP w (row true ⟨k, s, e⟩)) := by
  have HC := Lib.hid (fun W => secondary_any k s e W hp.1 hp.2.1 hp.2.2)
  unfold paneV at HC
  clear hp
  go_enter Try.func60, Try.ntmps60
  go_wp2_with fail
  refine (HC.out _).mono ?_
  rintro e w1 ⟨U, rfl, hU, hUs, b1⟩
  go_wp2_with fail
  go_ret
  exact ⟨U, rfl, hU, hUs, ((Below.refl _ _).alloc (Nat.le_refl _) _).trans (b1.mono (by simp))⟩
theorem written_any (fk : Nat) (fK fT : ByteArray) (fl fm : Int) (w : World) : Calls Try.prog 41 #[.agg #[.int .u8 (fk : Int), .string fK, .string fT, .int .i64 fl, .int .i64 fm]] w (PartP w (if fk = 3 then secF else priF)) := by
  have HC := Lib.hid (fun W => sec_any ⟨fk, fK, fT, fl, fm⟩ W)
  unfold Fl.val Fl.sec at HC
  dsimp only at HC
  by_cases h : fk = 3
  · rw [if_pos h]
    rw [decide_eq_true h] at HC
    clear h
    go_enter Try.func41, Try.ntmps41
    go_wp2_with fail
    refine (HC.out _).mono ?_
    rintro e w1 ⟨rfl, b1⟩
    go_wp2_with fail
    go_ret
    exact ⟨rfl, ((Below.refl _ _).alloc (Nat.le_refl _) _).trans (b1.mono (by simp))⟩
  · rw [if_neg h]
    rw [decide_eq_false h] at HC
    clear h
    go_enter Try.func41, Try.ntmps41
    go_wp2_with fail
    refine (HC.out _).mono ?_
    rintro e w1 ⟨rfl, b1⟩
    go_wp2_with fail
    go_ret
    exact ⟨rfl, ((Below.refl _ _).alloc (Nat.le_refl _) _).trans (b1.mono (by simp))⟩
set_option maxRecDepth 100000 in
set_option maxHeartbeats 1000000 in
theorem row_any (fk : Nat) (fK fT : ByteArray) (fl fm : Int) (k : ByteArray) (s e : Int) (w : World) (hp : panOk ⟨k, s, e⟩) : Calls Try.prog 23 #[.agg #[.int .u8 (fk : Int), .string fK, .string fT, .int .i64 fl, .int .i64 fm], .agg #[.string k, .int .i64 s, .int .i64 e]] w (TextP w (row (decide (fk = 3)) ⟨k, s, e⟩)) := by
  obtain ⟨w0, hw0⟩ : ∃ w0, (w.alloc (.cells #[.int .u8 (fk : Int), .string fK, .string fT, .int .i64 fl, .int .i64 fm] 23)).alloc (.cells #[.string k, .int .i64 s, .int .i64 e] 33) = w0 := ⟨_, rfl⟩
  have h1 := Blk.new w 23 #[.int .u8 (fk : Int), .string fK, .string fT, .int .i64 fl, .int .i64 fm]
  have h2 := Blk.new (w.alloc (.cells #[.int .u8 (fk : Int), .string fK, .string fT, .int .i64 fl, .int .i64 fm] 23)) 33 #[.string k, .int .i64 s, .int .i64 e]
  have hbe := below_al2 w (.cells #[.int .u8 (fk : Int), .string fK, .string fT, .int .i64 fl, .int .i64 fm] 23) (.cells #[.string k, .int .i64 s, .int .i64 e] 33)
  have h1' := h1.below ((Below.refl (w.alloc (.cells #[.int .u8 (fk : Int), .string fK, .string fT, .int .i64 fl, .int .i64 fm] 23)).heap.size _).alloc (Nat.le_refl _) (.cells #[.string k, .int .i64 s, .int .i64 e] 33)) (by simp)
  rw [hw0] at h1' h2 hbe
  rw [show (w.alloc (.cells #[.int .u8 (fk : Int), .string fK, .string fT, .int .i64 fl, .int .i64 fm] 23)).heap.size = w.heap.size + 1 by simp] at h2
  have HC : Hid (∀ W, Below w0.heap.size w0 W → (W.cell? ⟨w.heap.size, 0, none⟩ = some (.int .u8 (fk : Int)) ∧ W.cell? ⟨w.heap.size, 1, none⟩ = some (.string fK) ∧ W.cell? ⟨w.heap.size, 2, none⟩ = some (.string fT) ∧ W.cell? ⟨w.heap.size, 3, none⟩ = some (.int .i64 fl) ∧ W.cell? ⟨w.heap.size, 4, none⟩ = some (.int .i64 fm)) ∧ W.cell? ⟨w.heap.size + 1, 0, none⟩ = some (.string k) ∧ W.cell? ⟨w.heap.size + 1, 1, none⟩ = some (.int .i64 s) ∧ W.cell? ⟨w.heap.size + 1, 2, none⟩ = some (.int .i64 e)) := Lib.hid fun W hW => by
    have b1 := h1'.below hW h1'.lt
    have b2 := h2.below hW h2.lt
    exact ⟨⟨b1.cell 0, b1.cell 1, b1.cell 2, b1.cell 3, b1.cell 4⟩, b2.cell 0, b2.cell 1, b2.cell 2⟩
  have HBE := Lib.hid hbe
  have D0 : Below w0.heap.size w0 w0.drew := (Below.refl _ _).drew
  have HWR := Lib.hid (fun W => written_any fk fK fT fl fm W)
  have HP1 := Lib.hid (fun W => mPrimary_any k s e W hp)
  have HP2 := Lib.hid (fun W => mSecondary_any k s e W hp)
  clear h1 h2 h1' hbe hp
  by_cases h : fk = 3
  · rw [decide_eq_true h]
    simp only [if_pos h] at HWR
    unfold secF at HWR
    clear h HP1
    go_enter Try.func23, Try.ntmps23
    go_wp2_with fail
    clear hw0
    go_region_held3 (fun W => (W.cell? ⟨w.heap.size, 0, none⟩ = some (.int .u8 (fk : Int)) ∧ W.cell? ⟨w.heap.size, 1, none⟩ = some (.string fK) ∧ W.cell? ⟨w.heap.size, 2, none⟩ = some (.string fT) ∧ W.cell? ⟨w.heap.size, 3, none⟩ = some (.int .i64 fl) ∧ W.cell? ⟨w.heap.size, 4, none⟩ = some (.int .i64 fm)) ∧ W.cell? ⟨w.heap.size + 1, 0, none⟩ = some (.string k) ∧ W.cell? ⟨w.heap.size + 1, 1, none⟩ = some (.int .i64 s) ∧ W.cell? ⟨w.heap.size + 1, 2, none⟩ = some (.int .i64 e)) (first | with_reducible exact HC.out _ D0 | with_reducible exact HC.out _ D1 | with_reducible exact HC.out _ D2) (first
      | (go_at_call 60; (with_reducible refine (HP2.out _).mono ?_); rintro x w2 ⟨U, rfl, hU, hUs, b2⟩; have D2 := below_next D1 b2; clear D1 b2)
      | (go_at_call 41; (with_reducible refine (HWR.out _).mono ?_); rintro x w1 ⟨rfl, b1⟩; have D1 := below_next D0 b1; clear D0 b1))
    go_wp2_with fail
    go_ret
    exact ⟨U, rfl, hU, hUs, HBE.out.trans (D2.mono HBE.out.size)⟩
  · rw [decide_eq_false h]
    simp only [if_neg h] at HWR
    unfold priF at HWR
    clear h HP2
    go_enter Try.func23, Try.ntmps23
    go_wp2_with fail
    clear hw0
    go_region_held3 (fun W => (W.cell? ⟨w.heap.size, 0, none⟩ = some (.int .u8 (fk : Int)) ∧ W.cell? ⟨w.heap.size, 1, none⟩ = some (.string fK) ∧ W.cell? ⟨w.heap.size, 2, none⟩ = some (.string fT) ∧ W.cell? ⟨w.heap.size, 3, none⟩ = some (.int .i64 fl) ∧ W.cell? ⟨w.heap.size, 4, none⟩ = some (.int .i64 fm)) ∧ W.cell? ⟨w.heap.size + 1, 0, none⟩ = some (.string k) ∧ W.cell? ⟨w.heap.size + 1, 1, none⟩ = some (.int .i64 s) ∧ W.cell? ⟨w.heap.size + 1, 2, none⟩ = some (.int .i64 e)) (first | with_reducible exact HC.out _ D0 | with_reducible exact HC.out _ D1 | with_reducible exact HC.out _ D2) (first
      | (go_at_call 61; (with_reducible refine (HP1.out _).mono ?_); rintro x w2 ⟨U, rfl, hU, hUs, b2⟩; have D2 := below_next D1 b2; clear D1 b2)
      | (go_at_call 41; (with_reducible refine (HWR.out _).mono ?_); rintro x w1 ⟨rfl, b1⟩; have D1 := below_next D0 b1; clear D0 b1))
    go_wp2_with fail
    go_ret
    exact ⟨U, rfl, hU, hUs, HBE.out.trans (D2.mono HBE.out.size)⟩
end Go.Proofs.Ytponelbfddfliaa
