/- Layer 4's examples. -/
import Derived.Test.YtbafbhnnonfkpaaKeyO
import Derived.Test.YtbafbhnnonfkpaaKeyE
import Derived.Test.YtbafbhnnonfkpaaKeyD
namespace Go.Proofs.Ytbafbhnnonfkpaa
open Go.ChangeShapes Go.WideShapes Go.ChangeAt Go.RowKit

def TrueP (w : World) (e : Ending) (w' : World) : Prop := e = .returned (.bool true) ∧ Below w.heap.size w w'
theorem text_is {T : ByteArray} {l : List Nat} (U : ByteArray) (h : nums T = l) (hU : nums U = l) : T = U := nums_inj (h.trans hU.symm)
theorem lit_ok (k : Nat) (n : Int) (s : ByteArray) (h1 : k < 256) (h2 : -9223372036854775808 ≤ n ∧ n ≤ 9223372036854775807) (h3 : s.size ≤ 1000000) : ∀ p ∈ [PT.mk k n s], p.ok := by
  intro p hp
  simp at hp
  subst hp
  exact ⟨h1, h2, h3⟩
theorem put_lit (w : World) (t : TypeId) (k : Nat) (n : Int) (s U : ByteArray) (h1 : k < 256) (h2 : -9223372036854775808 ≤ n ∧ n ≤ 9223372036854775807) (h3 : s.size ≤ 1000000) (hU : nums U = Ky.put (tos [PT.mk k n s])) :
    Calls Try.prog 10 #[.slice (some ⟨w.heap.size, 0, none⟩) 1 1] (w.alloc (.cells #[.int .u8 (k : Int), .int .i64 n, .string s] t)) fun e w' => e = .returned (.string U) ∧ Below w.heap.size w w' := by
  refine (put_any 1 1 _ _ [PT.mk k n s] _ (parts_lit w t _ 1 _ (by rfl) (lit_ok k n s h1 h2 h3) rfl) (by simp) (by omega)).mono ?_
  rintro e w1 ⟨T, rfl, hT, _, b1⟩
  rw [text_is U hT hU]
  exact ⟨rfl, ((Below.refl _ _).alloc (Nat.le_refl _) _).trans (b1.mono (by simp))⟩
set_option maxRecDepth 100000 in
set_option maxHeartbeats 2000000 in
theorem works_any (w : World) : Calls Try.prog 9 #[] w (TrueP w) := by
  go_enter Try.func9, Try.ntmps9
  go_wp2_with fail
  refine (after_any ⟨#[97, 255]⟩ w (by decide)).mono ?_
  rintro e w1 ⟨T1, rfl, hT1, b1⟩
  have e1 := text_is ⟨#[98]⟩ hT1 (by decide)
  subst e1
  have B1 := Lib.hid b1
  clear hT1 b1
  simp only [show (Ky.after (nums ⟨#[97, 255]⟩)).isSome = true from by decide]
  go_wp2_with fail
  refine (after_any ⟨#[255, 255]⟩ w1 (by decide)).mono ?_
  rintro e w2 ⟨T2, rfl, hT2, b2⟩
  have B2 := Lib.hid (below_next B1.out b2)
  clear hT2 b2 B1
  simp only [show (Ky.after (nums ⟨#[255, 255]⟩)).isSome = false from by decide]
  go_wp2_with fail
  refine (after_any ⟨#[]⟩ w2 (by decide)).mono ?_
  rintro e w3 ⟨T3, rfl, hT3, b3⟩
  have B3 := Lib.hid (below_next B2.out b3)
  clear hT3 b3 B2
  simp only [show (Ky.after (nums ⟨#[]⟩)).isSome = false from by decide]
  go_wp2_with fail
  refine (put_lit w3 39 1 1 ⟨#[]⟩ ⟨#[128, 0, 0, 0, 0, 0, 0, 1]⟩ (by omega) (by omega) (by decide) (by decide)).mono ?_
  rintro e w4 ⟨rfl, b4⟩
  have B4 := Lib.hid (below_next B3.out b4)
  clear b4 B3
  go_wp2_with fail
  refine (put_lit w4 39 1 (-1) ⟨#[]⟩ ⟨#[127, 255, 255, 255, 255, 255, 255, 255]⟩ (by omega) (by omega) (by decide) (by decide)).mono ?_
  rintro e w5 ⟨rfl, b5⟩
  have B5 := Lib.hid (below_next B4.out b5)
  clear b5 B4
  go_wp2_with fail
  refine (put_lit w5 39 2 0 ⟨#[97, 0, 98]⟩ ⟨#[97, 0, 255, 98, 0, 0]⟩ (by omega) (by omega) (by decide) (by decide)).mono ?_
  rintro e w6 ⟨rfl, b6⟩
  have B6 := Lib.hid (below_next B5.out b6)
  clear b6 B5
  go_wp2_with fail
  go_ret
  exact ⟨rfl, B6.out⟩
end Go.Proofs.Ytbafbhnnonfkpaa
