/- Stage 3's statements of two and three numbers, walked. -/
import Derived.Test.YthnmphaehalceaaNumE
namespace Go.Proofs.Ythnmphaehalceaa
open Go.ChangeShapes Go.WideShapes Go.ChangeAt Go.RowKit

def Yes (w : World) (e : Ending) (w' : World) : Prop := e = .returned (.bool true) ∧ Below w.heap.size w w'
/-- Numbers that a call wrote down itself. -/
theorem ints_lit (w : World) (t : TypeId) (l : List Int) (hl : ∀ x ∈ l, -9223372036854775808 ≤ x ∧ x ≤ 9223372036854775807) : Ints (w.alloc (.cells (l.map (Value.int .i64)).toArray t)) (w.heap.size + 1) (some ⟨w.heap.size, 0, none⟩) l.length l :=
  ⟨rfl, hl, fun _ => ⟨w.heap.size, 0, rfl, by omega, fun i hi => by
    rw [(Blk.new w t _).cell]
    simp [List.getD_eq_getElem?_getD, List.getElem?_eq_getElem hi]⟩⟩
set_option maxRecDepth 100000 in
set_option maxHeartbeats 2000000 in
theorem works_any (w : World) : Calls Try.prog 18 #[] w (Yes w) := by
  have h1 : Calls Try.prog 8 #[.int .i64 9223372036854775807, .int .i64 1] w (TwoB 0 false w) := add_any 9223372036854775807 1 w (by decide) (by decide)
  have h2 : Calls Try.prog 10 #[.int .i64 (-9223372036854775808), .int .i64 1] w (TwoB 0 false w) := sub_any (-9223372036854775808) 1 w (by decide) (by decide)
  have h3 : Calls Try.prog 12 #[.int .i64 4294967296, .int .i64 2147483648] w (TwoB 0 false w) := mul_any 4294967296 2147483648 w (by decide) (by decide)
  have h4 : Calls Try.prog 19 #[.slice (some ⟨w.heap.size, 0, none⟩) 3 3] (w.alloc (.cells #[.int .i64 9223372036854775807, .int .i64 1, .int .i64 (-1)] 2)) (TwoEB 9223372036854775807 0 (w.alloc (.cells #[.int .i64 9223372036854775807, .int .i64 1, .int .i64 (-1)] 2))) :=
    sum_any 3 3 _ _ [9223372036854775807, 1, -1] _ (ints_lit w _ _ (by decide)) (by simp) (by decide)
  have h5 := fun v => (floorDiv_any (-7) 3 v (by decide) (by decide) : Calls Try.prog 21 #[.int .i64 (-7), .int .i64 3] v (TwoE (-3) 0 v))
  have h6 := fun v => (floorMod_any (-7) 3 v (by decide) : Calls Try.prog 23 #[.int .i64 (-7), .int .i64 3] v (TwoE 2 0 v))
  have h7 := fun v => (down_any (-7) 3 v (by decide) (by decide) : Calls Try.prog 25 #[.int .i64 (-7), .int .i64 3] v (TwoE (-9) 0 v))
  have h8 := fun v => (clamp_any 5 1 3 v : Calls Try.prog 16 #[.int .i64 5, .int .i64 1, .int .i64 3] v fun e w' => e = .returned (.int .i64 3) ∧ v = w')
  have h9 := fun v => (clamp_any 5 9 3 v : Calls Try.prog 16 #[.int .i64 5, .int .i64 9, .int .i64 3] v fun e w' => e = .returned (.int .i64 9) ∧ v = w')
  go_enter Try.func18, Try.ntmps18
  go_wp2_with (first
    | (go_at_call 8; (with_reducible refine h1.mono ?_); rintro e w' ⟨rfl, rfl⟩)
    | (go_at_call 10; (with_reducible refine h2.mono ?_); rintro e w' ⟨rfl, rfl⟩)
    | (go_at_call 12; (with_reducible refine h3.mono ?_); rintro e w' ⟨rfl, rfl⟩)
    | (go_at_call 19; (with_reducible refine h4.mono ?_); rintro e w1 ⟨rfl, b1⟩)
    | (go_at_call 21; (with_reducible refine (h5 _).mono ?_); rintro e w' ⟨rfl, rfl⟩)
    | (go_at_call 23; (with_reducible refine (h6 _).mono ?_); rintro e w' ⟨rfl, rfl⟩)
    | (go_at_call 25; (with_reducible refine (h7 _).mono ?_); rintro e w' ⟨rfl, rfl⟩)
    | (go_at_call 16; (with_reducible refine (h8 _).mono ?_); rintro e w' ⟨rfl, rfl⟩)
    | (go_at_call 16; (with_reducible refine (h9 _).mono ?_); rintro e w' ⟨rfl, rfl⟩))
  go_ret
  exact ⟨rfl, ((Below.refl _ _).alloc (Nat.le_refl _) _).trans (b1.mono (by simp))⟩
set_option maxRecDepth 100000 in
set_option maxHeartbeats 2000000 in
theorem two_any (a b c : Int) (w : World) (ha : -9223372036854775808 ≤ a ∧ a ≤ 9223372036854775807) (hb : -9223372036854775808 ≤ b ∧ b ≤ 9223372036854775807) :
    Calls Try.prog 3 #[.int .i64 a, .int .i64 b, .int .i64 c] w (Yes w) := by
  go_enter Try.func3, Try.ntmps3
  go_wp2_with (first
    | (go_at_call 8; (with_reducible refine (add_any a b _ ha hb).mono ?_); rintro e w' ⟨rfl, rfl⟩)
    | (go_at_call 9; (with_reducible refine (refAdd_any a b _ ha hb).mono ?_); rintro e w1 ⟨rfl, b1⟩)
    | (go_at_call 10; (with_reducible refine (sub_any a b _ ha hb).mono ?_); rintro e w' ⟨rfl, rfl⟩)
    | (go_at_call 11; (with_reducible refine (refSub_any a b _ ha hb).mono ?_); rintro e w2 ⟨rfl, b2⟩)
    | (go_at_call 12; (with_reducible refine (mul_any a b _ ha hb).mono ?_); rintro e w' ⟨rfl, rfl⟩)
    | (go_at_call 13; (with_reducible refine (refMul_any a b _ ha hb).mono ?_); rintro e w3 ⟨rfl, b3⟩)
    | (go_at_call 14; (with_reducible refine (abs_any a _ ha).mono ?_); rintro e w' ⟨rfl, rfl⟩)
    | (go_at_call 15; (with_reducible refine (refAbs_any a _ ha).mono ?_); rintro e w4 ⟨rfl, b4⟩)
    | (go_at_call 16; (with_reducible refine (clamp_any a b c _).mono ?_); rintro e w' ⟨rfl, rfl⟩)
    | (go_at_call 17; (with_reducible refine (refClamp_any a b c _).mono ?_); rintro e w' ⟨rfl, rfl⟩)
    | (go_at_call 18; (with_reducible refine (works_any _).mono ?_); rintro e w5 ⟨rfl, b5⟩))
  go_ret
  exact ⟨rfl, below_next (below_next (below_next (below_next b1 b2) b3) b4) b5⟩
set_option maxRecDepth 100000 in
set_option maxHeartbeats 2000000 in
theorem floors_any (n d : Int) (w : World) (hn : -9223372036854775808 ≤ n ∧ n ≤ 9223372036854775807) (hd : -9223372036854775808 ≤ d ∧ d ≤ 9223372036854775807) :
    Calls Try.prog 5 #[.int .i64 n, .int .i64 d] w (Yes w) := by
  go_enter Try.func5, Try.ntmps5
  go_wp2_with (first
    | (go_at_call 21; (with_reducible refine (floorDiv_any n d _ hn hd).mono ?_); rintro e w' ⟨rfl, rfl⟩)
    | (go_at_call 22; (with_reducible refine (refFloorDiv_any n d _ hn hd).mono ?_); rintro e w' ⟨rfl, rfl⟩)
    | (go_at_call 23; (with_reducible refine (floorMod_any n d _ hd).mono ?_); rintro e w' ⟨rfl, rfl⟩)
    | (go_at_call 24; (with_reducible refine (refFloorMod_any n d _ hn hd).mono ?_); rintro e w' ⟨rfl, rfl⟩)
    | (go_at_call 25; (with_reducible refine (down_any n d _ hn hd).mono ?_); rintro e w' ⟨rfl, rfl⟩)
    | (go_at_call 26; (with_reducible refine (refDown_any n d _ hn hd).mono ?_); rintro e w1 ⟨rfl, b1⟩)
    | (go_at_call 18; (with_reducible refine (works_any _).mono ?_); rintro e w5 ⟨rfl, b5⟩))
  go_ret
  exact ⟨rfl, below_next b1 b5⟩
end Go.Proofs.Ythnmphaehalceaa
