/- Layer 8's reference: a part's number; a part, packed. -/
import Derived.Test.YtbdalpfpkofmlaaRefRpC
import Derived.Test.YtbdalpfpkofmlaaRefRpD
import Derived.Test.YtbdalpfpkofmlaaJoin2
import Derived.Test.YtbdalpfpkofmlaaRpE
namespace Go.Proofs.Ytbdalpfpkofmlaa
open Go.ChangeShapes Go.WideShapes Go.ChangeAt Go.RowKit

set_option maxRecDepth 100000 in
set_option maxHeartbeats 2000000 in
theorem refLong8_any (x : Rp.V) (c : Nat) (w : World) (hc : c = 101 ∨ c = 102 ∨ c = 117 ∨ c = 76 ∨ c = 115 ∨ c = 116) : Calls Try.prog 62 #[x.val, .int .u8 (c : Int)] w fun e w' => e = .returned (.int .u64 ((x.long c : Nat) : Int)) ∧ Below w.heap.size w w' := by
  have hb : ∀ (o : Obj), Below w.heap.size w (w.alloc o) := fun o => (Below.refl _ _).alloc (Nat.le_refl _) _
  have HB := Lib.hid hb
  clear hb
  unfold Rp.V.val Rp.V.cells
  rcases hc with rfl | rfl | rfl | rfl | rfl | rfl
  all_goals
    go_enter Try.func62, Try.ntmps62
    go_wp2_with fail
    go_ret
    exact ⟨rfl, HB.out _⟩
theorem u16u64 (n : Nat) (h : n < 65536) : IntKind.u64.wrap (n : Int) = n := by
  simp [IntKind.wrap, IntKind.bits, IntKind.signed]
  omega
theorem u8_wrap8 (n : Nat) : IntKind.u8.wrap (n : Int) = ((n % 256 : Nat) : Int) := by
  simp [IntKind.wrap, IntKind.bits, IntKind.signed]
set_option maxRecDepth 100000 in
set_option maxHeartbeats 2000000 in
theorem refPart8_num (x : Rp.V) (rows : List Rw) (gone : List Pn) (c : Nat) (w : World) (ok : x.ok) (hc : c = 101 ∨ c = 102 ∨ c = 117 ∨ c = 76 ∨ c = 115 ∨ c = 116) : Calls Try.prog 31 #[x.val, .int .u8 (c : Int)] w (OwnPost w (x.part rows gone c).length (x.part rows gone c)) := by
  have S0 := (Held.start w).new x.cells 34
  have RC : Hid (∀ W, Held w W [(w.heap.size, 34, x.cells)] → RepCells W w.heap.size x) := Lib.hid fun W hW => (rep_cells hW.top).1
  have e1 : x.part rows gone c = Pk.be 8 (x.long c) := by
    unfold Rp.V.part
    rw [if_neg (by omega), if_neg (by omega), if_neg (by omega), if_neg (by omega)]
  have hl : x.long c < 18446744073709551616 := by
    obtain ⟨-, -, -, h1, h2, h3, h4, h5, h6⟩ := ok
    unfold Rp.V.long
    repeat' split
    all_goals assumption
  rw [e1, Pk.be_len]
  have CL : Hid (∀ W, Calls Try.prog 62 #[x.val, .int .u8 (c : Int)] W fun e w' => e = .returned (.int .u64 ((x.long c : Nat) : Int)) ∧ Below W.heap.size W w') := Lib.hid fun W => refLong8_any x c W hc
  have HS := Lib.hid S0
  generalize x.long c = nn at *
  clear e1 S0 ok
  obtain ⟨k, id, code, last, ep, fl, un, le, st, ti, A, n, c0, G, m, d⟩ := x
  unfold Rp.V.val RepCells at *
  unfold Rp.V.cells at *
  dsimp only at *
  rcases hc with rfl | rfl | rfl | rfl | rfl | rfl
  all_goals
    go_enter Try.func31, Try.ntmps31
    go_wp2_with fail
    refine (CL.out _).mono ?_
    rintro e w1 ⟨rfl, b1⟩
    have D1 := Lib.hid (below_next HS.out.1 b1)
    clear b1
    go_wp2_with fail
    refine (refNumber_any _ nn 8 _ rfl hl (by unfold Size; omega)).mono ?_
    rintro e w2 ⟨A2, c2, rfl, o2, b2⟩
    have D2 := Lib.hid (And.intro (own_lower o2 D1.out.size) (below_next D1.out b2))
    clear o2 b2
    go_wp2_with fail
    go_ret
    exact ⟨A2, c2, rfl, D2.out.1, D2.out.2⟩
end Go.Proofs.Ytbdalpfpkofmlaa
