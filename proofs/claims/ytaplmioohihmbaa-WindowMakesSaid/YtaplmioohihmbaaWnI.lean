/- Layer 14, the program: slices.Index and Contains of spans. -/
import Derived.Test.YtaplmioohihmbaaWnH
import Derived.Test.YtaplmioohihmbaaWnM
namespace Go.Proofs.Ytaplmioohihmbaa
open Go.ChangeShapes Go.WideShapes Go.ChangeAt Go.RowKit

theorem span_guard : Try.prog.eqGuardType Try.prog.depth 25 = false := by kernel_rfl
theorem span_same (a b c d : Int) (w : World) : (Op.equalIn 10000 25 (.agg #[.int .i64 a, .int .i64 b]) (.agg #[.int .i64 c, .int .i64 d])).run Try.prog w = .ok ((a == c) && (b == d)) w := by
  have hS : Try.prog.underlying 25 = some (.struct (Try.prog.fieldsOf 25)) := by kernel_rfl
  have hp : Try.prog.stoodInHeld 25 = false := by kernel_rfl
  rw [show (10000 : Nat) = 9999 + 1 from rfl, run_equalIn_agg w 9999 25 _ _ hS hp]
  simp only [Program.fieldsOf, Try.underlying25]
  go_simp
  (repeat' split) <;> simp_all
def IdxP (w : World) (l : List (Int × Int)) (x : Int × Int) (e : Ending) (w' : World) : Prop := ∃ r : Int, e = .returned (.int .i64 r) ∧ decide (0 ≤ r) = l.contains x ∧ Below w.heap.size w w'
theorem pair_eq (a b c d : Int) : ((a == c) && (b == d)) = ((a, b) == (c, d)) := rfl
set_option maxRecDepth 100000 in
set_option maxHeartbeats 2000000 in
theorem index_any (w : World) (F : Nat → Prop) (A : Option Addr) (n c : Nat) (l : List (Int × Int)) (h : Cells w F A n 2 (spL l)) (hn : n ≤ 1000000) (x1 x2 : Int) : Calls Try.prog 39 #[.slice A n c, .agg #[.int .i64 x1, .int .i64 x2]] w (IdxP w l (x1, x2)) := by
  have hln : l.length = n := by have := h.1; rw [spL_len] at this; omega
  have g1 := span_guard
  obtain ⟨w0, hw0⟩ : ∃ w0, w.alloc (.cells #[.int .i64 x1, .int .i64 x2] 25) = w0 := ⟨_, rfl⟩
  obtain ⟨bx, hbx⟩ : ∃ bx, w.heap.size = bx := ⟨_, rfl⟩
  have hbk : Blk w0 bx 25 #[.int .i64 x1, .int .i64 x2] := by rw [← hw0, ← hbx]; exact Blk.new _ _ _
  have hbe : Below w.heap.size w w0 := by rw [← hw0]; exact below_al1 _ _
  have c0 := hbk.cell 0
  have c1 := hbk.cell 1
  have H := Lib.hid (And.intro (h.below hbe) (And.intro hln hbe))
  clear h hln hbk hbe
  go_enter Try.func39, Try.ntmps39
  go_wp2_with fail
  go_loopw [8] (fun i wr => ∃ j : Nat, j ≤ n ∧ i = .int .i64 (j : Int) ∧ (∀ q, q < j → l[q]? ≠ some (x1, x2)) ∧ ∃ m, wr = w0.drewN m) (fun i _ => n - (intOf i).toNat)
  case atStart => exact ⟨0, by omega, rfl, fun q hq => absurd hq (by omega), 0, rfl⟩
  case round =>
    obtain ⟨j, hj, rfl, hno, m, rfl⟩ := hrel
    by_cases hlt : j < n
    · have i1 : (0 : Int) ≤ (j : Int) := by omega
      have i2 : (j : Int) < (n : Int) := by omega
      obtain ⟨x, hx⟩ : ∃ x, l[j]? = some x := ⟨_, List.getElem?_eq_getElem (by rw [H.out.2.1]; exact hlt)⟩
      obtain ⟨b, off, rfl, -, -, z0, z1⟩ := sp_cells H.out.1 hx
      have q1 := fun W => span_same x1 x2 x.1 x.2 W
      obtain ⟨b0, hb0⟩ : ∃ b0, ((x1 == x.1) && (x2 == x.2)) = b0 := ⟨_, rfl⟩
      rw [hb0] at q1
      have HX := Lib.hid (And.intro hx (And.intro hb0 hno))
      clear hx hb0 hno
      cases b0
      · go_wp2_with fail
        go_quiet (fail)
        go_wp2_with fail
        go_roundw
        case rel =>
          refine ⟨j + 1, by omega, by go_num, fun q hq => ?_, _, rfl⟩
          rcases Nat.lt_or_ge q j with h | h
          · exact HX.out.2.2 q h
          · obtain rfl : q = j := by omega
            rw [HX.out.1]
            intro e
            have e := Option.some.inj e
            subst e
            have := HX.out.2.1
            simp at this
        case measure => simp [intOf]; omega
      · go_wp2_with fail
        go_quiet (fail)
        go_wp2_with fail
        go_ret
        refine ⟨j, rfl, ?_, ⟨H.out.2.2.os, H.out.2.2.tape, H.out.2.2.output, H.out.2.2.size, H.out.2.2.block⟩⟩
        rw [decide_eq_true i1, eq_comm, List.contains_iff_mem]
        have h1 := HX.out.2.1
        rw [Bool.and_eq_true, beq_iff_eq, beq_iff_eq] at h1
        rw [h1.1, h1.2]
        exact List.mem_of_getElem? HX.out.1
    · obtain rfl : j = n := by omega
      have HX := Lib.hid hno
      clear hno
      go_wp2_with fail
      go_ret
      refine ⟨-1, rfl, ?_, ⟨H.out.2.2.os, H.out.2.2.tape, H.out.2.2.output, H.out.2.2.size, H.out.2.2.block⟩⟩
      rw [eq_comm]
      show l.contains (x1, x2) = false
      cases hc : l.contains (x1, x2)
      · rfl
      · rw [List.contains_iff_mem] at hc
        obtain ⟨q, hq, e⟩ := List.getElem_of_mem hc
        exact absurd (by rw [List.getElem?_eq_getElem hq, e]) (HX.out q (by rw [← H.out.2.1]; exact hq))
set_option maxRecDepth 100000 in
set_option maxHeartbeats 2000000 in
theorem contains_any (w : World) (F : Nat → Prop) (A : Option Addr) (n c : Nat) (l : List (Int × Int)) (h : Cells w F A n 2 (spL l)) (hn : n ≤ 1000000) (x1 x2 : Int) : Calls Try.prog 32 #[.slice A n c, .agg #[.int .i64 x1, .int .i64 x2]] w (ValP w (.bool (l.contains (x1, x2)))) := by
  have hb := below_al1 w (.cells #[.int .i64 x1, .int .i64 x2] 25)
  have hi := Lib.hid (index_any _ F A n c l (h.below hb) hn x1 x2)
  clear h
  go_enter Try.func32, Try.ntmps32
  go_wp2_with fail
  refine hi.out.mono ?_
  rintro e w1 ⟨r, rfl, hr, b1⟩
  have HR := Lib.hid (And.intro hr (below_next hb b1))
  clear hr b1 hb
  go_wp2_with fail
  go_ret
  exact ⟨by rw [← HR.out.1]; rfl, HR.out.2⟩
end Go.Proofs.Ytaplmioohihmbaa
