/- Made by tools/gen/cn.py. -/
/- Layer 15, the statements: works. -/
import Derived.Test.YteegnehfagkjcaaCnZ
namespace Go.Proofs.Yteegnehfagkjcaa
open Go.ChangeShapes Go.WideShapes Go.ChangeAt Go.RowKit

section
variable {w : World} {F : Nat → Prop} {g : Nat}
theorem ex_none (h : ChIn w F g Cn.ex) (x : Nat) (e : Cn.at_ Cn.ex x = (Ag.none', false)) : Calls Try.prog 14 #[.pointer (some ⟨g, 0, none⟩), .int .u64 (x : Int)] w (fun e w' => e = .returned (.tuple #[.agg #[.int .i64 0, .int .i64 0, .int .i64 0, .int .i64 0], .bool false]) ∧ Below w.heap.size w w') := by
  have k := in_at h (by decide) x
  rw [e] at k
  exact k
theorem ex_some (h : ChIn w F g Cn.ex) (x : Nat) (v : Int) (e : Cn.at_ Cn.ex x = (⟨1, v, v, v⟩, true)) : Calls Try.prog 14 #[.pointer (some ⟨g, 0, none⟩), .int .u64 (x : Int)] w (fun e w' => e = .returned (.tuple #[.agg #[.int .i64 1, .int .i64 v, .int .i64 v, .int .i64 v], .bool true]) ∧ Below w.heap.size w w') := by
  have k := in_at h (by decide) x
  rw [e] at k
  exact k
end
set_option maxRecDepth 100000 in
set_option maxHeartbeats 4000000 in
theorem works_any (w : World) : Calls Try.prog 8 #[] w (BoolP w true) := by
  go_enter Try.func8, Try.ntmps8
  go_wp2_with fail
  refine (example_any w).mono ?_
  rintro e w1 ⟨g, rfl, hin, b1⟩
  have hA1 : Hid (∀ W, Below w1.heap.size w1 W → Calls Try.prog 14 #[.pointer (some ⟨g, 0, none⟩), .int .u64 1] W (fun e w' => e = .returned (.tuple #[.agg #[.int .i64 0, .int .i64 0, .int .i64 0, .int .i64 0], .bool false]) ∧ Below W.heap.size W w')) := Lib.hid fun W hW => ex_none (hin.below hW) 1 rfl
  have hA3 : Hid (∀ W, Below w1.heap.size w1 W → Calls Try.prog 14 #[.pointer (some ⟨g, 0, none⟩), .int .u64 3] W (fun e w' => e = .returned (.tuple #[.agg #[.int .i64 1, .int .i64 5, .int .i64 5, .int .i64 5], .bool true]) ∧ Below W.heap.size W w')) := Lib.hid fun W hW => ex_some (hin.below hW) 3 5 rfl
  have hA6 : Hid (∀ W, Below w1.heap.size w1 W → Calls Try.prog 14 #[.pointer (some ⟨g, 0, none⟩), .int .u64 6] W (fun e w' => e = .returned (.tuple #[.agg #[.int .i64 0, .int .i64 0, .int .i64 0, .int .i64 0], .bool false]) ∧ Below W.heap.size W w')) := Lib.hid fun W hW => ex_none (hin.below hW) 6 rfl
  have hA7 : Hid (∀ W, Below w1.heap.size w1 W → Calls Try.prog 14 #[.pointer (some ⟨g, 0, none⟩), .int .u64 7] W (fun e w' => e = .returned (.tuple #[.agg #[.int .i64 1, .int .i64 9, .int .i64 9, .int .i64 9], .bool true]) ∧ Below W.heap.size W w')) := Lib.hid fun W hW => ex_some (hin.below hW) 7 9 rfl
  have hG1 : Hid (∀ W, Below w1.heap.size w1 W → Calls Try.prog 21 #[.pointer (some ⟨g, 0, none⟩), .int .u64 2, .int .u64 3] W (BoolP W false)) := Lib.hid fun W hW => in_garbage (hin.below hW) (by decide) 2 3
  have hG2 : Hid (∀ W, Below w1.heap.size w1 W → Calls Try.prog 21 #[.pointer (some ⟨g, 0, none⟩), .int .u64 2, .int .u64 4] W (BoolP W true)) := Lib.hid fun W hW => in_garbage (hin.below hW) (by decide) 2 4
  have hG3 : Hid (∀ W, Below w1.heap.size w1 W → Calls Try.prog 21 #[.pointer (some ⟨g, 0, none⟩), .int .u64 4, .int .u64 6] W (BoolP W false)) := Lib.hid fun W hW => in_garbage (hin.below hW) (by decide) 4 6
  have hD : Hid (∀ W, Below w1.heap.size w1 W → Calls Try.prog 27 #[.pointer (some ⟨g, 0, none⟩), .int .u64 2, .int .u64 4] W (MutQ W (fun b => w.heap.size ≤ b) g [Cn.deadV 4, Cn.liveV 7 9] (.bool true))) := Lib.hid fun W hW => in_drop (hin.below hW) (by decide) 2 4
  have B1 := Lib.hid b1
  clear hin b1
  go_wp2_with fail
  refine (hA1.out w1 (Below.refl _ _)).mono ?_
  rintro e w2 ⟨rfl, b2⟩
  have K2 := Lib.hid ((Held.start w1).step b2)
  clear b2
  go_wp2_with fail
  have K3 := K2.out.new #[.int .i64 0, .int .i64 0, .int .i64 0, .int .i64 0] 33
  refine (hA3.out _ K3.1).mono ?_
  rintro e w3 ⟨rfl, b3⟩
  have K4 := Lib.hid (Held.step (l := []) ⟨K3.1, by simp⟩ b3)
  clear b3 K3
  go_wp2_with fail
  have K5 := K4.out.new #[.int .i64 1, .int .i64 5, .int .i64 5, .int .i64 5] 33
  refine (hA6.out _ K5.1).mono ?_
  rintro e w4 ⟨rfl, b4⟩
  have K6 := Lib.hid (K5.step b4)
  clear b4 K5
  go_wp2_with fail
  have K7 := K6.out.new #[.int .i64 0, .int .i64 0, .int .i64 0, .int .i64 0] 33
  refine (hA7.out _ K7.1).mono ?_
  rintro e w5 ⟨rfl, b5⟩
  have K8 := Lib.hid (K7.step b5)
  clear b5 K7
  have K9 := K8.out.new #[.int .i64 1, .int .i64 9, .int .i64 9, .int .i64 9] 33
  have c0 := K9.top.cell 1
  have c1 := K9.drop.drop.top.cell 1
  simp only [List.getElem?_toArray, List.getElem?_cons_zero, List.getElem?_cons_succ] at c0 c1
  have HK9 := Lib.hid K9.1
  clear K9
  go_wp2_with (first
    | (go_at_call 21; (with_reducible refine (hG1.out _ HK9.out).mono ?_); rintro e w6 ⟨rfl, b6⟩; have B6 := Lib.hid (HK9.out.trans (b6.mono HK9.out.size)); clear b6)
    | (go_at_call 21; (with_reducible refine (hG2.out _ B6.out).mono ?_); rintro e w7 ⟨rfl, b7⟩; have B7 := Lib.hid (B6.out.trans (b7.mono B6.out.size)); clear b7)
    | (go_at_call 21; (with_reducible refine (hG3.out _ B7.out).mono ?_); rintro e w8 ⟨rfl, b8⟩; have B8 := Lib.hid (B7.out.trans (b8.mono B7.out.size)); clear b8)
    | (go_at_call 27; (with_reducible refine (hD.out _ B8.out).mono ?_); rintro e w9 ⟨rfl, hin9, t9⟩
       have hG9 : Hid (∀ W, Below w9.heap.size w9 W → Calls Try.prog 21 #[.pointer (some ⟨g, 0, none⟩), .int .u64 4, .int .u64 6] W (BoolP W true)) := Lib.hid fun W hW => in_garbage (hin9.below hW) (by decide) 4 6
       have hL9 : Hid (∀ W, Below w9.heap.size w9 W → Calls Try.prog 23 #[.pointer (some ⟨g, 0, none⟩)] W (IntP W 2)) := Lib.hid fun W hW => in_len (hin9.below hW)
       have B9 := Lib.hid ((Turns.of_below (F := fun b => w.heap.size ≤ b) (below_next B1.out B8.out)).then t9 (fun _ _ e => e) |>.below (Nat.le_refl _) (fun _ e => e))
       clear hin9 t9)
    | (go_at_call 21; (with_reducible refine (hG9.out _ (Below.refl _ _)).mono ?_); rintro e w10 ⟨rfl, b10⟩; have B10 := Lib.hid b10; clear b10)
    | (go_at_call 23; (with_reducible refine (hL9.out _ B10.out).mono ?_); rintro e w11 ⟨rfl, b11⟩; have B11 := Lib.hid (below_next B10.out b11); clear b11)
    | (go_at_call 34; (refine (example_any w11).mono ?_); rintro e w12 ⟨g2, rfl, hin12, b12⟩
       have hT : Hid (Calls Try.prog 29 #[.pointer (some ⟨g2, 0, none⟩), .int .u64 7] w12 (MutQ w12 (fun b => w11.heap.size ≤ b) g2 [Cn.liveV 7 9] (.int .i64 2))) := Lib.hid (in_trim hin12 (by decide) 7)
       have B12 := Lib.hid (below_next B11.out b12)
       clear hin12 b12)
    | (go_at_call 29; (with_reducible refine hT.out.mono ?_); rintro e w13 ⟨rfl, -, t13⟩; have B13 := Lib.hid t13; clear t13))
  go_ret
  refine ⟨rfl, ?_⟩
  have h12 := B9.out.trans (B12.out.mono B9.out.size)
  have h11 := B9.out.trans (B11.out.mono B9.out.size)
  exact ((Turns.of_below (F := fun b => w.heap.size ≤ b) h12).then B13.out (fun b _ e => Nat.le_trans h11.size e)).below (Nat.le_refl _) (fun _ e => e)
end Go.Proofs.Yteegnehfagkjcaa
