/- ArenaNone: an arena that is not there. -/
import Derived.Test.YtgpcpjjdneimfaaDoorArX
namespace Go.Proofs.YtgpcpjjdneimfaaDoor
open Go.ChangeShapes Go.WideShapes Go.ChangeAt Go.RowKit

set_option maxRecDepth 100000 in
theorem lawNone_any (w : World) (hv : Vars w) (x1 x2 : Int) (u0 u1 u2 u3 : Value) : Calls Tryd.prog 6 #[.agg #[.int .i64 x1, .int .i64 x2], .agg #[u0, u1, u2, u3]] w (WorksP w) := by
  obtain ⟨W, a, r, hW, ha, hr, hB, hbox, hnode, hWs⟩ := two_made2 w x1 x2 u0 u1 u2 u3
  have d0 := hbox.cell 0
  have d1 := hbox.cell 1
  simp only [List.getElem?_toArray, List.getElem?_cons_zero, List.getElem?_cons_succ] at d0 d1
  have H := Lib.hid (And.intro hW (And.intro ha (And.intro hr (And.intro hB (And.intro hbox (And.intro hnode hv))))))
  clear hW ha hr hB hbox hnode hWs hv
  go_enter Tryd.func6, Tryd.ntmps6
  go_upto_region 2 with fail
  rw [H.out.1, H.out.2.2.1, H.out.2.1]
  go_wp2_with fail
  refine (arGet_nil _ x1 x2).mono ?_
  rintro e w1 ⟨rfl, b1⟩
  have hH1 : Held w w1 [(r, 36, #[u0, u1, u2, u3]), (a, 42, #[.int .i64 x1, .int .i64 x2])] := Held.step ⟨H.out.2.2.2.1, fun y hy => by
    simp at hy
    rcases hy with rfl | rfl
    · exact H.out.2.2.2.2.2.1
    · exact H.out.2.2.2.2.1⟩ b1
  have B1 := Lib.hid hH1
  clear b1 d0 d1 hH1
  go_upto_region 3 with fail
  obtain ⟨w2, hw2⟩ : ∃ w2, w1.alloc (.cells #[.bool false, .slice none 0 0, .slice none 0 0, .slice none 0 0] 36) = w2 := ⟨_, rfl⟩
  have B2 : Hid (Held w w2 [(r, 36, #[u0, u1, u2, u3]), (a, 42, #[.int .i64 x1, .int .i64 x2])]) := Lib.hid (hw2 ▸ B1.out.step ((Below.refl _ _).alloc (Nat.le_refl _) _))
  rw [hw2]
  obtain ⟨m, hm⟩ : ∃ m, w1.heap.size = m := ⟨_, rfl⟩
  rw [hm]
  clear hw2 hm B1
  go_wp2_with fail
  refine (arLen_nil _).mono ?_
  rintro e w3 ⟨rfl, b3⟩
  have B3 := Lib.hid (B2.out.step b3)
  clear b3 B2
  have hb := B3.out.top
  have hb2 := B3.out.drop.top
  have n0 := hb.cell 0
  have n1 := hb.cell 1
  have n2 := hb.cell 2
  have n3 := hb.cell 3
  simp only [List.getElem?_toArray, List.getElem?_cons_zero, List.getElem?_cons_succ] at n0 n1 n2 n3
  clear hb hb2
  have g1 := handle_guard
  have q1 : ∀ W, (Op.equalIn 10000 42 (.agg #[.int .i64 0, .int .i64 0]) (.agg #[.int .i64 0, .int .i64 0])).run Tryd.prog W = .ok true W := fun W => by simpa using handle_same 0 0 0 0 W
  go_wp2_with fail
  refine (arMake_nil _ u0 u1 u2 u3).mono ?_
  rintro e w4 ⟨rfl, b4⟩
  have B4 := Lib.hid (B3.out.step b4)
  clear b4 B3 n0 n1 n2 n3
  have hb := B4.out.top
  have hb2 := B4.out.drop.top
  have n0 := hb.cell 0
  have n1 := hb.cell 1
  have n2 := hb.cell 2
  have n3 := hb.cell 3
  have m0 := hb2.cell 0
  have m1 := hb2.cell 1
  simp only [List.getElem?_toArray, List.getElem?_cons_zero, List.getElem?_cons_succ] at n0 n1 n2 n3 m0 m1
  clear hb hb2
  go_wp2_with fail
  refine (arPut_nil _ x1 x2 u0 u1 u2 u3).mono ?_
  rintro e w5 ⟨rfl, b5⟩
  have B5 := Lib.hid (B4.out.step b5)
  clear b5 B4 n0 n1 n2 n3 m0 m1
  have hb2 := B5.out.drop.top
  have m0 := hb2.cell 0
  have m1 := hb2.cell 1
  simp only [List.getElem?_toArray, List.getElem?_cons_zero, List.getElem?_cons_succ] at m0 m1
  clear hb2
  go_wp2_with fail
  refine (arFree_nil _ _).mono ?_
  rintro e w6 ⟨rfl, b6⟩
  subst b6
  obtain ⟨w6, hw6⟩ : ∃ w6, w5.alloc (.cells #[.int .i64 x1, .int .i64 x2] 42) = w6 := ⟨_, rfl⟩
  have B6 : Hid (Held w w6 [(r, 36, #[u0, u1, u2, u3]), (a, 42, #[.int .i64 x1, .int .i64 x2])]) := Lib.hid (hw6 ▸ B5.out.step ((Below.refl _ _).alloc (Nat.le_refl _) _))
  rw [hw6]
  obtain ⟨m, hm⟩ : ∃ m, w5.heap.size = m := ⟨_, rfl⟩
  rw [hm]
  clear hw6 hm B5 m0 m1
  have hb2 := B6.out.drop.top
  have m0 := hb2.cell 0
  have m1 := hb2.cell 1
  simp only [List.getElem?_toArray, List.getElem?_cons_zero, List.getElem?_cons_succ] at m0 m1
  clear hb2
  go_wp2_with fail
  refine (arHas_nil _ x1 x2).mono ?_
  rintro e w7 ⟨rfl, b7⟩
  have B7 := Lib.hid (B6.out.step b7)
  clear b7 B6 m0 m1
  go_wp2_with fail
  refine (arUsed_nil _).mono ?_
  rintro e w8 ⟨A8, c8, rfl, -, b8⟩
  have B8 := Lib.hid (B7.out.step b8)
  clear b8 B7
  go_wp2_with fail
  refine (works_any _ (H.out.2.2.2.2.2.2.next B8.out.1)).mono ?_
  rintro e w9 ⟨rfl, b9⟩
  have B9 := Lib.hid (B8.out.step b9)
  clear b9 B8
  go_wp2_with fail
  go_ret
  exact ⟨rfl, B9.out.1⟩
end Go.Proofs.YtgpcpjjdneimfaaDoor
