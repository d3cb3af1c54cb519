/- Layer 10's law: its examples; filters and panes as the reference has them; few. Made by tools/gen/bow.py. -/
import Derived.Test.YtponelbfddfliaaBoB
import Derived.Test.YtponelbfddfliaaHeld
namespace Go.Proofs.Ytponelbfddfliaa
open Go.ChangeShapes Go.WideShapes Go.ChangeAt Go.RowKit

def TrueP (w : World) (e : Ending) (w' : World) : Prop := e = .returned (.bool true) ∧ Below w.heap.size w w'
theorem ex0 (w : World) : Calls Try.prog 19 #[.agg #[.int .u8 1, .string ⟨#[97]⟩, .string ⟨#[]⟩, .int .i64 5, .int .i64 0], .agg #[.string ⟨#[97]⟩, .int .i64 0, .int .i64 5]] w (PartP w (.bool true)) := by
  have h := has_any (Fl.mk 1 ⟨#[97]⟩ ⟨#[]⟩ 5 0) (Pn.mk ⟨#[97]⟩ 0 5) w
  rw [show (Fl.mk 1 ⟨#[97]⟩ ⟨#[]⟩ 5 0).has (Pn.mk ⟨#[97]⟩ 0 5) = true by decide +kernel] at h
  exact h
theorem ex1 (w : World) : Calls Try.prog 19 #[.agg #[.int .u8 1, .string ⟨#[97]⟩, .string ⟨#[]⟩, .int .i64 5, .int .i64 0], .agg #[.string ⟨#[97]⟩, .int .i64 0, .int .i64 6]] w (PartP w (.bool false)) := by
  have h := has_any (Fl.mk 1 ⟨#[97]⟩ ⟨#[]⟩ 5 0) (Pn.mk ⟨#[97]⟩ 0 6) w
  rw [show (Fl.mk 1 ⟨#[97]⟩ ⟨#[]⟩ 5 0).has (Pn.mk ⟨#[97]⟩ 0 6) = false by decide +kernel] at h
  exact h
theorem ex2 (w : World) : Calls Try.prog 19 #[.agg #[.int .u8 1, .string ⟨#[97]⟩, .string ⟨#[]⟩, .int .i64 5, .int .i64 0], .agg #[.string ⟨#[98]⟩, .int .i64 0, .int .i64 5]] w (PartP w (.bool false)) := by
  have h := has_any (Fl.mk 1 ⟨#[97]⟩ ⟨#[]⟩ 5 0) (Pn.mk ⟨#[98]⟩ 0 5) w
  rw [show (Fl.mk 1 ⟨#[97]⟩ ⟨#[]⟩ 5 0).has (Pn.mk ⟨#[98]⟩ 0 5) = false by decide +kernel] at h
  exact h
theorem ex3 (w : World) : Calls Try.prog 19 #[.agg #[.int .u8 2, .string ⟨#[97]⟩, .string ⟨#[99]⟩, .int .i64 0, .int .i64 0], .agg #[.string ⟨#[97, 98]⟩, .int .i64 0, .int .i64 0]] w (PartP w (.bool true)) := by
  have h := has_any (Fl.mk 2 ⟨#[97]⟩ ⟨#[99]⟩ 0 0) (Pn.mk ⟨#[97, 98]⟩ 0 0) w
  rw [show (Fl.mk 2 ⟨#[97]⟩ ⟨#[99]⟩ 0 0).has (Pn.mk ⟨#[97, 98]⟩ 0 0) = true by decide +kernel] at h
  exact h
theorem ex4 (w : World) : Calls Try.prog 19 #[.agg #[.int .u8 2, .string ⟨#[97]⟩, .string ⟨#[99]⟩, .int .i64 0, .int .i64 0], .agg #[.string ⟨#[99]⟩, .int .i64 0, .int .i64 0]] w (PartP w (.bool false)) := by
  have h := has_any (Fl.mk 2 ⟨#[97]⟩ ⟨#[99]⟩ 0 0) (Pn.mk ⟨#[99]⟩ 0 0) w
  rw [show (Fl.mk 2 ⟨#[97]⟩ ⟨#[99]⟩ 0 0).has (Pn.mk ⟨#[99]⟩ 0 0) = false by decide +kernel] at h
  exact h
theorem ex5 (w : World) : Calls Try.prog 19 #[.agg #[.int .u8 2, .string ⟨#[97]⟩, .string ⟨#[99]⟩, .int .i64 0, .int .i64 0], .agg #[.string ⟨#[65]⟩, .int .i64 0, .int .i64 0]] w (PartP w (.bool false)) := by
  have h := has_any (Fl.mk 2 ⟨#[97]⟩ ⟨#[99]⟩ 0 0) (Pn.mk ⟨#[65]⟩ 0 0) w
  rw [show (Fl.mk 2 ⟨#[97]⟩ ⟨#[99]⟩ 0 0).has (Pn.mk ⟨#[65]⟩ 0 0) = false by decide +kernel] at h
  exact h
theorem ex6 (w : World) : Calls Try.prog 19 #[.agg #[.int .u8 2, .string ⟨#[98]⟩, .string ⟨#[]⟩, .int .i64 0, .int .i64 0], .agg #[.string ⟨#[122]⟩, .int .i64 0, .int .i64 0]] w (PartP w (.bool true)) := by
  have h := has_any (Fl.mk 2 ⟨#[98]⟩ ⟨#[]⟩ 0 0) (Pn.mk ⟨#[122]⟩ 0 0) w
  rw [show (Fl.mk 2 ⟨#[98]⟩ ⟨#[]⟩ 0 0).has (Pn.mk ⟨#[122]⟩ 0 0) = true by decide +kernel] at h
  exact h
theorem ex7 (w : World) : Calls Try.prog 19 #[.agg #[.int .u8 2, .string ⟨#[98]⟩, .string ⟨#[]⟩, .int .i64 0, .int .i64 0], .agg #[.string ⟨#[97]⟩, .int .i64 0, .int .i64 0]] w (PartP w (.bool false)) := by
  have h := has_any (Fl.mk 2 ⟨#[98]⟩ ⟨#[]⟩ 0 0) (Pn.mk ⟨#[97]⟩ 0 0) w
  rw [show (Fl.mk 2 ⟨#[98]⟩ ⟨#[]⟩ 0 0).has (Pn.mk ⟨#[97]⟩ 0 0) = false by decide +kernel] at h
  exact h
theorem ex8 (w : World) : Calls Try.prog 19 #[.agg #[.int .u8 3, .string ⟨#[]⟩, .string ⟨#[]⟩, .int .i64 5, .int .i64 7], .agg #[.string ⟨#[]⟩, .int .i64 0, .int .i64 5]] w (PartP w (.bool true)) := by
  have h := has_any (Fl.mk 3 ⟨#[]⟩ ⟨#[]⟩ 5 7) (Pn.mk ⟨#[]⟩ 0 5) w
  rw [show (Fl.mk 3 ⟨#[]⟩ ⟨#[]⟩ 5 7).has (Pn.mk ⟨#[]⟩ 0 5) = true by decide +kernel] at h
  exact h
theorem ex9 (w : World) : Calls Try.prog 19 #[.agg #[.int .u8 3, .string ⟨#[]⟩, .string ⟨#[]⟩, .int .i64 5, .int .i64 7], .agg #[.string ⟨#[]⟩, .int .i64 0, .int .i64 6]] w (PartP w (.bool true)) := by
  have h := has_any (Fl.mk 3 ⟨#[]⟩ ⟨#[]⟩ 5 7) (Pn.mk ⟨#[]⟩ 0 6) w
  rw [show (Fl.mk 3 ⟨#[]⟩ ⟨#[]⟩ 5 7).has (Pn.mk ⟨#[]⟩ 0 6) = true by decide +kernel] at h
  exact h
theorem ex10 (w : World) : Calls Try.prog 19 #[.agg #[.int .u8 3, .string ⟨#[]⟩, .string ⟨#[]⟩, .int .i64 5, .int .i64 7], .agg #[.string ⟨#[]⟩, .int .i64 0, .int .i64 7]] w (PartP w (.bool false)) := by
  have h := has_any (Fl.mk 3 ⟨#[]⟩ ⟨#[]⟩ 5 7) (Pn.mk ⟨#[]⟩ 0 7) w
  rw [show (Fl.mk 3 ⟨#[]⟩ ⟨#[]⟩ 5 7).has (Pn.mk ⟨#[]⟩ 0 7) = false by decide +kernel] at h
  exact h
theorem exr_a (w : World) : Calls Try.prog 20 #[.agg #[.int .u8 1, .string ⟨#[97]⟩, .string ⟨#[]⟩, .int .i64 5, .int .i64 0]] w (PartP w (.bool true)) := by
  have h := right_any (Fl.mk 1 ⟨#[97]⟩ ⟨#[]⟩ 5 0) w
  rw [show (Fl.mk 1 ⟨#[97]⟩ ⟨#[]⟩ 5 0).right = true by decide +kernel] at h
  exact h
theorem exr_b (w : World) : Calls Try.prog 20 #[.agg #[.int .u8 2, .string ⟨#[97]⟩, .string ⟨#[99]⟩, .int .i64 0, .int .i64 0]] w (PartP w (.bool true)) := by
  have h := right_any (Fl.mk 2 ⟨#[97]⟩ ⟨#[99]⟩ 0 0) w
  rw [show (Fl.mk 2 ⟨#[97]⟩ ⟨#[99]⟩ 0 0).right = true by decide +kernel] at h
  exact h
theorem exr_c (w : World) : Calls Try.prog 20 #[.agg #[.int .u8 2, .string ⟨#[98]⟩, .string ⟨#[]⟩, .int .i64 0, .int .i64 0]] w (PartP w (.bool true)) := by
  have h := right_any (Fl.mk 2 ⟨#[98]⟩ ⟨#[]⟩ 0 0) w
  rw [show (Fl.mk 2 ⟨#[98]⟩ ⟨#[]⟩ 0 0).right = true by decide +kernel] at h
  exact h
theorem exr_d (w : World) : Calls Try.prog 20 #[.agg #[.int .u8 3, .string ⟨#[]⟩, .string ⟨#[]⟩, .int .i64 5, .int .i64 7]] w (PartP w (.bool true)) := by
  have h := right_any (Fl.mk 3 ⟨#[]⟩ ⟨#[]⟩ 5 7) w
  rw [show (Fl.mk 3 ⟨#[]⟩ ⟨#[]⟩ 5 7).right = true by decide +kernel] at h
  exact h
set_option maxRecDepth 100000 in
set_option maxHeartbeats 4000000 in
theorem works_any (w : World) : Calls Try.prog 9 #[] w (TrueP w) := by
  go_enter Try.func9, Try.ntmps9
  go_wp2_with fail
  refine (ofPoint_any ⟨#[97]⟩ 5 _).mono ?_
  rintro e w1 ⟨rfl, b1⟩
  have B1 := b1
  go_wp2_with fail
  refine (ofRange_any ⟨#[97]⟩ ⟨#[99]⟩ _).mono ?_
  rintro e w2 ⟨rfl, b2⟩
  have B2 := below_next B1 b2
  go_wp2_with fail
  refine (ofRange_any ⟨#[98]⟩ ⟨#[]⟩ _).mono ?_
  rintro e w3 ⟨rfl, b3⟩
  have B3 := below_next B2 b3
  go_wp2_with fail
  refine (ofEnds_any 5 7 _).mono ?_
  rintro e w4 ⟨rfl, b4⟩
  have B4 := below_next B3 b4
  have H4 := Lib.hid ((((((Held.start w).step B4).new #[.int .u8 1, .string ⟨#[97]⟩, .string ⟨#[]⟩, .int .i64 5, .int .i64 0] 23).new #[.int .u8 2, .string ⟨#[97]⟩, .string ⟨#[99]⟩, .int .i64 0, .int .i64 0] 23).new #[.int .u8 2, .string ⟨#[98]⟩, .string ⟨#[]⟩, .int .i64 0, .int .i64 0] 23).new #[.int .u8 3, .string ⟨#[]⟩, .string ⟨#[]⟩, .int .i64 5, .int .i64 7] 23)
  obtain ⟨W0, hW0⟩ : ∃ W, ((((w4.alloc (.cells #[.int .u8 1, .string ⟨#[97]⟩, .string ⟨#[]⟩, .int .i64 5, .int .i64 0] 23)).alloc (.cells #[.int .u8 2, .string ⟨#[97]⟩, .string ⟨#[99]⟩, .int .i64 0, .int .i64 0] 23)).alloc (.cells #[.int .u8 2, .string ⟨#[98]⟩, .string ⟨#[]⟩, .int .i64 0, .int .i64 0] 23)).alloc (.cells #[.int .u8 3, .string ⟨#[]⟩, .string ⟨#[]⟩, .int .i64 5, .int .i64 7] 23)) = W := ⟨_, rfl⟩
  rw [hW0] at H4
  have HC : Hid (∀ W, Below W0.heap.size W0 W → (W.cell? ⟨w4.heap.size, 0, none⟩ = some (.int .u8 1) ∧ W.cell? ⟨w4.heap.size, 1, none⟩ = some (.string ⟨#[97]⟩) ∧ W.cell? ⟨w4.heap.size, 2, none⟩ = some (.string ⟨#[]⟩) ∧ W.cell? ⟨w4.heap.size, 3, none⟩ = some (.int .i64 5) ∧ W.cell? ⟨w4.heap.size, 4, none⟩ = some (.int .i64 0)) ∧ (W.cell? ⟨w4.heap.size + 1, 0, none⟩ = some (.int .u8 2) ∧ W.cell? ⟨w4.heap.size + 1, 1, none⟩ = some (.string ⟨#[97]⟩) ∧ W.cell? ⟨w4.heap.size + 1, 2, none⟩ = some (.string ⟨#[99]⟩) ∧ W.cell? ⟨w4.heap.size + 1, 3, none⟩ = some (.int .i64 0) ∧ W.cell? ⟨w4.heap.size + 1, 4, none⟩ = some (.int .i64 0)) ∧ (W.cell? ⟨w4.heap.size + 2, 0, none⟩ = some (.int .u8 2) ∧ W.cell? ⟨w4.heap.size + 2, 1, none⟩ = some (.string ⟨#[98]⟩) ∧ W.cell? ⟨w4.heap.size + 2, 2, none⟩ = some (.string ⟨#[]⟩) ∧ W.cell? ⟨w4.heap.size + 2, 3, none⟩ = some (.int .i64 0) ∧ W.cell? ⟨w4.heap.size + 2, 4, none⟩ = some (.int .i64 0)) ∧ (W.cell? ⟨w4.heap.size + 3, 0, none⟩ = some (.int .u8 3) ∧ W.cell? ⟨w4.heap.size + 3, 1, none⟩ = some (.string ⟨#[]⟩) ∧ W.cell? ⟨w4.heap.size + 3, 2, none⟩ = some (.string ⟨#[]⟩) ∧ W.cell? ⟨w4.heap.size + 3, 3, none⟩ = some (.int .i64 5) ∧ W.cell? ⟨w4.heap.size + 3, 4, none⟩ = some (.int .i64 7))) := Lib.hid fun W hW => by
    have h := (H4.out.step hW).2
    simp only [World.alloc, Array.size_push, List.mem_cons, List.not_mem_nil, or_false, forall_eq_or_imp, forall_eq] at h
    obtain ⟨hd, hc, hb, ha⟩ := h
    refine ⟨?_, ?_, ?_, ?_⟩
    · exact ⟨ha.cell 0, ha.cell 1, ha.cell 2, ha.cell 3, ha.cell 4⟩
    · exact ⟨hb.cell 0, hb.cell 1, hb.cell 2, hb.cell 3, hb.cell 4⟩
    · exact ⟨hc.cell 0, hc.cell 1, hc.cell 2, hc.cell 3, hc.cell 4⟩
    · exact ⟨hd.cell 0, hd.cell 1, hd.cell 2, hd.cell 3, hd.cell 4⟩
  have E0 : Below W0.heap.size W0 W0 := Below.refl _ _
  obtain ⟨c0, c1, c2, c3, c4⟩ := (HC.out _ E0).1
  go_wp2_with fail
  clear c0 c1 c2 c3 c4
  clear hW0
  refine (ex0 _).mono ?_
  rintro e v1 ⟨rfl, d1⟩
  have E1 := below_next E0 d1
  obtain ⟨c0, c1, c2, c3, c4⟩ := (HC.out _ E1).1
  go_wp2_with fail
  clear c0 c1 c2 c3 c4
  refine (ex1 _).mono ?_
  rintro e v2 ⟨rfl, d2⟩
  have E2 := below_next E1 d2
  obtain ⟨c0, c1, c2, c3, c4⟩ := (HC.out _ E2).1
  go_wp2_with fail
  clear c0 c1 c2 c3 c4
  refine (ex2 _).mono ?_
  rintro e v3 ⟨rfl, d3⟩
  have E3 := below_next E2 d3
  obtain ⟨c0, c1, c2, c3, c4⟩ := (HC.out _ E3).2.1
  go_wp2_with fail
  clear c0 c1 c2 c3 c4
  refine (ex3 _).mono ?_
  rintro e v4 ⟨rfl, d4⟩
  have E4 := below_next E3 d4
  obtain ⟨c0, c1, c2, c3, c4⟩ := (HC.out _ E4).2.1
  go_wp2_with fail
  clear c0 c1 c2 c3 c4
  refine (ex4 _).mono ?_
  rintro e v5 ⟨rfl, d5⟩
  have E5 := below_next E4 d5
  obtain ⟨c0, c1, c2, c3, c4⟩ := (HC.out _ E5).2.1
  go_wp2_with fail
  clear c0 c1 c2 c3 c4
  refine (ex5 _).mono ?_
  rintro e v6 ⟨rfl, d6⟩
  have E6 := below_next E5 d6
  obtain ⟨c0, c1, c2, c3, c4⟩ := (HC.out _ E6).2.2.1
  go_wp2_with fail
  clear c0 c1 c2 c3 c4
  refine (ex6 _).mono ?_
  rintro e v7 ⟨rfl, d7⟩
  have E7 := below_next E6 d7
  obtain ⟨c0, c1, c2, c3, c4⟩ := (HC.out _ E7).2.2.1
  go_wp2_with fail
  clear c0 c1 c2 c3 c4
  refine (ex7 _).mono ?_
  rintro e v8 ⟨rfl, d8⟩
  have E8 := below_next E7 d8
  obtain ⟨c0, c1, c2, c3, c4⟩ := (HC.out _ E8).2.2.2
  go_wp2_with fail
  clear c0 c1 c2 c3 c4
  refine (ex8 _).mono ?_
  rintro e v9 ⟨rfl, d9⟩
  have E9 := below_next E8 d9
  obtain ⟨c0, c1, c2, c3, c4⟩ := (HC.out _ E9).2.2.2
  go_wp2_with fail
  clear c0 c1 c2 c3 c4
  refine (ex9 _).mono ?_
  rintro e v10 ⟨rfl, d10⟩
  have E10 := below_next E9 d10
  obtain ⟨c0, c1, c2, c3, c4⟩ := (HC.out _ E10).2.2.2
  go_wp2_with fail
  clear c0 c1 c2 c3 c4
  refine (ex10 _).mono ?_
  rintro e v11 ⟨rfl, d11⟩
  have E11 := below_next E10 d11
  obtain ⟨c0, c1, c2, c3, c4⟩ := (HC.out _ E11).1
  go_wp2_with fail
  clear c0 c1 c2 c3 c4
  refine (exr_a _).mono ?_
  rintro e v12 ⟨rfl, d12⟩
  have E12 := below_next E11 d12
  obtain ⟨c0, c1, c2, c3, c4⟩ := (HC.out _ E12).2.1
  go_wp2_with fail
  clear c0 c1 c2 c3 c4
  refine (exr_b _).mono ?_
  rintro e v13 ⟨rfl, d13⟩
  have E13 := below_next E12 d13
  obtain ⟨c0, c1, c2, c3, c4⟩ := (HC.out _ E13).2.2.1
  go_wp2_with fail
  clear c0 c1 c2 c3 c4
  refine (exr_c _).mono ?_
  rintro e v14 ⟨rfl, d14⟩
  have E14 := below_next E13 d14
  obtain ⟨c0, c1, c2, c3, c4⟩ := (HC.out _ E14).2.2.2
  go_wp2_with fail
  clear c0 c1 c2 c3 c4
  refine (exr_d _).mono ?_
  rintro e v15 ⟨rfl, d15⟩
  have E15 := below_next E14 d15
  go_wp2_with fail
  go_ret
  exact ⟨rfl, H4.out.1.trans (E15.mono H4.out.1.size)⟩
set_option maxRecDepth 100000 in
set_option maxHeartbeats 1000000 in
theorem lref_any (k : Int) (K T : ByteArray) (l m : Int) (w : World) : Calls Try.prog 13 #[.agg #[.int .u8 k, .string K, .string T, .int .i64 l, .int .i64 m]] w (PartP w (.agg #[.int .u8 k, .string K, .string T, .int .i64 l, .int .i64 m])) := by
  go_enter Try.func13, Try.ntmps13
  go_wp2_with fail
  refine bodyPost_ret (v := .agg #[.int .u8 k, .string K, .string T, .int .i64 l, .int .i64 m]) ?_ rfl ⟨rfl, ?_⟩
  · simp [results, Try.results13, go_sem]
  · exact below_al2 _ _ _
theorem lpane_any (k : ByteArray) (s e : Int) (w : World) : Calls Try.prog 11 #[.agg #[.string k, .int .i64 s, .int .i64 e]] w (PartP w (.agg #[.string k, .int .i64 s, .int .i64 e])) := by
  go_enter Try.func11, Try.ntmps11
  go_wp2_with fail
  refine bodyPost_ret (v := .agg #[.string k, .int .i64 s, .int .i64 e]) ?_ rfl ⟨rfl, ?_⟩
  · simp [results, Try.results11, go_sem]
  · exact below_al2 _ _ _
def fewB (f : Fl) (p : Pn) : Bool := decide (f.K.size ≤ 100) && (decide (f.T.size ≤ 100) && decide (p.k.size ≤ 100))
set_option maxRecDepth 100000 in
set_option maxHeartbeats 1000000 in
theorem few_any (fk : Int) (fK fT : ByteArray) (fl fm : Int) (k : ByteArray) (s e : Int) (w : World) : Calls Try.prog 10 #[.agg #[.int .u8 fk, .string fK, .string fT, .int .i64 fl, .int .i64 fm], .agg #[.string k, .int .i64 s, .int .i64 e]] w (PartP w (.bool (decide (fK.size ≤ 100) && (decide (fT.size ≤ 100) && decide (k.size ≤ 100))))) := by
  have h1 : decide ((fK.size : Int) ≤ 100) = decide (fK.size ≤ 100) := by rw [decide_eq_decide]; omega
  have h2 : decide ((fT.size : Int) ≤ 100) = decide (fT.size ≤ 100) := by rw [decide_eq_decide]; omega
  have h3 : decide ((k.size : Int) ≤ 100) = decide (k.size ≤ 100) := by rw [decide_eq_decide]; omega
  rw [← h1, ← h2, ← h3]
  clear h1 h2 h3
  go_enter Try.func10, Try.ntmps10
  go_wp2_with fail
  all_goals (go_ret; exact ⟨by first | (simp_all; done) | (simp_all; omega), below_al2 _ _ _⟩)
end Go.Proofs.Ytponelbfddfliaa
