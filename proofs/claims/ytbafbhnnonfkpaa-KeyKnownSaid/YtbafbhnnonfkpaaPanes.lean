/- KeyPanes, walked. -/
import Derived.Test.YtbafbhnnonfkpaaKeyP
namespace Go.Proofs.Ytbafbhnnonfkpaa
open Go.ChangeShapes Go.WideShapes Go.ChangeAt Go.RowKit

set_option maxRecDepth 100000 in
set_option maxHeartbeats 2000000 in
theorem panes_any (k : ByteArray) (st en : Int) (s : ByteArray) (w : World) (hst : big st) (hen : big en) : Calls Try.prog 5 #[paneV k st en, .string s] w (TrueP w) := by
  have hbk := Blk.new w 44 #[.string k, .int .i64 st, .int .i64 en]
  have hbe : Below w.heap.size w (w.alloc (.cells #[.string k, .int .i64 st, .int .i64 en] 44)) := (Below.refl _ _).alloc (Nat.le_refl _) _
  have hz : (w.alloc (.cells #[.string k, .int .i64 st, .int .i64 en] 44)).heap.size = w.heap.size + 1 := by simp
  unfold paneV
  obtain ⟨w0, hw0⟩ : ∃ w0, w.alloc (.cells #[.string k, .int .i64 st, .int .i64 en] 44) = w0 := ⟨_, rfl⟩
  rw [hw0] at hbk hbe hz
  have HK := Lib.hid (And.intro hbk (And.intro hbe hz))
  have hc0 := hbk.cell 0
  have hc1 := hbk.cell 1
  have hc2 := hbk.cell 2
  clear hbk hbe hz
  by_cases hsz : k.size ≤ 100 ∧ s.size ≤ 200
  · obtain ⟨hks, hss⟩ := hsz
    have j1 : ¬ (100 : Int) < k.size := by omega
    have j2 : ¬ (200 : Int) < s.size := by omega
    go_enter Try.func5, Try.ntmps5
    go_wp2_with fail
    clear hw0 hc0 hc1 hc2
    have H0 : Held w w0 [(w.heap.size, 44, #[.string k, .int .i64 st, .int .i64 en])] := ⟨HK.out.2.1, by simpa using HK.out.1⟩
    have H0 := Lib.hid (H0.new #[.string k, .int .i64 st, .int .i64 en] 45)
    refine (ofPrimary_any s _ (by omega)).mono ?_
    intro e w1 h
    obtain ⟨k1, s1, e1, p1, rfl, b1⟩ := ofP_val h
    have H1 := Lib.hid ((H0.out.step b1).new #[.string k1, .int .i64 s1, .int .i64 e1] 44)
    clear h b1 H0
    unfold paneV
    go_wp2_with fail
    refine (refOfPrimary_any s _ (by omega)).mono ?_
    intro e w2 h
    obtain ⟨k2, s2, e2, p2, rfl, b2⟩ := ofP_val h
    obtain ⟨rfl, rfl, rfl⟩ := PI.one p1 p2
    have H2 := Lib.hid ((H1.out.step b2).new #[.string k1, .int .i64 s1, .int .i64 e1] 45)
    clear h b2 H1 p1 p2
    unfold paneV
    go_wp2_with fail
    refine (ofSecondary_any s _ (by omega)).mono ?_
    intro e w3 h
    obtain ⟨k3, s3, e3, p3, rfl, b3⟩ := ofS_val h
    have H3 := Lib.hid ((H2.out.step b3).new #[.string k3, .int .i64 s3, .int .i64 e3] 44)
    clear h b3 H2
    unfold paneV
    go_wp2_with fail
    refine (refOfSecondary_any s _ (by omega)).mono ?_
    intro e w4 h
    obtain ⟨k4, s4, e4, p4, rfl, b4⟩ := ofS_val h
    obtain ⟨rfl, rfl, rfl⟩ := PI.one p3 p4
    have H4' := H3.out.step b4
    have hb := H4'.2 (w.heap.size, 44, #[.string k, .int .i64 st, .int .i64 en]) (by simp)
    have hlt := hb.lt
    have hc0 := hb.cell 0
    have hc1 := hb.cell 1
    have hc2 := hb.cell 2
    have H4 := Lib.hid (H4'.new #[.string k3, .int .i64 s3, .int .i64 e3] 45)
    clear h b4 H3 p3 p4 H4' hb
    unfold paneV
    generalize (Ky.parse (nums s) [2, 1, 1]).isSome = ok1
    generalize (Ky.parse (nums s) [1, 2, 1]).isSome = ok2
    go_wp2_with fail
    clear hc0 hc1 hc2 hlt
    refine (primary_any k st en _ (by omega) hst hen).mono ?_
    rintro e w5 ⟨T5, rfl, hT5, hS5, b5⟩
    have hl5 := prim_len k st en (by omega) T5 (.inl hT5)
    have H5 := Lib.hid (H4.out.step b5)
    clear b5 H4 hS5
    go_wp2_with fail
    refine (ofPrimary_any T5 _ hl5).mono ?_
    intro e w6 h
    rw [prim_parse k st en hst hen T5 hT5] at h
    obtain ⟨k6, s6, e6, p6, rfl, b6⟩ := ofP_val h
    obtain ⟨rfl, rfl, rfl⟩ := PI.prim p6
    have H6' := H5.out.step b6
    have hb := H6'.2 (w.heap.size, 44, #[.string k6, .int .i64 s6, .int .i64 e6]) (by simp)
    have hlt := hb.lt
    have hc0 := hb.cell 0
    have hc1 := hb.cell 1
    have hc2 := hb.cell 2
    have H6 := Lib.hid (H6'.new #[.string k6, .int .i64 s6, .int .i64 e6] 44)
    clear h b6 H5 p6 H6' hb hT5 hl5
    unfold paneV
    simp only [Option.isSome_some]
    go_wp2_with fail
    clear hc0 hc1 hc2 hlt
    refine (secondary_any k6 s6 e6 _ (by omega) hst hen).mono ?_
    rintro e w7 ⟨T7, rfl, hT7, hS7, b7⟩
    have hl7 := prim_len k6 s6 e6 (by omega) T7 (.inr hT7)
    have H7 := Lib.hid (H6.out.step b7)
    clear b7 H6 hS7
    go_wp2_with fail
    refine (ofSecondary_any T7 _ hl7).mono ?_
    intro e w8 h
    rw [sec_parse k6 s6 e6 hst hen T7 hT7] at h
    obtain ⟨k8, s8, e8, p8, rfl, b8⟩ := ofS_val h
    obtain ⟨rfl, rfl, rfl⟩ := PI.sec p8
    have H8 := Lib.hid ((H7.out.step b8).new #[.string k8, .int .i64 s8, .int .i64 e8] 44)
    clear h b8 H7 p8 hT7 hl7 H0
    unfold paneV
    simp only [Option.isSome_some]
    obtain ⟨X, hX⟩ : ∃ X, w8.alloc (.cells #[.string k8, .int .i64 s8, .int .i64 e8] 44) = X := ⟨_, rfl⟩
    rw [hX] at H8
    have HC : Hid (∀ W, Below X.heap.size X W → (W.cell? ⟨w.heap.size, 0, none⟩ = some (.string k8) ∧ W.cell? ⟨w.heap.size, 1, none⟩ = some (.int .i64 s8) ∧ W.cell? ⟨w.heap.size, 2, none⟩ = some (.int .i64 e8) ∧ W.cell? ⟨w0.heap.size, 0, none⟩ = some (.string k8) ∧ W.cell? ⟨w0.heap.size, 1, none⟩ = some (.int .i64 s8) ∧ W.cell? ⟨w0.heap.size, 2, none⟩ = some (.int .i64 e8)) ∧ W.cell? ⟨w6.heap.size, 0, none⟩ = some (.string k8) ∧ W.cell? ⟨w6.heap.size, 1, none⟩ = some (.int .i64 s8) ∧ W.cell? ⟨w6.heap.size, 2, none⟩ = some (.int .i64 e8) ∧ W.cell? ⟨w8.heap.size, 0, none⟩ = some (.string k8) ∧ W.cell? ⟨w8.heap.size, 1, none⟩ = some (.int .i64 s8) ∧ W.cell? ⟨w8.heap.size, 2, none⟩ = some (.int .i64 e8)) := Lib.hid fun W hW => by
      have h := H8.out.step (W' := W) hW
      have a1 := h.2 (w.heap.size, 44, #[.string k8, .int .i64 s8, .int .i64 e8]) (by simp)
      have a2 := h.2 (w0.heap.size, 45, #[.string k8, .int .i64 s8, .int .i64 e8]) (by simp)
      have a3 := h.2 (w6.heap.size, 44, #[.string k8, .int .i64 s8, .int .i64 e8]) (by simp)
      have a4 := h.2 (w8.heap.size, 44, #[.string k8, .int .i64 s8, .int .i64 e8]) (by simp)
      exact ⟨⟨a1.cell 0, a1.cell 1, a1.cell 2, a2.cell 0, a2.cell 1, a2.cell 2⟩, a3.cell 0, a3.cell 1, a3.cell 2, a4.cell 0, a4.cell 1, a4.cell 2⟩
    go_wp2_with fail
    clear hX
    have D0 : Below X.heap.size X X.drew := (Below.refl _ _).drew
    have q1 : ∀ W, (Op.equalIn 10000 44 (.agg #[.string k8, .int .i64 s8, .int .i64 e8]) (.agg #[.string k8, .int .i64 s8, .int .i64 e8])).run Try.prog W = .ok true W := fun W => pane_equal_same k8 s8 e8 W
    have q2 : ∀ W, (binOp .neq 44 (.agg #[.string k8, .int .i64 s8, .int .i64 e8]) (.agg #[.string k8, .int .i64 s8, .int .i64 e8])).run Try.prog W = .ok (.bool false) W := fun W => pane_neq_same k8 s8 e8 W
    have q3 := pane_guard
    have q4 : k8.size ≤ 1000000 := by omega
    go_region_held3 (fun W => (W.cell? ⟨w.heap.size, 0, none⟩ = some (.string k8) ∧ W.cell? ⟨w.heap.size, 1, none⟩ = some (.int .i64 s8) ∧ W.cell? ⟨w.heap.size, 2, none⟩ = some (.int .i64 e8) ∧ W.cell? ⟨w0.heap.size, 0, none⟩ = some (.string k8) ∧ W.cell? ⟨w0.heap.size, 1, none⟩ = some (.int .i64 s8) ∧ W.cell? ⟨w0.heap.size, 2, none⟩ = some (.int .i64 e8)) ∧ W.cell? ⟨w6.heap.size, 0, none⟩ = some (.string k8) ∧ W.cell? ⟨w6.heap.size, 1, none⟩ = some (.int .i64 s8) ∧ W.cell? ⟨w6.heap.size, 2, none⟩ = some (.int .i64 e8) ∧ W.cell? ⟨w8.heap.size, 0, none⟩ = some (.string k8) ∧ W.cell? ⟨w8.heap.size, 1, none⟩ = some (.int .i64 s8) ∧ W.cell? ⟨w8.heap.size, 2, none⟩ = some (.int .i64 e8)) (first | exact HC.out _ D0 | exact HC.out _ D1 | exact HC.out _ D2 | exact HC.out _ D3 | exact HC.out _ D4) (first
      | (go_at_call 27; have _ := D3; (refine (refSecondary_any k8 s8 e8 _ q4 hst hen).mono ?_); rintro x W4 ⟨U4, rfl, hU4, _, b4⟩; obtain rfl := nums_inj (hU4.trans hU3.symm); have D4 := below_next D3 b4; clear D3 b4)
      | (go_at_call 25; have _ := D2; (refine (secondary_any k8 s8 e8 _ q4 hst hen).mono ?_); rintro x W3 ⟨U3, rfl, hU3, _, b3⟩; have D3 := below_next D2 b3; clear D2 b3)
      | (go_at_call 26; have _ := D1; (refine (refPrimary_any k8 s8 e8 _ q4 hst hen).mono ?_); rintro x W2 ⟨U2, rfl, hU2, _, b2⟩; obtain rfl := nums_inj (hU2.trans hU1.symm); have D2 := below_next D1 b2; clear D1 b2)
      | (go_at_call 24; (refine (primary_any k8 s8 e8 _ q4 hst hen).mono ?_); rintro x W1 ⟨U1, rfl, hU1, _, b1⟩; have D1 := below_next D0 b1; clear D0 b1))
    have h := H8.out.step D4
    have a1 := h.2 (w1.heap.size, 44, #[.string k1, .int .i64 s1, .int .i64 e1]) (by simp)
    have a2 := h.2 (w2.heap.size, 45, #[.string k1, .int .i64 s1, .int .i64 e1]) (by simp)
    have a3 := h.2 (w3.heap.size, 44, #[.string k3, .int .i64 s3, .int .i64 e3]) (by simp)
    have a4 := h.2 (w4.heap.size, 45, #[.string k3, .int .i64 s3, .int .i64 e3]) (by simp)
    have c10 : W4.cell? ⟨w1.heap.size, 0, none⟩ = some (.string k1) := a1.cell 0
    have c11 : W4.cell? ⟨w1.heap.size, 1, none⟩ = some (.int .i64 s1) := a1.cell 1
    have c12 : W4.cell? ⟨w1.heap.size, 2, none⟩ = some (.int .i64 e1) := a1.cell 2
    have c20 : W4.cell? ⟨w2.heap.size, 0, none⟩ = some (.string k1) := a2.cell 0
    have c21 : W4.cell? ⟨w2.heap.size, 1, none⟩ = some (.int .i64 s1) := a2.cell 1
    have c22 : W4.cell? ⟨w2.heap.size, 2, none⟩ = some (.int .i64 e1) := a2.cell 2
    have c30 : W4.cell? ⟨w3.heap.size, 0, none⟩ = some (.string k3) := a3.cell 0
    have c31 : W4.cell? ⟨w3.heap.size, 1, none⟩ = some (.int .i64 s3) := a3.cell 1
    have c32 : W4.cell? ⟨w3.heap.size, 2, none⟩ = some (.int .i64 e3) := a3.cell 2
    have c40 : W4.cell? ⟨w4.heap.size, 0, none⟩ = some (.string k3) := a4.cell 0
    have c41 : W4.cell? ⟨w4.heap.size, 1, none⟩ = some (.int .i64 s3) := a4.cell 1
    have c42 : W4.cell? ⟨w4.heap.size, 2, none⟩ = some (.int .i64 e3) := a4.cell 2
    have HB := Lib.hid h.1
    have r1 : ∀ W, (Op.equalIn 10000 44 (.agg #[.string k1, .int .i64 s1, .int .i64 e1]) (.agg #[.string k1, .int .i64 s1, .int .i64 e1])).run Try.prog W = .ok true W := fun W => pane_equal_same k1 s1 e1 W
    have r2 : ∀ W, (Op.equalIn 10000 44 (.agg #[.string k3, .int .i64 s3, .int .i64 e3]) (.agg #[.string k3, .int .i64 s3, .int .i64 e3])).run Try.prog W = .ok true W := fun W => pane_equal_same k3 s3 e3 W
    clear h a1 a2 a3 a4 D4 q1 q2 HC H8 hU1 hU3
    go_wp2_with fail
    refine (works_any W4).mono ?_
    rintro e w9 ⟨rfl, b9⟩
    have B9 := Lib.hid (below_next HB.out b9)
    clear b9 c10 c11 c12 c20 c21 c22 c30 c31 c32 c40 c41 c42
    go_wp2_with fail
    go_ret
    exact ⟨rfl, B9.out⟩
  · go_enter Try.func5, Try.ntmps5
    by_cases hks : k.size ≤ 100
    · have j1 : ¬ (100 : Int) < k.size := by omega
      have j2 : (200 : Int) < s.size := by omega
      go_wp2_with fail
      refine (works_any _).mono ?_
      rintro e w1 ⟨rfl, b1⟩
      go_wp2_with fail
      go_ret
      exact ⟨rfl, HK.out.2.1.trans (b1.mono HK.out.2.1.size)⟩
    · have j1 : (100 : Int) < k.size := by omega
      go_wp2_with fail
      refine (works_any _).mono ?_
      rintro e w1 ⟨rfl, b1⟩
      go_wp2_with fail
      go_ret
      exact ⟨rfl, HK.out.2.1.trans (b1.mono HK.out.2.1.size)⟩
end Go.Proofs.Ytbafbhnnonfkpaa
