/- Layer 14, the program: whether a span might be a window. -/
import Derived.Test.YtaplmioohihmbaaWnI
import Derived.Deep.RegionHeld3
namespace Go.Proofs.Ytaplmioohihmbaa
open Go.ChangeShapes Go.WideShapes Go.ChangeAt Go.RowKit

/-- The boxes of the window and of the span that a call is handed. -/
theorem win_boxes (w : World) (T T2 : TypeId) (k s l g a b : Int) : ∃ w0 bx sx, (w.alloc (.cells #[.int .u8 k, .int .i64 s, .int .i64 l, .int .i64 g] T)).alloc (.cells #[.int .i64 a, .int .i64 b] T2) = w0 ∧ w.heap.size = bx ∧ bx + 1 = sx ∧ Below w.heap.size w w0 ∧ sx < w0.heap.size ∧ ∀ X, Below w0.heap.size w0 X → X.cell? ⟨bx, 0, none⟩ = some (.int .u8 k) ∧ X.cell? ⟨bx, 1, none⟩ = some (.int .i64 s) ∧ X.cell? ⟨bx, 2, none⟩ = some (.int .i64 l) ∧ X.cell? ⟨bx, 3, none⟩ = some (.int .i64 g) ∧ X.cell? ⟨sx, 0, none⟩ = some (.int .i64 a) ∧ X.cell? ⟨sx, 1, none⟩ = some (.int .i64 b) := by
  refine ⟨_, _, _, rfl, rfl, rfl, below_al2 _ _ _, by simp, fun X hX => ?_⟩
  have h : Blk (w.alloc (.cells #[.int .u8 k, .int .i64 s, .int .i64 l, .int .i64 g] T)) w.heap.size T _ := Blk.new _ _ _
  have h' := h.below (below_al1 _ (.cells #[.int .i64 a, .int .i64 b] T2)) h.lt
  have hb := h'.below hX h'.lt
  have h2 := Blk.new (w.alloc (.cells #[.int .u8 k, .int .i64 s, .int .i64 l, .int .i64 g] T)) T2 #[.int .i64 a, .int .i64 b]
  have e : (w.alloc (.cells #[.int .u8 k, .int .i64 s, .int .i64 l, .int .i64 g] T)).heap.size = w.heap.size + 1 := by simp
  rw [e] at h2
  have hb2 := h2.below hX h2.lt
  exact ⟨hb.cell 0, hb.cell 1, hb.cell 2, hb.cell 3, hb2.cell 0, hb2.cell 1⟩
set_option maxRecDepth 100000 in
set_option maxHeartbeats 2000000 in
theorem is_gapP (s l g a b : Int) (w : World) : Calls Try.prog 12 #[.agg #[.int .u8 3, .int .i64 s, .int .i64 l, .int .i64 g], .agg #[.int .i64 a, .int .i64 b]] w (ValP w (.bool (Wn.is ⟨3, s, l, g⟩ (a, b)))) := by
  obtain ⟨w0, bx, sx, hw0, hbx, hsx, hbe, hlt, hc⟩ := win_boxes w 23 25 3 s l g a b
  obtain ⟨c0, c1, c2, c3, c4, c5⟩ := hc w0 (Below.refl _ _)
  have hr := fun X => right_any 3 s l g X
  have ht := fun X => isTime_any a X
  have hgap : Wn.right ⟨3, s, l, g⟩ = true → 1 ≤ g ∧ g ≤ 1048576 := fun h => by
    have := Wn.right_gap h rfl
    simp only at this
    omega
  have hti : Wn.isT a = true → -1099511627776 ≤ a ∧ a ≤ 1099511627776 := (Wn.isT_iff a).1
  rw [Wn.is_gap rfl]
  have HB := Lib.hid (And.intro hbe hc)
  clear hbe hc
  generalize Wn.right ⟨3, s, l, g⟩ = q at hr hgap
  generalize Wn.isT a = p at ht hti
  cases q
  · clear hgap hti
    go_enter Try.func12, Try.ntmps12
    go_wp2_with (go_at_call 13; (with_reducible refine (hr _).mono ?_); rintro e w1 ⟨rfl, b1⟩; have B1 := Lib.hid b1; obtain ⟨d0, d1, d2, d3, d4, d5⟩ := HB.out.2 w1 b1; clear b1)
    go_ret
    exact boolP_mk rfl (HB.out.1.trans (B1.out.mono HB.out.1.size))
  · obtain ⟨g1, g2⟩ := hgap rfl
    clear hgap
    cases p
    · clear hti
      go_enter Try.func12, Try.ntmps12
      go_wp2_with (first
        | (go_at_call 13; (with_reducible refine (hr _).mono ?_); rintro e w1 ⟨rfl, b1⟩; have B1 := Lib.hid b1; obtain ⟨d0, d1, d2, d3, d4, d5⟩ := HB.out.2 w1 b1; clear b1)
        | (go_at_call 27; (with_reducible refine (ht _).mono ?_); rintro e w2 ⟨rfl, rfl⟩))
      go_ret
      exact boolP_mk rfl (HB.out.1.trans (B1.out.mono HB.out.1.size))
    · obtain ⟨t1, t2⟩ := hti rfl
      clear hti
      by_cases h1 : a + g ≤ b
      · have h1' : decide (a + g ≤ b) = true := decide_eq_true h1
        have H1 := Lib.hid h1'
        clear h1'
        go_enter Try.func12, Try.ntmps12
        go_wp2_with (first
          | (go_at_call 13; (with_reducible refine (hr _).mono ?_); rintro e w1 ⟨rfl, b1⟩; have B1 := Lib.hid b1; obtain ⟨d0, d1, d2, d3, d4, d5⟩ := HB.out.2 w1 b1; clear b1)
          | (go_at_call 27; (with_reducible refine (ht _).mono ?_); rintro e w2 ⟨rfl, rfl⟩))
        go_ret
        exact boolP_mk (by rw [H1.out]; rfl) (HB.out.1.trans (B1.out.mono HB.out.1.size))
      · have h1' : decide (a + g ≤ b) = false := decide_eq_false h1
        have H1 := Lib.hid h1'
        clear h1'
        go_enter Try.func12, Try.ntmps12
        go_wp2_with (first
          | (go_at_call 13; (with_reducible refine (hr _).mono ?_); rintro e w1 ⟨rfl, b1⟩; have B1 := Lib.hid b1; obtain ⟨d0, d1, d2, d3, d4, d5⟩ := HB.out.2 w1 b1; clear b1)
          | (go_at_call 27; (with_reducible refine (ht _).mono ?_); rintro e w2 ⟨rfl, rfl⟩))
        go_ret
        exact boolP_mk (by rw [H1.out]; rfl) (HB.out.1.trans (B1.out.mono HB.out.1.size))
theorem clampT_eq (a : Int) : clampN a (-1099511627776) 1099511627776 = Wn.clampT a := by
  unfold clampN Wn.clampT
  split <;> split <;> (try split) <;> omega
theorem ofL_len (W : Wd) (t : Int) : (Wn.ofL W t).length ≤ 16 := by
  cases h : (Wn.right W && Wn.isT t)
  · rw [Wn.ofL_none h]; simp
  · rw [Bool.and_eq_true] at h
    by_cases h3 : W.k = 3
    · rw [Wn.ofL_gap h.1 h.2 h3]; simp
    · obtain ⟨n, st, hs⟩ := Wn.right_std h.1 h3
      rw [Wn.ofL_std h.1 h.2 h3 hs, Wn.wins_len]
      exact hs.n_hi
set_option maxRecDepth 100000 in
set_option maxHeartbeats 4000000 in
theorem is_any (k s l g a b : Int) (w : World) : Calls Try.prog 12 #[.agg #[.int .u8 k, .int .i64 s, .int .i64 l, .int .i64 g], .agg #[.int .i64 a, .int .i64 b]] w (ValP w (.bool (Wn.is ⟨k, s, l, g⟩ (a, b)))) := by
  by_cases h3 : k = 3
  · subst h3
    exact is_gapP s l g a b w
  have e : Wn.is ⟨k, s, l, g⟩ (a, b) = (Wn.ofL ⟨k, s, l, g⟩ (Wn.clampT a)).contains (a, b) := by unfold Wn.is; rw [if_neg h3]
  rw [e]
  clear e
  obtain ⟨w0, bx, sx, hw0, hbx, hsx, hbe, hlt, hc⟩ := win_boxes w 23 25 k s l g a b
  obtain ⟨c0, c1, c2, c3, c4, c5⟩ := hc w0 (Below.refl _ _)
  have hcl := fun X => clamp_any a (-1099511627776) 1099511627776 X
  rw [clampT_eq] at hcl
  obtain ⟨T, hT⟩ : ∃ T, Wn.clampT a = T := ⟨_, rfl⟩
  rw [hT] at hcl ⊢
  have HO : Hid (∀ X, Calls Try.prog 10 #[.agg #[.int .u8 k, .int .i64 s, .int .i64 l, .int .i64 g], .int .i64 T] X (SpP X 25 (Wn.ofL ⟨k, s, l, g⟩ T))) := Lib.hid fun X => of_any k s l g T X
  have hlen := ofL_len ⟨k, s, l, g⟩ T
  obtain ⟨ls, hls⟩ : ∃ ls, Wn.ofL ⟨k, s, l, g⟩ T = ls := ⟨_, rfl⟩
  rw [hls] at HO hlen ⊢
  have hk3 : (k == 3) = false := beq_eq_false_iff_ne.mpr h3
  obtain ⟨r, hr⟩ : ∃ r, ls.contains (a, b) = r := ⟨_, rfl⟩
  rw [hr]
  have HR := Lib.hid hr
  clear hr
  have HB := Lib.hid (And.intro hbe (And.intro hc hlen))
  clear hbe hc hlen hT hls h3
  go_enter Try.func12, Try.ntmps12
  go_wp2_with (go_at_call 31; (with_reducible refine (hcl _).mono ?_); rintro e w1 ⟨rfl, rfl⟩)
  have D : Hid (Below w0.heap.size w0 w0.drew) := Lib.hid (Below.refl _ _).drew
  clear c0 c1 c2 c3 c4 c5 hw0
  go_region_held3 (fun X => X.cell? ⟨bx, 0, none⟩ = some (.int .u8 k) ∧ X.cell? ⟨bx, 1, none⟩ = some (.int .i64 s) ∧ X.cell? ⟨bx, 2, none⟩ = some (.int .i64 l) ∧ X.cell? ⟨bx, 3, none⟩ = some (.int .i64 g) ∧ X.cell? ⟨sx, 0, none⟩ = some (.int .i64 a) ∧ X.cell? ⟨sx, 1, none⟩ = some (.int .i64 b)) (exact HB.out.2.1 _ D.out)
    (first
      | (go_at_call 10; (with_reducible refine (HO.out _).mono ?_); rintro e X ⟨A, c, rfl, ho, bb⟩; replace D : Hid (Below w0.heap.size w0 X) := Lib.hid (below_next D.out bb); have HCo : Hid (Calls Try.prog 32 #[.slice A ls.length c, .agg #[.int .i64 a, .int .i64 b]] X (ValP X (.bool r))) := Lib.hid (by rw [← HR.out]; exact contains_any X _ A ls.length c ls (Cells.of_own ho) (by have := HB.out.2.2; omega) a b); clear ho bb)
      | (go_at_call 32; (with_reducible refine HCo.out.mono ?_); rintro e Y ⟨rfl, bb⟩; replace D : Hid (Below w0.heap.size w0 Y) := Lib.hid (below_next D.out bb); clear bb))
  go_wp2_with fail
  go_ret
  exact ⟨rfl, HB.out.1.trans (D.out.mono HB.out.1.size)⟩
end Go.Proofs.Ytaplmioohihmbaa
