/- Layer 14, the reference: whether a window is right; the windows of a time. -/
import Derived.Test.YtaplmioohihmbaaWnF
namespace Go.Proofs.Ytaplmioohihmbaa
open Go.ChangeShapes Go.WideShapes Go.ChangeAt Go.RowKit

theorem boolP_mk {w w' : World} {b c : Bool} (h : c = b) (hb : Below w.heap.size w w') : ValP w (.bool b) (.returned (.bool c)) w' := ⟨by rw [h], hb⟩
set_option maxRecDepth 100000 in
set_option maxHeartbeats 2000000 in
theorem refRight1_any (s l g : Int) (w : World) : Calls Try.prog 14 #[.agg #[.int .u8 1, .int .i64 s, .int .i64 l, .int .i64 g]] w (ValP w (.bool (Wn.right ⟨1, s, l, g⟩))) := by
  have hn := fun X => number_any s X
  have e : Wn.right ⟨1, s, l, g⟩ = (Wn.number s && (l == 0) && (g == 0)) := rfl
  rw [e]
  clear e
  generalize Wn.number s = q at hn
  cases q
  · go_enter Try.func14, Try.ntmps14
    go_wp2_with (go_at_call 36; (with_reducible refine (hn _).mono ?_); rintro e w1 ⟨rfl, rfl⟩)
    go_ret
    exact boolP_mk rfl (below_al1 _ _)
  · by_cases hl : l = 0
    · subst hl
      go_enter Try.func14, Try.ntmps14
      go_wp2_with (go_at_call 36; (with_reducible refine (hn _).mono ?_); rintro e w1 ⟨rfl, rfl⟩)
      go_ret
      exact boolP_mk rfl (below_al1 _ _)
    · have hl' : (l == 0) = false := beq_eq_false_iff_ne.mpr hl
      go_enter Try.func14, Try.ntmps14
      go_wp2_with (go_at_call 36; (with_reducible refine (hn _).mono ?_); rintro e w1 ⟨rfl, rfl⟩)
      go_ret
      exact boolP_mk (by rw [hl']; rfl) (below_al1 _ _)
set_option maxRecDepth 100000 in
set_option maxHeartbeats 2000000 in
theorem refRight3_any (s l g : Int) (w : World) : Calls Try.prog 14 #[.agg #[.int .u8 3, .int .i64 s, .int .i64 l, .int .i64 g]] w (ValP w (.bool (Wn.right ⟨3, s, l, g⟩))) := by
  have hn := fun X => number_any g X
  have e : Wn.right ⟨3, s, l, g⟩ = (Wn.number g && (s == 0) && (l == 0)) := rfl
  rw [e]
  clear e
  generalize Wn.number g = q at hn
  cases q
  · go_enter Try.func14, Try.ntmps14
    go_wp2_with (go_at_call 36; (with_reducible refine (hn _).mono ?_); rintro e w1 ⟨rfl, rfl⟩)
    go_ret
    exact boolP_mk rfl (below_al1 _ _)
  · by_cases hl : s = 0
    · subst hl
      go_enter Try.func14, Try.ntmps14
      go_wp2_with (go_at_call 36; (with_reducible refine (hn _).mono ?_); rintro e w1 ⟨rfl, rfl⟩)
      go_ret
      exact boolP_mk rfl (below_al1 _ _)
    · have hl' : (s == 0) = false := beq_eq_false_iff_ne.mpr hl
      go_enter Try.func14, Try.ntmps14
      go_wp2_with (go_at_call 36; (with_reducible refine (hn _).mono ?_); rintro e w1 ⟨rfl, rfl⟩)
      go_ret
      exact boolP_mk (by rw [hl']; rfl) (below_al1 _ _)
set_option maxRecDepth 100000 in
set_option maxHeartbeats 2000000 in
theorem refRight2_any (s l g : Int) (w : World) : Calls Try.prog 14 #[.agg #[.int .u8 2, .int .i64 s, .int .i64 l, .int .i64 g]] w (ValP w (.bool (Wn.right ⟨2, s, l, g⟩))) := by
  have hn := fun X => number_any s X
  have hm := fun X => number_any l X
  have hin : Wn.number s = true → Wn.number l = true → 1 ≤ s ∧ s ≤ 1048576 ∧ 1 ≤ l ∧ l ≤ 1048576 := fun a b => by
    rw [Wn.number_iff] at a b
    omega
  have e : Wn.right ⟨2, s, l, g⟩ = (Wn.number s && Wn.number l && (g == 0) && (s.tmod l == 0) && decide (s.tdiv l ≤ 16)) := rfl
  rw [e]
  clear e
  generalize Wn.number s = q at hn hin
  generalize Wn.number l = r at hm hin
  cases q
  · clear hin
    go_enter Try.func14, Try.ntmps14
    go_wp2_with (first | (go_at_call 36; (with_reducible refine (hn _).mono ?_); rintro e w1 ⟨rfl, rfl⟩) | (go_at_call 36; (with_reducible refine (hm _).mono ?_); rintro e w2 ⟨rfl, rfl⟩))
    go_ret
    exact boolP_mk rfl (below_al1 _ _)
  · cases r
    · clear hin
      go_enter Try.func14, Try.ntmps14
      go_wp2_with (first | (go_at_call 36; (with_reducible refine (hn _).mono ?_); rintro e w1 ⟨rfl, rfl⟩) | (go_at_call 36; (with_reducible refine (hm _).mono ?_); rintro e w2 ⟨rfl, rfl⟩))
      go_ret
      exact boolP_mk rfl (below_al1 _ _)
    · obtain ⟨s1, s2, l1, l2⟩ := hin rfl rfl
      have l0 : ¬ l = 0 := by omega
      clear hin
      by_cases hg : g = 0
      · subst hg
        by_cases hr : s.tmod l = 0
        · have hr' : (s.tmod l == 0) = true := by rw [hr]; rfl
          have hq : s.tdiv l = s / l := Int.tdiv_eq_ediv_of_nonneg (by omega)
          have q1 := Int.ediv_nonneg (a := s) (b := l) (by omega) (by omega)
          have q2 := Int.ediv_le_self l (a := s) (by omega)
          rw [← hq] at q1 q2
          have HWR : Hid (IntKind.i64.wrap (s.tdiv l) = s.tdiv l) := Lib.hid (by rw [IntKind.wrap_i64]; omega)
          have HR := Lib.hid hr'
          clear hr' hq
          go_enter Try.func14, Try.ntmps14
          go_wp2_with (first | (go_at_call 36; (with_reducible refine (hn _).mono ?_); rintro e w1 ⟨rfl, rfl⟩) | (go_at_call 36; (with_reducible refine (hm _).mono ?_); rintro e w2 ⟨rfl, rfl⟩))
          go_ret
          exact boolP_mk (by rw [HR.out]; rfl) (below_al1 _ _)
        · have hr' : (s.tmod l == 0) = false := beq_eq_false_iff_ne.mpr hr
          have HR := Lib.hid hr'
          have hr2 : ¬ s % l = 0 := by rwa [Int.tmod_eq_emod_of_nonneg (by omega)] at hr
          clear hr'
          go_enter Try.func14, Try.ntmps14
          go_wp2_with (first | (go_at_call 36; (with_reducible refine (hn _).mono ?_); rintro e w1 ⟨rfl, rfl⟩) | (go_at_call 36; (with_reducible refine (hm _).mono ?_); rintro e w2 ⟨rfl, rfl⟩))
          go_ret
          exact boolP_mk (by rw [HR.out]; rfl) (below_al1 _ _)
      · have hg' : (g == 0) = false := beq_eq_false_iff_ne.mpr hg
        go_enter Try.func14, Try.ntmps14
        go_wp2_with (first | (go_at_call 36; (with_reducible refine (hn _).mono ?_); rintro e w1 ⟨rfl, rfl⟩) | (go_at_call 36; (with_reducible refine (hm _).mono ?_); rintro e w2 ⟨rfl, rfl⟩))
        go_ret
        exact boolP_mk (by rw [hg']; rfl) (below_al1 _ _)
set_option maxRecDepth 100000 in
set_option maxHeartbeats 1000000 in
theorem refRight_any (k s l g : Int) (w : World) : Calls Try.prog 14 #[.agg #[.int .u8 k, .int .i64 s, .int .i64 l, .int .i64 g]] w (ValP w (.bool (Wn.right ⟨k, s, l, g⟩))) := by
  by_cases h1 : k = 1
  · subst h1
    exact refRight1_any s l g w
  · by_cases h2 : k = 2
    · subst h2
      exact refRight2_any s l g w
    · by_cases h3 : k = 3
      · subst h3
        exact refRight3_any s l g w
      · have e : Wn.right ⟨k, s, l, g⟩ = false := by unfold Wn.right; simp [h1, h2, h3]
        rw [e]
        go_enter Try.func14, Try.ntmps14
        go_wp2_with fail
        go_ret
        exact ⟨rfl, below_al1 _ _⟩
end Go.Proofs.Ytaplmioohihmbaa
