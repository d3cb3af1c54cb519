/- Layer 14's theorem: WindowParts. Made by tools/gen/law14p.py. -/
import Derived.Test.YtaplmioohihmbaaLaw14T
import Derived.Test.YtaplmioohihmbaaLaw14P1
import Derived.Test.YtaplmioohihmbaaLaw14P2
import Derived.Test.YtaplmioohihmbaaLaw14P3
namespace Go.Proofs.Ytaplmioohihmbaa
open Go.ChangeShapes Go.WideShapes Go.ChangeAt Go.RowKit

set_option maxRecDepth 100000 in
set_option maxHeartbeats 2000000 in
theorem windowParts_none (k s l g t a b : Int) (w : World) (h : (Wn.right ⟨k, s, l, g⟩ && Wn.isT t) = false) : Calls Try.prog 6 #[.agg #[.int .u8 k, .int .i64 s, .int .i64 l, .int .i64 g], .int .i64 t, .agg #[.int .i64 a, .int .i64 b]] w (TrueP w) := by
  obtain ⟨w0, bx, sx, hw0, hbx, hsx, hbe, hlt, hc⟩ := win_boxes w 23 25 k s l g a b
  obtain ⟨c0, c1, c2, c3, c4, c5⟩ := hc w0 (Below.refl _ _)
  have HO : Hid (∀ X, Calls Try.prog 10 #[.agg #[.int .u8 k, .int .i64 s, .int .i64 l, .int .i64 g], .int .i64 t] X (SpP X 25 [])) := Lib.hid fun X => by
    have := of_any k s l g t X
    rwa [Wn.ofL_none h] at this
  have hr := fun X => right_any k s l g X
  have hti : Wn.isT t = false → ¬ t < -1099511627776 → t > 1099511627776 := fun h h2 => by
    have : ¬ Wn.isT t = true := by rw [h]; simp
    rw [Wn.isT_iff] at this
    omega
  have H := Lib.hid (And.intro hbe hc)
  clear hbe hc
  generalize Wn.right ⟨k, s, l, g⟩ = q at h hr
  cases q
  · clear h hti
    go_enter Try.func6, Try.ntmps6
    go_wp2_with (first
      | (go_at_call 10; (with_reducible refine (HO.out _).mono ?_); rintro e w1 ⟨A, n, rfl, -, b1⟩; have B1 := Lib.hid b1; obtain ⟨d0, d1, d2, d3, d4, d5⟩ := H.out.2 w1 b1; clear b1)
      | (go_at_call 13; (with_reducible refine (hr _).mono ?_); rintro e w2 ⟨rfl, b2⟩; have B2 := Lib.hid (below_next B1.out b2); clear b2)
      | (go_at_call 16; (with_reducible refine (works_any _).mono ?_); rintro e w3 ⟨rfl, b3⟩; have B3 := Lib.hid (below_next B2.out b3); clear b3))
    go_ret
    exact ⟨rfl, H.out.1.trans (B3.out.mono H.out.1.size)⟩
  · rw [Bool.true_and] at h
    by_cases h1 : t < -1099511627776
    · clear h hti
      go_enter Try.func6, Try.ntmps6
      go_wp2_with (first
        | (go_at_call 10; (with_reducible refine (HO.out _).mono ?_); rintro e w1 ⟨A, n, rfl, -, b1⟩; have B1 := Lib.hid b1; obtain ⟨d0, d1, d2, d3, d4, d5⟩ := H.out.2 w1 b1; clear b1)
        | (go_at_call 13; (with_reducible refine (hr _).mono ?_); rintro e w2 ⟨rfl, b2⟩; have B2 := Lib.hid (below_next B1.out b2); clear b2)
        | (go_at_call 16; (with_reducible refine (works_any _).mono ?_); rintro e w3 ⟨rfl, b3⟩; have B3 := Lib.hid (below_next B2.out b3); clear b3))
      go_ret
      exact ⟨rfl, H.out.1.trans (B3.out.mono H.out.1.size)⟩
    · have h2 := hti h h1
      clear h hti
      go_enter Try.func6, Try.ntmps6
      go_wp2_with (first
        | (go_at_call 10; (with_reducible refine (HO.out _).mono ?_); rintro e w1 ⟨A, n, rfl, -, b1⟩; have B1 := Lib.hid b1; obtain ⟨d0, d1, d2, d3, d4, d5⟩ := H.out.2 w1 b1; clear b1)
        | (go_at_call 13; (with_reducible refine (hr _).mono ?_); rintro e w2 ⟨rfl, b2⟩; have B2 := Lib.hid (below_next B1.out b2); clear b2)
        | (go_at_call 16; (with_reducible refine (works_any _).mono ?_); rintro e w3 ⟨rfl, b3⟩; have B3 := Lib.hid (below_next B2.out b3); clear b3))
      go_ret
      exact ⟨rfl, H.out.1.trans (B3.out.mono H.out.1.size)⟩
theorem windowParts_any (k s l g t a b : Int) (w : World) : Calls Try.prog 6 #[.agg #[.int .u8 k, .int .i64 s, .int .i64 l, .int .i64 g], .int .i64 t, .agg #[.int .i64 a, .int .i64 b]] w (TrueP w) := by
  cases h : (Wn.right ⟨k, s, l, g⟩ && Wn.isT t)
  · exact windowParts_none k s l g t a b w h
  · rw [Bool.and_eq_true] at h
    by_cases h1 : k = 1
    · exact windowParts_k1 k s l g t a b w h1 h.1 h.2
    · by_cases h2 : k = 2
      · exact windowParts_k2 k s l g t a b w h2 h.1 h.2
      · by_cases h3 : k = 3
        · exact windowParts_k3 k s l g t a b w h3 h.1 h.2
        · have := h.1
          unfold Wn.right at this
          rw [if_neg h1, if_neg h2, if_neg h3] at this
          cases this
end Go.Proofs.Ytaplmioohihmbaa
