/- Layer 14, the program: the windows of a time. -/
import Derived.Test.YtaplmioohihmbaaWnD
import Derived.Test.YtaplmioohihmbaaNum14
import Derived.Test.YtaplmioohihmbaaSpn
namespace Go.Proofs.Ytaplmioohihmbaa
open Go.ChangeShapes Go.WideShapes Go.ChangeAt Go.RowKit

set_option maxRecDepth 100000 in
set_option maxHeartbeats 1000000 in
theorem right_any (k s l g : Int) (w : World) : Calls Try.prog 13 #[.agg #[.int .u8 k, .int .i64 s, .int .i64 l, .int .i64 g]] w (ValP w (.bool (Wn.right ⟨k, s, l, g⟩))) := by
  by_cases h1 : k = 1
  · subst h1
    exact right1_any s l g w
  · by_cases h2 : k = 2
    · subst h2
      exact right2_any s l g w
    · by_cases h3 : k = 3
      · subst h3
        exact right3_any s l g w
      · have e : Wn.right ⟨k, s, l, g⟩ = false := by unfold Wn.right; simp [h1, h2, h3]
        rw [e]
        have hmf : ∀ (fn : Fn) (first cap : Array Value) (w : World), (Instr.makeFunc fn first cap).run Try.prog w = .ok (.func fn first cap) w := fun _ _ _ _ => rfl
        go_enter Try.func13, Try.ntmps13
        go_wp2_with fail
        go_ret
        exact ⟨rfl, below_al1 _ _⟩
theorem Try.info25 : (Try.prog.info? 25).map (fun i => (i.zero, i.size, i.bytes)) = some (some (.agg #[.int .i64 0, .int .i64 0]), 2, 16) := by kernel_rfl
/-- The box of the window that a call is handed. -/
theorem win_box (w : World) (T : TypeId) (k s l g : Int) : ∃ w0 bx, w.alloc (.cells #[.int .u8 k, .int .i64 s, .int .i64 l, .int .i64 g] T) = w0 ∧ w.heap.size = bx ∧ Below w.heap.size w w0 ∧ bx < w0.heap.size ∧ ∀ X, Below w0.heap.size w0 X → X.cell? ⟨bx, 0, none⟩ = some (.int .u8 k) ∧ X.cell? ⟨bx, 1, none⟩ = some (.int .i64 s) ∧ X.cell? ⟨bx, 2, none⟩ = some (.int .i64 l) ∧ X.cell? ⟨bx, 3, none⟩ = some (.int .i64 g) := by
  refine ⟨_, _, rfl, rfl, below_al1 _ _, by simp, fun X hX => ?_⟩
  have h : Blk (w.alloc (.cells #[.int .u8 k, .int .i64 s, .int .i64 l, .int .i64 g] T)) w.heap.size T _ := Blk.new _ _ _
  have hb := h.below hX h.lt
  exact ⟨hb.cell 0, hb.cell 1, hb.cell 2, hb.cell 3⟩
set_option maxRecDepth 100000 in
set_option maxHeartbeats 2000000 in
theorem of_none (k s l g t : Int) (w : World) (h : (Wn.right ⟨k, s, l, g⟩ && Wn.isT t) = false) : Calls Try.prog 10 #[.agg #[.int .u8 k, .int .i64 s, .int .i64 l, .int .i64 g], .int .i64 t] w (SpP w 25 []) := by
  obtain ⟨w0, bx, hw0, hbx, hbe, hlt, hc⟩ := win_box w 23 k s l g
  obtain ⟨c0, c1, c2, c3⟩ := hc w0 (Below.refl _ _)
  have hr := fun X => right_any k s l g X
  have HB := Lib.hid (And.intro hbe hc)
  clear hbe hc
  generalize Wn.right ⟨k, s, l, g⟩ = q at h hr
  have ht := fun X => isTime_any t X
  generalize Wn.isT t = p at h ht
  cases q
  · go_enter Try.func10, Try.ntmps10
    go_wp2_with (go_at_call 13; (with_reducible refine (hr _).mono ?_); rintro e w1 ⟨rfl, b1⟩)
    go_ret
    exact ⟨none, 0, rfl, own_nil _ _ _ _, HB.out.1.trans (b1.mono HB.out.1.size)⟩
  · obtain rfl : p = false := by simpa using h
    go_enter Try.func10, Try.ntmps10
    go_wp2_with (first | (go_at_call 13; (with_reducible refine (hr _).mono ?_); rintro e w1 ⟨rfl, b1⟩) | (go_at_call 27; (with_reducible refine (ht _).mono ?_); rintro e w2 ⟨rfl, rfl⟩))
    go_ret
    exact ⟨none, 0, rfl, own_nil _ _ _ _, HB.out.1.trans (b1.mono HB.out.1.size)⟩
set_option maxRecDepth 100000 in
set_option maxHeartbeats 2000000 in
theorem of_gap (s l g t : Int) (w : World) (h : Wn.right ⟨3, s, l, g⟩ = true) (hT : Wn.isT t = true) : Calls Try.prog 10 #[.agg #[.int .u8 3, .int .i64 s, .int .i64 l, .int .i64 g], .int .i64 t] w (SpP w 25 [(t, t + g)]) := by
  obtain ⟨w0, bx, hw0, hbx, hbe, hlt, hc⟩ := win_box w 23 3 s l g
  obtain ⟨c0, c1, c2, c3⟩ := hc w0 (Below.refl _ _)
  have hr := fun X => right_any 3 s l g X
  have ht := fun X => isTime_any t X
  have hg := Wn.right_gap h rfl
  have hti := (Wn.isT_iff t).1 hT
  have hfr : Hid (∀ X, Calls Try.prog 28 #[.int .i64 t, .int .i64 g] X (ValP X (.agg #[.int .i64 t, .int .i64 (t + g)]))) := Lib.hid fun X => from_any t g X (by simp at hg; omega)
  rw [h] at hr
  rw [hT] at ht
  have HB := Lib.hid (And.intro hbe hc)
  clear hbe hc h hT hg hti
  go_enter Try.func10, Try.ntmps10
  go_wp2_with (first
    | (go_at_call 13; (with_reducible refine (hr _).mono ?_); rintro e w1 ⟨rfl, b1⟩; have B1 := Lib.hid b1; obtain ⟨d0, d1, d2, d3⟩ := HB.out.2 w1 b1; clear b1)
    | (go_at_call 27; (with_reducible refine (ht _).mono ?_); rintro e w2 ⟨rfl, rfl⟩)
    | (go_at_call 28; (with_reducible refine (hfr.out _).mono ?_); rintro e w3 ⟨rfl, b3⟩; have B3 := Lib.hid b3; clear b3))
  go_ret
  have hB := HB.out.1.trans ((below_next B1.out B3.out).mono HB.out.1.size)
  exact ⟨_, 1, rfl, own_lower (own_pair _ _ (t, t + g)) hB.size, hB.alloc hB.size _⟩
end Go.Proofs.Ytaplmioohihmbaa
