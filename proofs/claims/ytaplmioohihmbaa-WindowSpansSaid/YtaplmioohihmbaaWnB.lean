/- Layer 14, what calls little: windows made, spans told; the reference's small functions. -/
import Derived.Test.YtaplmioohihmbaaWnA
import Derived.Test.YtaplmioohihmbaaHeld
import Derived.Laws.StructEq
import Derived.BigQuiet
import Derived.Deep.DeepCutAuto
namespace Go.Proofs.Ytaplmioohihmbaa
open Go.ChangeShapes Go.WideShapes Go.ChangeAt Go.RowKit

/-- A call that answers v and makes new memory alone. -/
def ValP (w : World) (v : Value) (e : Ending) (w' : World) : Prop := e = .returned v ∧ Below w.heap.size w w'
theorem below_al1 (w : World) (o : Obj) : Below w.heap.size w (w.alloc o) := (Below.refl _ _).alloc (Nat.le_refl _) _
theorem below_al2 (w : World) (o1 o2 : Obj) : Below w.heap.size w ((w.alloc o1).alloc o2) := ((Below.refl _ _).alloc (Nat.le_refl _) _).alloc (by simp) _
set_option maxHeartbeats 400000 in
theorem ofTumbling_any (n : Int) (w : World) : Calls Try.prog 23 #[.int .i64 n] w (ValP w (.agg #[.int .u8 1, .int .i64 n, .int .i64 0, .int .i64 0])) := by
  go_enter Try.func23, Try.ntmps23
  go_wp2_with fail
  refine bodyPost_ret (v := .agg #[.int .u8 1, .int .i64 n, .int .i64 0, .int .i64 0]) ?_ rfl ⟨rfl, ?_⟩
  · simp [results, Try.results23, go_sem]
  · exact below_al1 _ _
set_option maxHeartbeats 400000 in
theorem ofSliding_any (n m : Int) (w : World) : Calls Try.prog 24 #[.int .i64 n, .int .i64 m] w (ValP w (.agg #[.int .u8 2, .int .i64 n, .int .i64 m, .int .i64 0])) := by
  go_enter Try.func24, Try.ntmps24
  go_wp2_with fail
  refine bodyPost_ret (v := .agg #[.int .u8 2, .int .i64 n, .int .i64 m, .int .i64 0]) ?_ rfl ⟨rfl, ?_⟩
  · simp [results, Try.results24, go_sem]
  · exact below_al1 _ _
set_option maxHeartbeats 400000 in
theorem ofSession_any (n : Int) (w : World) : Calls Try.prog 25 #[.int .i64 n] w (ValP w (.agg #[.int .u8 3, .int .i64 0, .int .i64 0, .int .i64 n])) := by
  go_enter Try.func25, Try.ntmps25
  go_wp2_with fail
  refine bodyPost_ret (v := .agg #[.int .u8 3, .int .i64 0, .int .i64 0, .int .i64 n]) ?_ rfl ⟨rfl, ?_⟩
  · simp [results, Try.results25, go_sem]
  · exact below_al1 _ _
set_option maxHeartbeats 400000 in
theorem isTime_any (t : Int) (w : World) : Calls Try.prog 27 #[.int .i64 t] w fun e w' => e = .returned (.bool (Wn.isT t)) ∧ w = w' := by
  unfold Wn.isT
  by_cases h : -1099511627776 ≤ t
  · go_enter Try.func27, Try.ntmps27
    go_wp2_with fail
    go_ret
    exact ⟨by simp [h], rfl⟩
  · go_enter Try.func27, Try.ntmps27
    go_wp2_with fail
    go_ret
    exact ⟨by simp; omega, rfl⟩
set_option maxHeartbeats 400000 in
theorem from_any (a b : Int) (w : World) (h : -9223372036854775808 ≤ a + b ∧ a + b ≤ 9223372036854775807) : Calls Try.prog 28 #[.int .i64 a, .int .i64 b] w (ValP w (.agg #[.int .i64 a, .int .i64 (a + b)])) := by
  go_enter Try.func28, Try.ntmps28
  go_wp2_with fail
  refine bodyPost_ret (v := .agg #[.int .i64 a, .int .i64 (a + b)]) ?_ rfl ⟨rfl, ?_⟩
  · simp [results, Try.results28, go_sem]
  · exact below_al1 _ _
set_option maxHeartbeats 400000 in
theorem step_any (k s l g : Int) (w : World) : Calls Try.prog 29 #[.agg #[.int .u8 k, .int .i64 s, .int .i64 l, .int .i64 g]] w (ValP w (.int .i64 (Wn.step ⟨k, s, l, g⟩))) := by
  unfold Wn.step
  by_cases h : k = 2
  · subst h
    go_enter Try.func29, Try.ntmps29
    go_wp2_with fail
    go_ret
    exact ⟨rfl, below_al1 _ _⟩
  · go_enter Try.func29, Try.ntmps29
    go_wp2_with fail
    go_ret
    exact ⟨by simp, below_al1 _ _⟩
set_option maxHeartbeats 400000 in
theorem has_any (a b t : Int) (w : World) : Calls Try.prog 18 #[.agg #[.int .i64 a, .int .i64 b], .int .i64 t] w (ValP w (.bool (Wn.has (a, b) t))) := by
  unfold Wn.has
  by_cases h : a ≤ t
  · go_enter Try.func18, Try.ntmps18
    go_wp2_with fail
    go_ret
    exact ⟨by simp [h], below_al1 _ _⟩
  · go_enter Try.func18, Try.ntmps18
    go_wp2_with fail
    go_ret
    exact ⟨by simp; omega, below_al1 _ _⟩
theorem imn_run (p q : Int) (W : World) : (Builtin.min_ #[2, 2] 2 #[.int .i64 p, .int .i64 q]).run Try.prog W = .ok (.int .i64 (Wn.imn p q)) W := by
  unfold Wn.imn
  by_cases h : q < p <;> simp [Builtin.min_, Builtin.min2, h]
theorem imx_run (p q : Int) (W : World) : (Builtin.max_ #[2, 2] 2 #[.int .i64 p, .int .i64 q]).run Try.prog W = .ok (.int .i64 (Wn.imx p q)) W := by
  unfold Wn.imx
  by_cases h : p < q <;> simp [Builtin.max_, Builtin.max2, h]
set_option maxHeartbeats 400000 in
theorem over_any (a b c d : Int) (w : World) : Calls Try.prog 20 #[.agg #[.int .i64 a, .int .i64 b], .agg #[.int .i64 c, .int .i64 d]] w (ValP w (.bool (Wn.over (a, b) (c, d)))) := by
  have h1 := fun W => imx_run a c W
  have h2 := fun W => imn_run b d W
  unfold Wn.over
  go_enter Try.func20, Try.ntmps20
  go_wp2_with fail
  go_ret
  exact ⟨rfl, below_al2 _ _ _⟩
set_option maxHeartbeats 400000 in
theorem number_any (n : Int) (w : World) : Calls Try.prog 36 #[.int .i64 n] w fun e w' => e = .returned (.bool (Wn.number n)) ∧ w = w' := by
  unfold Wn.number
  by_cases h : 1 ≤ n
  · go_enter Try.func36, Try.ntmps36
    go_wp2_with fail
    go_ret
    exact ⟨by simp [h], rfl⟩
  · go_enter Try.func36, Try.ntmps36
    go_wp2_with fail
    go_ret
    exact ⟨by simp; omega, rfl⟩
set_option maxHeartbeats 400000 in
theorem refStep_any (k s l g : Int) (w : World) : Calls Try.prog 26 #[.agg #[.int .u8 k, .int .i64 s, .int .i64 l, .int .i64 g]] w (ValP w (.int .i64 (Wn.step ⟨k, s, l, g⟩))) := by
  unfold Wn.step
  by_cases h : k = 2
  · subst h
    go_enter Try.func26, Try.ntmps26
    go_wp2_with fail
    go_ret
    exact ⟨rfl, below_al1 _ _⟩
  · go_enter Try.func26, Try.ntmps26
    go_wp2_with fail
    go_ret
    exact ⟨by simp, below_al1 _ _⟩
set_option maxHeartbeats 400000 in
theorem refHas_any (a b t : Int) (w : World) : Calls Try.prog 19 #[.agg #[.int .i64 a, .int .i64 b], .int .i64 t] w (ValP w (.bool (Wn.has (a, b) t))) := by
  unfold Wn.has
  by_cases h : a ≤ t
  · go_enter Try.func19, Try.ntmps19
    go_wp2_with fail
    go_ret
    exact ⟨by simp [h], below_al1 _ _⟩
  · go_enter Try.func19, Try.ntmps19
    go_wp2_with fail
    go_ret
    exact ⟨by simp; omega, below_al1 _ _⟩
set_option maxHeartbeats 400000 in
theorem refOver_any (a b c d : Int) (w : World) : Calls Try.prog 21 #[.agg #[.int .i64 a, .int .i64 b], .agg #[.int .i64 c, .int .i64 d]] w (ValP w (.bool (Wn.over (a, b) (c, d)))) := by
  have h1 := fun W => imx_run a c W
  have h2 := fun W => imn_run b d W
  unfold Wn.over
  go_enter Try.func21, Try.ntmps21
  go_wp2_with fail
  go_ret
  exact ⟨rfl, below_al2 _ _ _⟩
set_option maxHeartbeats 400000 in
theorem ref_any (k s l g : Int) (w : World) : Calls Try.prog 8 #[.agg #[.int .u8 k, .int .i64 s, .int .i64 l, .int .i64 g]] w (ValP w (.agg #[.int .u8 k, .int .i64 s, .int .i64 l, .int .i64 g])) := by
  go_enter Try.func8, Try.ntmps8
  go_wp2_with fail
  refine bodyPost_ret (v := .agg #[.int .u8 k, .int .i64 s, .int .i64 l, .int .i64 g]) ?_ rfl ⟨rfl, ?_⟩
  · simp [results, Try.results8, go_sem]
  · exact below_al2 _ _ _
set_option maxHeartbeats 400000 in
theorem span_any (a b : Int) (w : World) : Calls Try.prog 11 #[.agg #[.int .i64 a, .int .i64 b]] w (ValP w (.agg #[.int .i64 a, .int .i64 b])) := by
  go_enter Try.func11, Try.ntmps11
  go_wp2_with fail
  refine bodyPost_ret (v := .agg #[.int .i64 a, .int .i64 b]) ?_ rfl ⟨rfl, ?_⟩
  · simp [results, Try.results11, go_sem]
  · exact below_al2 _ _ _
end Go.Proofs.Ytaplmioohihmbaa
