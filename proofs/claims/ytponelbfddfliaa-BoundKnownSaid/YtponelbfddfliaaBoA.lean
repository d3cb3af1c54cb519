/- Layer 10, the program: filters made of their parts; which are right; which panes they have. -/
import Derived.Test.YtponelbfddfliaaBoV
import Derived.Laws.StructEq
import Derived.BigQuiet
import Derived.Deep.DeepCutAuto
namespace Go.Proofs.Ytponelbfddfliaa
open Go.ChangeShapes Go.WideShapes Go.ChangeAt Go.RowKit

set_option maxHeartbeats 400000 in
theorem ofPoint_any (s : ByteArray) (n : Int) (w : World) : Calls Try.prog 6 #[.string s, .int .i64 n] w (PartP w (.agg #[.int .u8 1, .string s, .string ⟨#[]⟩, .int .i64 n, .int .i64 0])) := by
  go_enter Try.func6, Try.ntmps6
  go_wp2_with fail
  refine bodyPost_ret (v := .agg #[.int .u8 1, .string s, .string ⟨#[]⟩, .int .i64 n, .int .i64 0]) ?_ rfl ⟨rfl, ?_⟩
  · simp [results, Try.results6, go_sem]
  · exact (Below.refl _ _).alloc (Nat.le_refl _) _
set_option maxHeartbeats 400000 in
theorem ofRange_any (s t : ByteArray) (w : World) : Calls Try.prog 7 #[.string s, .string t] w (PartP w (.agg #[.int .u8 2, .string s, .string t, .int .i64 0, .int .i64 0])) := by
  go_enter Try.func7, Try.ntmps7
  go_wp2_with fail
  refine bodyPost_ret (v := .agg #[.int .u8 2, .string s, .string t, .int .i64 0, .int .i64 0]) ?_ rfl ⟨rfl, ?_⟩
  · simp [results, Try.results7, go_sem]
  · exact (Below.refl _ _).alloc (Nat.le_refl _) _
set_option maxHeartbeats 400000 in
theorem ofEnds_any (m n : Int) (w : World) : Calls Try.prog 8 #[.int .i64 m, .int .i64 n] w (PartP w (.agg #[.int .u8 3, .string ⟨#[]⟩, .string ⟨#[]⟩, .int .i64 m, .int .i64 n])) := by
  go_enter Try.func8, Try.ntmps8
  go_wp2_with fail
  refine bodyPost_ret (v := .agg #[.int .u8 3, .string ⟨#[]⟩, .string ⟨#[]⟩, .int .i64 m, .int .i64 n]) ?_ rfl ⟨rfl, ?_⟩
  · simp [results, Try.results8, go_sem]
  · exact (Below.refl _ _).alloc (Nat.le_refl _) _
theorem fits_any (s : ByteArray) (w : World) : Calls Try.prog 37 #[.string s] w fun e w' => e = .returned (.bool (decide (s.size ≤ 32))) ∧ w = w' := by
  have h : decide ((s.size : Int) ≤ 32) = decide (s.size ≤ 32) := by rw [decide_eq_decide]; omega
  go_enter Try.func37, Try.ntmps37
  go_wp2_with fail
  go_ret
  exact ⟨rfl, rfl⟩
theorem below_al2 (w : World) (o1 o2 : Obj) : Below w.heap.size w ((w.alloc o1).alloc o2) := ((Below.refl _ _).alloc (Nat.le_refl _) _).alloc (by simp) _
set_option maxRecDepth 100000 in
set_option maxHeartbeats 1000000 in
theorem has1_any (K T k : ByteArray) (l m s e : Int) (w : World) : Calls Try.prog 19 #[.agg #[.int .u8 1, .string K, .string T, .int .i64 l, .int .i64 m], .agg #[.string k, .int .i64 s, .int .i64 e]] w (PartP w (.bool ((k.toList == K.toList) && (e == l)))) := by
  cases hq : (k.toList == K.toList)
  · go_enter Try.func19, Try.ntmps19
    go_wp2_with fail
    go_ret
    exact ⟨by simp, below_al2 _ _ _⟩
  · go_enter Try.func19, Try.ntmps19
    go_wp2_with fail
    go_ret
    exact ⟨by simp, below_al2 _ _ _⟩
set_option maxRecDepth 100000 in
set_option maxHeartbeats 1000000 in
theorem has2_any (K T k : ByteArray) (l m s e : Int) (w : World) : Calls Try.prog 19 #[.agg #[.int .u8 2, .string K, .string T, .int .i64 l, .int .i64 m], .agg #[.string k, .int .i64 s, .int .i64 e]] w (PartP w (.bool (!Op.bytesLess k.toList K.toList && (T.toList.isEmpty || Op.bytesLess k.toList T.toList)))) := by
  go_enter Try.func19, Try.ntmps19
  go_wp2_with fail
  all_goals (go_ret; exact ⟨by simp_all, below_al2 _ _ _⟩)
set_option maxRecDepth 100000 in
set_option maxHeartbeats 1000000 in
theorem has3_any (K T k : ByteArray) (l m s e : Int) (w : World) : Calls Try.prog 19 #[.agg #[.int .u8 3, .string K, .string T, .int .i64 l, .int .i64 m], .agg #[.string k, .int .i64 s, .int .i64 e]] w (PartP w (.bool (decide (l ≤ e) && decide (e < m)))) := by
  by_cases hq : l ≤ e
  · go_enter Try.func19, Try.ntmps19
    go_wp2_with fail
    go_ret
    exact ⟨by simp [hq], below_al2 _ _ _⟩
  · go_enter Try.func19, Try.ntmps19
    go_wp2_with fail
    go_ret
    exact ⟨by simp; omega, below_al2 _ _ _⟩
set_option maxRecDepth 100000 in
set_option maxHeartbeats 1000000 in
theorem has0_any (k0 : Nat) (K T k : ByteArray) (l m s e : Int) (w : World) (h1 : k0 ≠ 1) (h2 : k0 ≠ 2) (h3 : k0 ≠ 3) : Calls Try.prog 19 #[.agg #[.int .u8 (k0 : Int), .string K, .string T, .int .i64 l, .int .i64 m], .agg #[.string k, .int .i64 s, .int .i64 e]] w (PartP w (.bool (false))) := by
  have i1 : ¬ (k0 : Int) = 1 := by omega
  have i2 : ¬ (k0 : Int) = 2 := by omega
  have i3 : ¬ (k0 : Int) = 3 := by omega
  go_enter Try.func19, Try.ntmps19
  go_wp2_with fail
  go_ret
  exact ⟨rfl, below_al2 _ _ _⟩
theorem has_any (f : Fl) (p : Pn) (w : World) : Calls Try.prog 19 #[f.val, p.val] w (PartP w (.bool (f.has p))) := by
  obtain ⟨k, K, T, l, m⟩ := f
  obtain ⟨pk, s, e⟩ := p
  by_cases h1 : k = 1
  · subst h1
    exact has1_any K T pk l m s e w
  · by_cases h2 : k = 2
    · subst h2
      exact has2_any K T pk l m s e w
    · by_cases h3 : k = 3
      · subst h3
        exact has3_any K T pk l m s e w
      · have := has0_any k K T pk l m s e w h1 h2 h3
        unfold Fl.has
        simp only [if_neg h1, if_neg h2, if_neg h3]
        exact this
theorem filter_guard : Try.prog.eqGuardType Try.prog.depth 23 = false := by kernel_rfl
theorem filter_same (k k' : Int) (K K' T T' : ByteArray) (l l' m m' : Int) (w : World) : (Op.equalIn 10000 23 (.agg #[.int .u8 k, .string K, .string T, .int .i64 l, .int .i64 m]) (.agg #[.int .u8 k', .string K', .string T', .int .i64 l', .int .i64 m'])).run Try.prog w = .ok ((k == k') && (K.toList == K'.toList) && (T.toList == T'.toList) && (l == l') && (m == m')) w := by
  have hS : Try.prog.underlying 23 = some (.struct (Try.prog.fieldsOf 23)) := by kernel_rfl
  have hp : Try.prog.stoodInHeld 23 = false := by kernel_rfl
  rw [show (10000 : Nat) = 9999 + 1 from rfl, run_equalIn_agg w 9999 23 _ _ hS hp]
  simp only [Program.fieldsOf, Try.underlying23]
  go_simp
  (repeat' split) <;> simp_all
theorem sec_any (f : Fl) (w : World) : Calls Try.prog 32 #[f.val] w (PartP w (.bool f.sec)) := by
  obtain ⟨k, K, T, l, m⟩ := f
  unfold Fl.val Fl.sec
  by_cases h : k = 3
  · subst h
    go_enter Try.func32, Try.ntmps32
    go_wp2_with fail
    go_ret
    exact ⟨rfl, (Below.refl _ _).alloc (Nat.le_refl _) _⟩
  · have i3 : ¬ (k : Int) = 3 := by omega
    go_enter Try.func32, Try.ntmps32
    go_wp2_with fail
    go_ret
    refine ⟨?_, (Below.refl _ _).alloc (Nat.le_refl _) _⟩
    simp [h, i3]
end Go.Proofs.Ytponelbfddfliaa
