/- Layer 10's reference: which panes a filter has; which filters are right. -/
import Derived.Test.YtponelbfddfliaaBoA
namespace Go.Proofs.Ytponelbfddfliaa
open Go.ChangeShapes Go.WideShapes Go.ChangeAt Go.RowKit

set_option maxRecDepth 100000 in
set_option maxHeartbeats 1000000 in
theorem refHas1_any (K T k : ByteArray) (l m s e : Int) (w : World) : Calls Try.prog 21 #[.agg #[.int .u8 1, .string K, .string T, .int .i64 l, .int .i64 m], .agg #[.string k, .int .i64 s, .int .i64 e]] w (PartP w (.bool ((k.toList == K.toList) && (e == l)))) := by
  cases hq : (k.toList == K.toList)
  · go_enter Try.func21, Try.ntmps21
    go_wp2_with fail
    go_ret
    exact ⟨by simp, below_al2 _ _ _⟩
  · go_enter Try.func21, Try.ntmps21
    go_wp2_with fail
    go_ret
    exact ⟨by simp, below_al2 _ _ _⟩
set_option maxRecDepth 100000 in
set_option maxHeartbeats 1000000 in
theorem refHas2_any (K T k : ByteArray) (l m s e : Int) (w : World) : Calls Try.prog 21 #[.agg #[.int .u8 2, .string K, .string T, .int .i64 l, .int .i64 m], .agg #[.string k, .int .i64 s, .int .i64 e]] w (PartP w (.bool (!Op.bytesLess k.toList K.toList && (T.toList.isEmpty || Op.bytesLess k.toList T.toList)))) := by
  go_enter Try.func21, Try.ntmps21
  go_wp2_with fail
  all_goals (go_ret; exact ⟨by simp_all, below_al2 _ _ _⟩)
set_option maxRecDepth 100000 in
set_option maxHeartbeats 1000000 in
theorem refHas3_any (K T k : ByteArray) (l m s e : Int) (w : World) : Calls Try.prog 21 #[.agg #[.int .u8 3, .string K, .string T, .int .i64 l, .int .i64 m], .agg #[.string k, .int .i64 s, .int .i64 e]] w (PartP w (.bool (decide (l ≤ e) && decide (e < m)))) := by
  by_cases hq : l ≤ e
  · go_enter Try.func21, Try.ntmps21
    go_wp2_with fail
    go_ret
    exact ⟨by simp [hq], below_al2 _ _ _⟩
  · go_enter Try.func21, Try.ntmps21
    go_wp2_with fail
    go_ret
    exact ⟨by simp; omega, below_al2 _ _ _⟩
set_option maxRecDepth 100000 in
set_option maxHeartbeats 1000000 in
theorem refHas0_any (k0 : Nat) (K T k : ByteArray) (l m s e : Int) (w : World) (h1 : k0 ≠ 1) (h2 : k0 ≠ 2) (h3 : k0 ≠ 3) : Calls Try.prog 21 #[.agg #[.int .u8 (k0 : Int), .string K, .string T, .int .i64 l, .int .i64 m], .agg #[.string k, .int .i64 s, .int .i64 e]] w (PartP w (.bool (false))) := by
  have i1 : ¬ (k0 : Int) = 1 := by omega
  have i2 : ¬ (k0 : Int) = 2 := by omega
  have i3 : ¬ (k0 : Int) = 3 := by omega
  go_enter Try.func21, Try.ntmps21
  go_wp2_with fail
  go_ret
  exact ⟨rfl, below_al2 _ _ _⟩
theorem refHas_any (f : Fl) (p : Pn) (w : World) : Calls Try.prog 21 #[f.val, p.val] w (PartP w (.bool (f.has p))) := by
  obtain ⟨k, K, T, l, m⟩ := f
  obtain ⟨pk, s, e⟩ := p
  by_cases h1 : k = 1
  · subst h1
    exact refHas1_any K T pk l m s e w
  · by_cases h2 : k = 2
    · subst h2
      exact refHas2_any K T pk l m s e w
    · by_cases h3 : k = 3
      · subst h3
        exact refHas3_any K T pk l m s e w
      · have := refHas0_any k K T pk l m s e w h1 h2 h3
        unfold Fl.has
        simp only [if_neg h1, if_neg h2, if_neg h3]
        exact this
theorem size_isnil (K : ByteArray) : decide (1 ≤ K.size) = !K.toList.isEmpty := by
  rw [ByteArray.toList_eq]
  show decide (1 ≤ K.data.toList.length) = _
  cases K.data.toList <;> simp
set_option maxRecDepth 100000 in
set_option maxHeartbeats 1000000 in
theorem refRight1_any (K T : ByteArray) (l m : Int) (w : World) : Calls Try.prog 31 #[.agg #[.int .u8 1, .string K, .string T, .int .i64 l, .int .i64 m]] w (PartP w (.bool (!K.toList.isEmpty && decide (K.size ≤ 32) && (T.toList.isEmpty && (m == 0))))) := by
  have e := size_isnil K
  have e1 : decide ((1 : Int) ≤ K.size) = !K.toList.isEmpty := by rw [← e, decide_eq_decide]; omega
  have e2 : decide ((K.size : Int) ≤ 32) = decide (K.size ≤ 32) := by rw [decide_eq_decide]; omega
  rw [← e1, ← e2]
  have HE := Lib.hid e2
  clear e e1 e2
  go_enter Try.func31, Try.ntmps31
  go_wp2_with fail
  all_goals (go_ret; exact ⟨by first | (simp_all; done) | (simp_all; omega), (Below.refl _ _).alloc (Nat.le_refl _) _⟩)
set_option maxRecDepth 100000 in
set_option maxHeartbeats 1000000 in
theorem refRight2_any (K T : ByteArray) (l m : Int) (w : World) : Calls Try.prog 31 #[.agg #[.int .u8 2, .string K, .string T, .int .i64 l, .int .i64 m]] w (PartP w (.bool (decide (K.size ≤ 32) && decide (T.size ≤ 32) && ((l == 0) && (m == 0))))) := by
  have e2 : decide ((K.size : Int) ≤ 32) = decide (K.size ≤ 32) := by rw [decide_eq_decide]; omega
  have e3 : decide ((T.size : Int) ≤ 32) = decide (T.size ≤ 32) := by rw [decide_eq_decide]; omega
  rw [← e2, ← e3]
  clear e2 e3
  go_enter Try.func31, Try.ntmps31
  go_wp2_with fail
  all_goals (go_ret; exact ⟨by first | (simp_all; done) | (simp_all; omega), (Below.refl _ _).alloc (Nat.le_refl _) _⟩)
set_option maxRecDepth 100000 in
set_option maxHeartbeats 1000000 in
theorem refRight3_any (K T : ByteArray) (l m : Int) (w : World) : Calls Try.prog 31 #[.agg #[.int .u8 3, .string K, .string T, .int .i64 l, .int .i64 m]] w (PartP w (.bool (K.toList.isEmpty && T.toList.isEmpty))) := by
  go_enter Try.func31, Try.ntmps31
  go_wp2_with fail
  all_goals (go_ret; exact ⟨by first | (simp_all; done) | (simp_all; omega), (Below.refl _ _).alloc (Nat.le_refl _) _⟩)
theorem refRight_any (f : Fl) (w : World) : Calls Try.prog 31 #[f.val] w (PartP w (.bool f.right)) := by
  obtain ⟨k, K, T, l, m⟩ := f
  by_cases h1 : k = 1
  · subst h1
    exact refRight1_any K T l m w
  · by_cases h2 : k = 2
    · subst h2
      exact refRight2_any K T l m w
    · by_cases h3 : k = 3
      · subst h3
        exact refRight3_any K T l m w
      · unfold Fl.right Fl.val
        simp only [if_neg h1, if_neg h2, if_neg h3]
        have i1 : ¬ (k : Int) = 1 := by omega
        have i2 : ¬ (k : Int) = 2 := by omega
        have i3 : ¬ (k : Int) = 3 := by omega
        go_enter Try.func31, Try.ntmps31
        go_wp2_with fail
        go_ret
        exact ⟨rfl, (Below.refl _ _).alloc (Nat.le_refl _) _⟩
end Go.Proofs.Ytponelbfddfliaa
