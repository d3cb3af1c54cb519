/- Layer 4's reference: how parts, and rows, stand. -/
import Derived.Test.YtponelbfddfliaaRefP
import Derived.Test.YtponelbfddfliaaGrow
import Derived.Laws.Cover1
namespace Go.Proofs.Ytponelbfddfliaa
open Go.ChangeShapes Go.WideShapes Go.ChangeAt Go.RowKit

theorem bytes_cmp (x y : List UInt8) : Op.bytesLess x y = decide (Ky.cmp (x.map UInt8.toNat) (y.map UInt8.toNat) = -1) := by
  induction x generalizing y with
  | nil => cases y <;> simp [Op.bytesLess, Ky.cmp]
  | cons a x ih =>
    cases y with
    | nil => simp [Op.bytesLess, Ky.cmp]
    | cons b y =>
      simp only [Op.bytesLess, List.map_cons, Ky.cmp, ih]
      have e1 : (a < b) ↔ a.toNat < b.toNat := UInt8.lt_iff_toNat_lt
      have e2 : (a == b) = decide (a.toNat = b.toNat) := by
        rw [Bool.eq_iff_iff]
        simp only [beq_iff_eq, decide_eq_true_eq]
        exact ⟨fun h => by rw [h], fun h => UInt8.toNat_inj.1 h⟩
      rw [e2]
      rcases Nat.lt_trichotomy a.toNat b.toNat with h | h | h
      · rw [if_pos h]; simp [e1, h]
      · rw [if_neg (by omega), if_neg (by omega)]
        have : ¬ a < b := by rw [e1]; omega
        simp [this, h]
      · rw [if_neg (by omega), if_pos h]
        have h1 : ¬ a < b := by rw [e1]; omega
        have h2 : ¬ a.toNat = b.toNat := by omega
        simp [h1, h2]
theorem text_cmp (a b : ByteArray) : Op.bytesLess a.toList b.toList = decide (Ky.cmp (nums a) (nums b) = -1) := by
  rw [bytes_cmp, ByteArray.toList_eq, ByteArray.toList_eq]
  rfl
theorem nums_inj {a b : ByteArray} (h : nums a = nums b) : a = b := by
  apply ByteArray.ext
  apply Array.ext'
  exact List.map_inj_right (fun x y h => UInt8.toNat_inj.1 h) |>.1 h
theorem text_ne {a b : ByteArray} (h : nums a ≠ nums b) : (a.toList == b.toList) = false := by
  rw [beq_eq_false_iff_ne]
  intro e
  rw [ByteArray.toList_eq, ByteArray.toList_eq] at e
  exact h (by unfold nums; rw [e])
def IntP (w : World) (n : Int) (e : Ending) (w' : World) : Prop := e = .returned (.int .i64 n) ∧ Below w.heap.size w w'
set_option maxRecDepth 100000 in
set_option maxHeartbeats 1000000 in
theorem refParts_any (p q : PT) (w : World) : Calls Try.prog 59 #[p.val, q.val] w (IntP w (Ky.cmpPart p.to q.to)) := by
  have hb : ∀ (o o' : Obj), Below w.heap.size w ((w.alloc o).alloc o') := fun o o' => ((Below.refl _ _).alloc (Nat.le_refl _) _).alloc (by simp) _
  have HB := Lib.hid hb
  clear hb
  unfold PT.val partV
  obtain ⟨k1, n1, s1⟩ := p
  obtain ⟨k2, n2, s2⟩ := q
  dsimp only
  rcases Nat.lt_trichotomy k1 k2 with h | h | h
  · have e : Ky.cmpPart (PT.to ⟨k1, n1, s1⟩) (PT.to ⟨k2, n2, s2⟩) = -1 := by unfold Ky.cmpPart PT.to; rw [if_pos h]
    rw [e]
    have h1 : (k1 : Int) < k2 := by omega
    have h2 : ((k1 : Int) == (k2 : Int)) = false := by rw [beq_eq_false_iff_ne]; omega
    have h3 : ¬ ((k1 : Int) = (k2 : Int)) := by omega
    have h4 : ¬ (k1 = k2) := by omega
    clear e
    go_enter Try.func59, Try.ntmps59
    go_wp2_with fail
    go_ret
    exact ⟨rfl, HB.out _ _⟩
  · subst h
    by_cases hk : k1 = 1
    · subst hk
      have e : Ky.cmpPart (PT.to ⟨1, n1, s1⟩) (PT.to ⟨1, n2, s2⟩) = Ky.cmpI n1 n2 := by unfold Ky.cmpPart PT.to; simp
      rw [e]
      clear e
      unfold Ky.cmpI
      rcases Int.lt_trichotomy n1 n2 with h | h | h
      · rw [if_pos h]
        go_enter Try.func59, Try.ntmps59
        go_wp2_with fail
        go_ret
        exact ⟨rfl, HB.out _ _⟩
      · subst h
        rw [if_neg (by omega), if_neg (by omega)]
        go_enter Try.func59, Try.ntmps59
        go_wp2_with fail
        go_ret
        exact ⟨rfl, HB.out _ _⟩
      · have h' : ¬ n1 < n2 := by omega
        rw [if_neg h', if_pos h]
        go_enter Try.func59, Try.ntmps59
        go_wp2_with fail
        go_ret
        exact ⟨rfl, HB.out _ _⟩
    · have e : Ky.cmpPart (PT.to ⟨k1, n1, s1⟩) (PT.to ⟨k1, n2, s2⟩) = Ky.cmp (nums s1) (nums s2) := by unfold Ky.cmpPart PT.to; simp [hk]
      rw [e]
      have h1 : ((k1 : Int) == 1) = false := by rw [beq_eq_false_iff_ne]; omega
      have h3 : ¬ ((k1 : Int) = 1) := by omega
      have t1 := text_cmp s1 s2
      have t2 := text_cmp s2 s1
      rw [Ky.cmp_swap (nums s1) (nums s2)] at t2
      clear e
      rcases Ky.cmp_three (nums s1) (nums s2) with h | h | h
      · rw [h] at t1 t2 ⊢
        simp at t1 t2
        clear h
        go_enter Try.func59, Try.ntmps59
        go_wp2_with fail
        go_ret
        exact ⟨rfl, HB.out _ _⟩
      · have hs := nums_inj (Ky.cmp_eq h)
        subst hs
        rw [h] at t1 ⊢
        simp at t1
        clear h t2
        go_enter Try.func59, Try.ntmps59
        go_wp2_with fail
        go_ret
        exact ⟨rfl, HB.out _ _⟩
      · have hs := text_ne (a := s1) (b := s2) (by intro e; rw [e, Ky.cmp_refl] at h; simp at h)
        rw [h] at t1 t2 ⊢
        simp at t1 t2
        clear h
        go_enter Try.func59, Try.ntmps59
        go_wp2_with fail
        go_ret
        exact ⟨rfl, HB.out _ _⟩
  · have e : Ky.cmpPart (PT.to ⟨k1, n1, s1⟩) (PT.to ⟨k2, n2, s2⟩) = 1 := by unfold Ky.cmpPart PT.to; rw [if_neg (by show ¬ k1 < k2; omega), if_pos h]
    rw [e]
    have h1 : ¬ (k1 : Int) < k2 := by omega
    have h2 : ((k1 : Int) == (k2 : Int)) = false := by rw [beq_eq_false_iff_ne]; omega
    have h3 : ¬ ((k1 : Int) = (k2 : Int)) := by omega
    have h4 : ¬ (k1 = k2) := by omega
    have h5 : ¬ k1 < k2 := by omega
    clear e
    go_enter Try.func59, Try.ntmps59
    go_wp2_with fail
    go_ret
    exact ⟨rfl, HB.out _ _⟩
end Go.Proofs.Ytponelbfddfliaa
