/- Texts compared, as bytes. -/
import Derived.Test.YtbcdacfmhjgfiaaKy
import Derived.Test.YtbcdacfmhjgfiaaMem
import Derived.Laws.Cover1
namespace Go.Proofs.Ytbcdacfmhjgfiaa
open Go.ChangeShapes Go.WideShapes Go.ChangeAt Go.RowKit

theorem bytes_cmp (x y : List UInt8) : Op.bytesLess x y = decide (Ky.cmp (x.map UInt8.toNat) (y.map UInt8.toNat) = -1) := by
  induction x generalizing y with
  | nil => cases y <;> simp [Op.bytesLess, Ky.cmp]
  | cons a x ih =>
    cases y with
    | nil => simp [Op.bytesLess, Ky.cmp]
    | cons b y =>
      simp only [Op.bytesLess, List.map_cons, Ky.cmp, ih]
      have e1 : (a < b) ↔ a.toNat < b.toNat := UInt8.lt_iff_toNat_lt
      have e2 : (a == b) = decide (a.toNat = b.toNat) := by
        rw [Bool.eq_iff_iff]
        simp only [beq_iff_eq, decide_eq_true_eq]
        exact ⟨fun h => by rw [h], fun h => UInt8.toNat_inj.1 h⟩
      rw [e2]
      rcases Nat.lt_trichotomy a.toNat b.toNat with h | h | h
      · rw [if_pos h]; simp [e1, h]
      · rw [if_neg (by omega), if_neg (by omega)]
        have : ¬ a < b := by rw [e1]; omega
        simp [this, h]
      · rw [if_neg (by omega), if_pos h]
        have h1 : ¬ a < b := by rw [e1]; omega
        have h2 : ¬ a.toNat = b.toNat := by omega
        simp [h1, h2]
theorem text_cmp (a b : ByteArray) : Op.bytesLess a.toList b.toList = decide (Ky.cmp (nums a) (nums b) = -1) := by
  rw [bytes_cmp, ByteArray.toList_eq, ByteArray.toList_eq]
  rfl
theorem nums_inj {a b : ByteArray} (h : nums a = nums b) : a = b := by
  apply ByteArray.ext
  apply Array.ext'
  exact List.map_inj_right (fun x y h => UInt8.toNat_inj.1 h) |>.1 h
theorem text_ne {a b : ByteArray} (h : nums a ≠ nums b) : (a.toList == b.toList) = false := by
  rw [beq_eq_false_iff_ne]
  intro e
  rw [ByteArray.toList_eq, ByteArray.toList_eq] at e
  exact h (by unfold nums; rw [e])
end Go.Proofs.Ytbcdacfmhjgfiaa
