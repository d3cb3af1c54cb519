/- KeyPuts, walked. -/
import Derived.Test.YtbafbhnnonfkpaaLawA
namespace Go.Proofs.Ytbafbhnnonfkpaa
open Go.ChangeShapes Go.WideShapes Go.ChangeAt Go.RowKit

theorem cmpRow_refl (l : List Ky.Part) : Ky.cmpRow l l = 0 := by
  have hp : ∀ p : Ky.Part, Ky.cmpPart p p = 0 := by
    intro p
    unfold Ky.cmpPart Ky.cmpI
    simp [Ky.cmp_refl]
  induction l with
  | nil => rfl
  | cons p l ih => simp [Ky.cmpRow, hp, ih]
theorem fewB_true {n : Nat} {l : List PT} (h : fewB n l = true) : (∀ p ∈ l, p.s.size ≤ 100) ∧ n ≤ 8 := of_decide_eq_true h
theorem PartsR.few {w : World} {B n : Nat} {A : Option Addr} {l : List PT} (h : PartsR w B A n l) (hf : fewB n l = true) : Parts w B A n l := h.small fun p hp => by have := (fewB_true hf).1 p hp; omega
set_option maxRecDepth 100000 in
set_option maxHeartbeats 2000000 in
theorem keyPuts_any (n c m d B : Nat) (A1 A2 : Option Addr) (l1 l2 : List PT) (w : World) (h1 : PartsR w B A1 n l1) (h2 : PartsR w B A2 m l2) (hB : B ≤ w.heap.size) (hn : n ≤ 9223372036854775807) (hm : m ≤ 9223372036854775807) :
    Calls Try.prog 3 #[.slice A1 n c, .slice A2 m d] w (TrueP w) := by
  have HP := Lib.hid (And.intro h1 h2)
  clear h1 h2
  go_enter Try.func3, Try.ntmps3
  go_wp2_with fail
  refine (few_any n c B A1 l1 w HP.out.1 hn).mono ?_
  rintro e w0 ⟨rfl, rfl⟩
  by_cases hf1 : fewB n l1 = true
  · rw [hf1]
    go_wp2_with fail
    refine (few_any m d B A2 l2 w0 HP.out.2 hm).mono ?_
    rintro e w1 ⟨rfl, rfl⟩
    by_cases hf2 : fewB m l2 = true
    · rw [hf2]
      have HQ := Lib.hid (And.intro (HP.out.1.few hf1) (HP.out.2.few hf2))
      have hn8 := (fewB_true hf1).2
      have hm8 := (fewB_true hf2).2
      have hn1 : n ≤ 1000 := by omega
      have hm1 : m ≤ 1000 := by omega
      clear HP hf1 hf2
      go_wp2_with fail
      refine (put_any n c B A1 l1 w1 HQ.out.1 hB hn1).mono ?_
      rintro e w2 ⟨T, rfl, hT, _, b2⟩
      have HT := Lib.hid hT
      have H2 := Lib.hid b2
      clear hT b2
      go_wp2_with fail
      refine (ref_any n c B A1 l1 w2 (HQ.out.1.below H2.out hB) (by have := H2.out.size; omega) hn1).mono ?_
      rintro e w3 ⟨A3, c3, rfl, ho3, b3⟩
      have H3 := Lib.hid (And.intro (below_next H2.out b3) (Parts.of_own ho3 HQ.out.1.2.1))
      clear b3 ho3
      go_wp2_with fail
      refine (refPut_any l1.length c3 w3.heap.size A3 l1 w3 H3.out.2 (Nat.le_refl _) (by have := HQ.out.1.1; omega)).mono ?_
      rintro e w4 ⟨U, rfl, hU, _, b4⟩
      obtain rfl : U = T := nums_inj (hU.trans HT.out.symm)
      have H4 := Lib.hid (below_next H3.out.1 b4)
      clear hU b4 H3 H2
      go_wp2_with fail
      refine (compare_any n c m d B A1 A2 l1 l2 w4 (HQ.out.1.below H4.out hB) (HQ.out.2.below H4.out hB) (by have := H4.out.size; omega) hn1 hm1).mono ?_
      rintro e w5 ⟨rfl, b5⟩
      have H5 := Lib.hid (below_next H4.out b5)
      clear b5 H4
      obtain ⟨R, hR⟩ : ∃ R, Ky.cmpRow (tos l1) (tos l2) = R := ⟨_, rfl⟩
      rw [hR]
      have HR := Lib.hid hR
      clear hR
      go_wp2_with fail
      refine (ref_any n c B A1 l1 w5 (HQ.out.1.below H5.out hB) (by have := H5.out.size; omega) hn1).mono ?_
      rintro e w6 ⟨A6, c6, rfl, ho6, b6⟩
      have H6 := Lib.hid (And.intro (below_next H5.out b6) (Parts.of_own ho6 HQ.out.1.2.1))
      clear b6 ho6 H5
      go_wp2_with fail
      refine (ref_any m d B A2 l2 w6 (HQ.out.2.below H6.out.1 hB) (by have := H6.out.1.size; omega) hm1).mono ?_
      rintro e w7 ⟨A7, c7, rfl, ho7, b7⟩
      have H7 := Lib.hid (And.intro (below_next H6.out.1 b7) (And.intro ((H6.out.2.below b7 (Nat.le_refl _)).more b7.size) (Parts.of_own ho7 HQ.out.2.2.1)))
      clear b7 ho7 H6
      go_wp2_with fail
      refine (refCompare_any l1.length c6 l2.length c7 w7.heap.size A6 A7 l1 l2 w7 H7.out.2.1 H7.out.2.2 (Nat.le_refl _) (by have := HQ.out.1.1; omega) (by have := HQ.out.2.1; omega)).mono ?_
      rintro e w8 ⟨rfl, b8⟩
      have H8 := Lib.hid (below_next H7.out.1 b8)
      clear b8 H7
      rw [HR.out]
      go_wp2_with fail
      refine (compare_any n c n c B A1 A1 l1 l1 w8 (HQ.out.1.below H8.out hB) (HQ.out.1.below H8.out hB) (by have := H8.out.size; omega) hn1 hn1).mono ?_
      rintro e w9 ⟨rfl, b9⟩
      rw [cmpRow_refl]
      have H9 := Lib.hid (below_next H8.out b9)
      clear b9 H8
      go_wp2_with fail
      refine (works_any w9).mono ?_
      rintro e w10 ⟨rfl, b10⟩
      have H10 := Lib.hid (below_next H9.out b10)
      clear b10 H9
      go_wp2_with fail
      go_ret
      exact ⟨rfl, H10.out⟩
    · rw [Bool.eq_false_iff.2 hf2]
      go_wp2_with fail
      refine (works_any _).mono ?_
      rintro e w2 ⟨rfl, b2⟩
      go_wp2_with fail
      go_ret
      exact ⟨rfl, b2⟩
  · rw [Bool.eq_false_iff.2 hf1]
    go_wp2_with fail
    refine (works_any _).mono ?_
    rintro e w2 ⟨rfl, b2⟩
    go_wp2_with fail
    go_ret
    exact ⟨rfl, b2⟩
end Go.Proofs.Ytbafbhnnonfkpaa
