/- cmp.Or of errors: the first one that is not 0. -/
import Derived.Test.YtbcdacfmhjgfiaaInts
import Derived.WalkLawsBesides
namespace Go.Proofs.Ytbcdacfmhjgfiaa
open Go.ChangeShapes Go.WideShapes Go.ChangeAt Go.RowKit

def nz : List Int → Int
  | [] => 0
  | x :: l => if x = 0 then nz l else x
theorem nz_drop {l : List Int} {j : Nat} (h : j < l.length) : nz (l.drop j) = if l.getD j 0 = 0 then nz (l.drop (j + 1)) else l.getD j 0 := by
  rw [List.drop_eq_getElem_cons h, List.getD_eq_getElem?_getD, List.getElem?_eq_getElem h]
  rfl
set_option maxRecDepth 100000 in
set_option maxHeartbeats 1000000 in
theorem orE_any (n c B : Nat) (A : Option Addr) (l : List Int) (w : World) (h : Ints w B A n l) (hn : n ≤ 1000000) :
    Calls Try.prog 31 #[.slice A n c] w fun e w' => e = .returned (.int .i64 (nz l)) ∧ w = w' := by
  have HL := Lib.hid h.1
  have HP := Lib.hid h
  clear h
  go_enter Try.func31, Try.ntmps31
  go_wp2_with fail
  go_loop [8] (fun i => ∃ k : Nat, k ≤ n ∧ i = .int .i64 (k : Int) ∧ nz (l.drop k) = nz l) (fun i => n - (intOf i).toNat)
  case atStart => exact ⟨0, by omega, rfl, rfl⟩
  case round =>
    obtain ⟨k, hk, rfl, hz⟩ := hrel
    by_cases hlt : k < n
    · obtain ⟨b, off, rfl, hbB, hc⟩ := HP.out.2.2 (by omega)
      have hcell := hc k hlt
      have hd := nz_drop (l := l) (j := k) (by rw [HL.out]; exact hlt)
      obtain ⟨x, hx⟩ : ∃ x, l.getD k 0 = x := ⟨_, rfl⟩
      rw [hx] at hcell hd
      have i2 : (k : Int) < n := by omega
      have i3 : (0 : Int) ≤ k := by omega
      by_cases h0 : x = 0
      · subst h0
        rw [if_pos rfl, hz] at hd
        have HD := Lib.hid hd
        clear hc hx hd hz
        go_wp2_with fail
        go_round
        case rel => exact ⟨k + 1, by omega, by go_num, HD.out.symm⟩
        case measure => simp [intOf]; omega
      · have h1 : (x != 0) = true := by simpa using h0
        have h2 : (x == 0) = false := by simpa using h0
        rw [if_neg h0, hz] at hd
        have HD := Lib.hid hd
        clear hc hx hd hz h0
        go_wp2_with fail
        go_ret
        exact ⟨ret_int HD.out.symm, rfl⟩
    · obtain rfl : k = n := by omega
      have e : l.drop k = [] := List.drop_eq_nil_of_le (by rw [HL.out]; exact Nat.le_refl _)
      rw [e] at hz
      have HZ := Lib.hid hz
      clear hz e
      go_wp2_with fail
      go_ret
      exact ⟨ret_int HZ.out, rfl⟩
end Go.Proofs.Ytbcdacfmhjgfiaa
