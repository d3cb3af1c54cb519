/- NumSums, walked: any numbers are added as the document says. -/
import Derived.Test.YthnmphaehalceaaNumW
namespace Go.Proofs.Ythnmphaehalceaa
open Go.ChangeShapes Go.WideShapes Go.ChangeAt Go.RowKit

theorem Try.info2 : (Try.prog.info? 2).map (fun i => (i.zero, i.size, i.bytes)) = some (some (.int .i64 0), 1, 8) := by kernel_rfl
set_option maxRecDepth 100000 in
set_option maxHeartbeats 2000000 in
theorem sums_any (n c : Nat) (A : Option Addr) (l : List Int) (w : World) (h : Ints w w.heap.size A n l) (hn : n ≤ 9223372036854775807) :
    Calls Try.prog 4 #[.slice A n c] w (Yes w) := by
  by_cases h60 : 60 < n
  · go_enter Try.func4, Try.ntmps4
    go_wp2_with (go_at_call 18; (with_reducible refine (works_any _).mono ?_); rintro e w5 ⟨rfl, b5⟩)
    go_ret
    exact ⟨rfl, b5⟩
  obtain ⟨i0, hi, hz0, hz1, hz2⟩ := info_parts Try.info2
  rcases A with _ | ad
  · obtain ⟨rfl, rfl⟩ := h.none_len
    have hr := fun W : World => run_append_nil (P := Try.prog) (w := W) 28 28 2 i0 Try.underlying28 hi c
    go_enter Try.func4, Try.ntmps4
    go_wp2_with (first
      | (go_at_call 19; (with_reducible refine (sum_any 0 c _ none [] _ (Ints.nil (B := 0)) (by omega) (by omega)).mono ?_); rintro e w1 ⟨rfl, b1⟩)
      | (go_at_call 20; (with_reducible refine (refSum_any 0 0 _ none [] _ (Ints.nil (B := 0)) (by omega) (by omega)).mono ?_); rintro e w2 ⟨rfl, b2⟩))
    have HB := Lib.hid (below_next b1 b2)
    clear b1 b2
    go_loopw [8] (fun i wr => i = .int .i64 0 ∧ wr = w2) (fun _ _ => 0)
    case atStart => exact ⟨rfl, rfl⟩
    case round =>
      obtain ⟨rfl, rfl⟩ := hrel
      go_wp2_with (go_at_call 18; (with_reducible refine (works_any _).mono ?_); rintro e w5 ⟨rfl, b5⟩)
      go_ret
      exact ⟨rfl, below_next HB.out b5⟩
  have hcells := h.cells
  have hlen : (i64s l).length = n * 1 := by rw [i64s_len, h.1]; omega
  have HCE := Lib.hid hcells
  have HLE := Lib.hid hlen
  clear hcells hlen
  rcases Nat.eq_zero_or_pos n with hz | hz
  · subst hz
    obtain rfl : l = [] := List.eq_nil_of_length_eq_zero h.1
    clear h
    go_enter Try.func4, Try.ntmps4
    go_wp2_with (first
      | (at_builtin; refine wpList_append_own _ rfl _ _ 28 rfl w.heap.size 2 i0 (.int .i64 0) 1 8 Try.underlying28 hi hz0 hz1 hz2 rfl (by decide) _ 0 [] rfl (own_nil _ _ _ _) ad 0 c (i64s []) rfl HLE.out HCE.out (i64s_one []) (by unfold maxLen; omega) (by omega) (Nat.le_refl _) ?_; intro v' w1 hown hgrow _; rw [Nat.zero_add, List.nil_append] at hown; obtain ⟨A', c', rfl⟩ := own_slice hown; have HB1 := Lib.hid (below_none (show w.grownBy w1 none from hgrow)); clear hown hgrow)
      | (go_at_call 19; (with_reducible refine (sum_any 0 c _ (some ad) [] _ (Ints.nil (B := 0)) (by omega) (by omega)).mono ?_); rintro e w2 ⟨rfl, b2⟩)
      | (go_at_call 20; (with_reducible refine (refSum_any 0 c' _ A' [] _ (Ints.nil (B := 0)) (by omega) (by omega)).mono ?_); rintro e w3 ⟨rfl, b3⟩))
    have HB := Lib.hid (below_next (below_next HB1.out b2) b3)
    clear b2 b3 HB1
    go_loopw [8] (fun i wr => i = .int .i64 0 ∧ wr = w3) (fun _ _ => 0)
    case atStart => exact ⟨rfl, rfl⟩
    case round =>
      obtain ⟨rfl, rfl⟩ := hrel
      go_wp2_with (go_at_call 18; (with_reducible refine (works_any _).mono ?_); rintro e w5 ⟨rfl, b5⟩)
      go_ret
      exact ⟨rfl, below_next HB.out b5⟩
  · obtain ⟨b, off, e, hbB, -⟩ := h.2.2 hz
    injection e with e
    subst e
    have hrng := h.2.1
    have HRN := Lib.hid hrng
    have HH := Lib.hid h
    clear h hrng
    go_enter Try.func4, Try.ntmps4
    go_wp2_with (at_builtin; refine wpList_append_own _ rfl _ _ 28 rfl w.heap.size 2 i0 (.int .i64 0) 1 8 Try.underlying28 hi hz0 hz1 hz2 rfl (by decide) _ 0 [] rfl (own_nil _ _ _ _) ⟨b, off, none⟩ n c (i64s l) rfl HLE.out HCE.out (i64s_one l) (by unfold maxLen; omega) (by omega) (Nat.le_refl _) ?_; intro v' w1 hown hgrow _; rw [Nat.zero_add, List.nil_append] at hown; obtain ⟨g, cg, rfl, -, hg⟩ := hown.form hz; have HB1 := Lib.hid (below_none (show w.grownBy w1 none from hgrow)); have HO := Lib.hid (Ints.of_own hown HRN.out); clear hown hgrow HLE HCE hi hz0 hz1 hz2)
    refine (sum_any n c w.heap.size _ l w1 (HH.out.below HB1.out (Nat.le_refl _)) HB1.out.size (by omega)).mono ?_
    rintro e w2 ⟨rfl, b2⟩
    have HO2 := Lib.hid (HO.out.below b2 (Nat.le_refl _))
    have HB2 := Lib.hid (below_next HB1.out b2)
    have z2 := b2.size
    clear HO b2 HB1
    go_wp2_with fail
    refine (refSum_any n cg w1.heap.size _ l w2 HO2.out z2 (by omega)).mono ?_
    rintro e w3 ⟨rfl, b3⟩
    have HO3 := Lib.hid (HO2.out.below b3 z2)
    have HB3 := Lib.hid (below_next HB2.out b3)
    clear HO2 b3 HB2
    go_wp2_with fail
    go_loopw [8] (fun i wr => ∃ k : Nat, k ≤ n ∧ i = .int .i64 (k : Int) ∧ ∃ m, wr = w3.drewN m) (fun i _ => n - (intOf i).toNat)
    case atStart => exact ⟨0, by omega, rfl, 0, rfl⟩
    case round =>
      obtain ⟨k, hk, rfl, m, rfl⟩ := hrel
      by_cases hlt : k < n
      · have c1 : w3.cell? ⟨b, off + k, none⟩ = some (.int .i64 (l.getD k 0)) := by
          obtain ⟨b', off', e, _, hc⟩ := (HH.out.below HB3.out (Nat.le_refl _)).2.2 hz
          injection e with e
          injection e with e1 e2
          subst e1 e2
          exact hc k hlt
        have c2 : w3.cell? ⟨g, k, none⟩ = some (.int .i64 (l.getD k 0)) := by
          obtain ⟨b', off', e, _, hc⟩ := HO3.out.2.2 hz
          injection e with e
          injection e with e1 e2
          subst e1 e2
          have := hc k hlt
          rw [Nat.zero_add] at this
          exact this
        generalize l.getD k 0 = z at c1 c2
        go_wp2_with fail
        go_quiet (fail)
        go_wp2_with fail
        go_roundw
        case rel => exact ⟨k + 1, by omega, by go_num, _, rfl⟩
        case measure => simp [intOf]; omega
      · go_wp2_with (go_at_call 18; (with_reducible refine (works_any _).mono ?_); rintro e w5 ⟨rfl, b5⟩)
        go_ret
        exact ⟨rfl, (below_drewN HB3.out m).trans (b5.mono (below_drewN HB3.out m).size)⟩
end Go.Proofs.Ythnmphaehalceaa
