/- CheckBursts, walked: digits that lie within 32 make another check. -/
import Derived.Test.YtflfmcicidgkmaaParts
import Derived.Test.YtflfmcicidgkmaaCrcFlip
import Derived.RegionTactic
namespace Go.Proofs.Ytflfmcicidgkmaa
open Go.ChangeShapes Go.WideShapes Go.ChangeAt Go.RowKit

theorem shr_bit (turn k : Nat) : ((turn : Int) / 2 ^ k).tmod 2 = ((turn / 2 ^ k % 2 : Nat) : Int) := by
  have e : (turn : Int) / 2 ^ k = ((turn / 2 ^ k : Nat) : Int) := by rw [Int.natCast_ediv, Int.natCast_pow]; rfl
  rw [e, Int.tmod_eq_emod_of_nonneg (Int.natCast_nonneg _)]
  rfl
theorem shr_bit_no {turn k : Nat} (h : ¬ turn / 2 ^ k % 2 = 1) : (((turn : Int) / 2 ^ k).tmod 2 == 1) = false := by
  rw [shr_bit, beq_eq_false_iff_ne]
  intro e
  exact h (by exact Int.ofNat.inj e)
theorem own_ge {w : World} {base n c g size : Nat} {e : TypeId} {xs : List Value} (h : w.ownsRow base e size (.slice (some ⟨g, 0, none⟩) n c) n xs) : base ≤ g := (h.lt g rfl).1
/-- A digit turned in the cell of its byte. -/
theorem u8s_flip {l : List Nat} (h : ∀ x ∈ l, x < 256) (p : Nat) : u8s (Crc.flip l p) = (u8s l).set (p / 8) (.int .u8 (bits .xor .u8 ((l[p / 8]?.getD 0 : Nat) : Int) (2 ^ (p % 8) % 256))) := by
  have hx : l[p / 8]?.getD 0 < 256 := by
    rcases hy : l[p / 8]? with _ | y
    · simp
    · exact h y (List.mem_of_getElem? hy)
  have h2 : 2 ^ (p % 8) < 256 := Nat.lt_of_lt_of_le (Nat.pow_lt_pow_right (by omega) (Nat.mod_lt p (by omega))) (by omega)
  have e : ((2 : Int) ^ (p % 8) % 256) = ((2 ^ (p % 8) : Nat) : Int) := by
    rw [show ((2 : Int) ^ (p % 8)) = ((2 ^ (p % 8) : Nat) : Int) from by rw [Int.natCast_pow]; rfl]
    exact Int.emod_eq_of_lt (Int.natCast_nonneg _) (by omega)
  rw [e, u8_xor_nat _ _ hx h2]
  unfold Crc.flip
  rw [List.getD_eq_getElem?_getD]
  simp only [u8s, List.map_set]
theorem burst_no {l : List Nat} {p turn k : Nat} (h : ¬ turn / 2 ^ k % 2 = 1) : Crc.burst l p turn (k + 1) = Crc.burst l p turn k := if_neg h
theorem burst_yes {l : List Nat} {p turn k : Nat} (h : turn / 2 ^ k % 2 = 1) : Crc.burst l p turn (k + 1) = Crc.flip (Crc.burst l p turn k) (p + k) := if_pos h

set_option maxRecDepth 100000 in
theorem bursts_any (n c turn : Nat) (A : Option Addr) (l : List Nat) (at' : Int) (w : World) (hb : Bytes w w.heap.size A n l) (ht : turn < 4294967296) :
    Calls Try.prog 6 #[.slice A n c, .int .i64 at', .int .u32 (turn : Int)] w fun e w' => e = .returned (.bool true) ∧ Below w.heap.size w w' := by
  by_cases h1 : 2000 < n
  · have e1 : decide (2000 < (n : Int)) = true := by simp; omega
    go_enter Try.func6, Try.ntmps6
    go_wp2_with fail
    refine (works_any _).mono ?_
    rintro e w1 ⟨rfl, b1⟩
    go_wp2_with fail
    go_ret
    exact ⟨rfl, b1⟩
  have e1 : decide (2000 < (n : Int)) = false := by simp; omega
  by_cases h2 : n < 5
  · have e2 : decide ((n : Int) < 5) = true := by simp; omega
    go_enter Try.func6, Try.ntmps6
    go_wp2_with fail
    refine (works_any _).mono ?_
    rintro e w1 ⟨rfl, b1⟩
    go_wp2_with fail
    go_ret
    exact ⟨rfl, b1⟩
  have e2 : decide ((n : Int) < 5) = false := by simp; omega
  by_cases h3 : turn = 0
  · have e3 : ((turn : Int) == 0) = true := by simp [h3]
    clear h3
    go_enter Try.func6, Try.ntmps6
    go_wp2_with fail
    refine (works_any _).mono ?_
    rintro e w1 ⟨rfl, b1⟩
    go_wp2_with fail
    go_ret
    exact ⟨rfl, b1⟩
  have e3 : ((turn : Int) == 0) = false := by simp [h3]
  have H3 := Lib.hid h3
  have HL := Lib.hid hb.1
  have HX := Lib.hid hb.2.1
  clear h3
  go_enter Try.func6, Try.ntmps6
  go_wp2_with fail
  refine (own_any n c w.heap.size A l w hb (by omega)).mono ?_
  rintro e w1 ⟨A', c', rfl, hown, b1⟩
  go_wp2_with fail
  refine (pick_any _ _ _ (by omega) (by omega)).mono ?_
  rintro e w2 ⟨rfl, rfl⟩
  obtain ⟨p, hp⟩ := Int.eq_ofNat_of_zero_le (Int.emod_nonneg at' (show 8 * (n : Int) - 31 ≠ 0 by omega))
  have hp1 : p + 32 ≤ 8 * n := by have := Int.emod_lt_of_pos at' (show (0 : Int) < 8 * n - 31 by omega); omega
  rw [hp]
  clear hp
  obtain ⟨g, cap, hv, -, -⟩ := hown.form (by omega)
  injection hv with hv1 _ hv2
  subst hv1 hv2
  go_wp2_with fail
  go_loopw [9] (fun i wr => ∃ k : Nat, k ≤ 32 ∧ i = .int .i64 k ∧ wr.ownsRow w.heap.size 5 1 (.slice (some ⟨g, 0, none⟩) n c') n (u8s (Crc.burst l p turn k)) ∧ Below w.heap.size w wr) (fun i _ => 32 - (intOf i).toNat)
  case atStart => exact ⟨0, by omega, rfl, hown, b1⟩
  case round =>
    obtain ⟨k, hk, rfl, ho, hbl⟩ := hrel
    by_cases hlt : k < 32
    · have hlen : (Crc.burst l p turn k).length = n := by rw [Crc.burst_len, HL.out]
      have hcell : wr.cell? ⟨g, (p + k) / 8, none⟩ = some (.int .u8 (((Crc.burst l p turn k).getD ((p + k) / 8) 0 : Nat) : Int)) := by
        rw [ho.cellAt _ (by omega)]
        exact u8s_at (by omega)
      have hz := ho.frozenAt ((p + k) / 8)
      have HLen := Lib.hid hlen
      clear hlen
      by_cases hbit : turn / 2 ^ k % 2 = 1
      · have hbt : (((turn : Int) / 2 ^ k).tmod 2 == 1) = true := by rw [shr_bit, hbit]; rfl
        have HB := Lib.hid hbit
        clear hbit
        go_wp2_with fail
        go_region
        go_wp2_with fail
        go_roundw
        case rel => exact ⟨k + 1, by omega, by go_num, by rw [burst_yes HB.out, u8s_flip (Crc.burst_lt HX.out _ _ _)]; exact (ho.stored _ _).1.drew, (hbl.setCell (p := ⟨g, (p + k) / 8, none⟩) (own_ge ho) _).drew⟩
        case measure => simp [intOf]; omega
      · have hbt : (((turn : Int) / 2 ^ k).tmod 2 == 1) = false := shr_bit_no hbit
        have HB := Lib.hid hbit
        clear hbit
        go_wp2_with fail
        go_roundw
        case rel => exact ⟨k + 1, by omega, by go_num, by rw [burst_no HB.out]; exact ho, hbl⟩
        case measure => simp [intOf]; omega
    · obtain rfl : k = 32 := by omega
      have hne := Crc.burst_ne (l := l) HX.out (first := p) (turn := turn) (by rw [HL.out]; omega) H3.out ht
      have hob := Bytes.of_own ho (Crc.burst_lt HX.out _ _ _)
      have HNE := Lib.hid hne
      clear hne
      go_wp2_with fail
      refine (sum_any 1 1 (wr.heap.size + 1) _ _ _ (RowsOf.made hob (Nat.le_refl _) (by omega)) (by simp) (by omega)).mono ?_
      rintro e w3 ⟨rfl, b3⟩
      have d3 := below_one hbl b3
      clear b3
      go_wp2_with fail
      refine (sum_any 1 1 (w3.heap.size + 1) _ _ _ (RowsOf.made (hb.below d3 (Nat.le_refl _)) d3.size (by omega)) (by simp) (by omega)).mono ?_
      rintro e w4 ⟨rfl, b4⟩
      have d4 := below_one d3 b4
      have hbn : (((Crc.sum [Crc.burst l p turn 32] : Nat) : Int) != ((Crc.sum [l] : Nat) : Int)) = true := by
        rw [bne_iff_ne]
        have := HNE.out
        omega
      clear b4 d3
      go_wp2_with fail
      refine (works_any _).mono ?_
      rintro e w5 ⟨rfl, b5⟩
      have d5 := below_next d4 b5
      go_wp2_with fail
      go_ret
      exact ⟨rfl, d5⟩
end Go.Proofs.Ytflfmcicidgkmaa
