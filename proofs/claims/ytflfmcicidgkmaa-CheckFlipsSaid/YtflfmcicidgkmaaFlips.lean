/- CheckFlips, walked: one, two or three turned digits make another check. -/
import Derived.Test.YtflfmcicidgkmaaBursts
namespace Go.Proofs.Ytflfmcicidgkmaa
open Go.ChangeShapes Go.WideShapes Go.ChangeAt Go.RowKit

/-- The place that a number picks among the digits of n bytes. -/
def place (n : Nat) (x : Int) : Nat := (x % (8 * (n : Int))).toNat
theorem place_lt {n : Nat} (h : 0 < n) (x : Int) : place n x < 8 * n := by
  have := Int.emod_lt_of_pos x (show (0 : Int) < 8 * n by omega)
  have := Int.emod_nonneg x (show (8 * (n : Int)) ≠ 0 by omega)
  unfold place
  omega
theorem place_eq {n : Nat} (h : 0 < n) (x : Int) : x % (8 * (n : Int)) = (place n x : Int) := by
  have := Int.emod_nonneg x (show (8 * (n : Int)) ≠ 0 by omega)
  unfold place
  omega
theorem flips_step {l : List Nat} {n : Nat} {xs : List Int} {j : Nat} (hj : j < xs.length) : Crc.flips l ((xs.take (j + 1)).map (place n)) = Crc.flip (Crc.flips l ((xs.take j).map (place n))) (place n (xs.getD j 0)) := by
  rw [List.take_succ_eq_append_getElem hj, List.map_append, List.map_cons, List.map_nil, Crc.flips_snoc, List.getD_eq_getElem?_getD, List.getElem?_eq_getElem hj]
  rfl

set_option maxRecDepth 100000 in
theorem flips_any (n c : Nat) (A : Option Addr) (l : List Nat) (i k m : Int) (w : World) (hb : Bytes w w.heap.size A n l) :
    Calls Try.prog 5 #[.slice A n c, .int .i64 i, .int .i64 k, .int .i64 m] w fun e w' => e = .returned (.bool true) ∧ Below w.heap.size w w' := by
  by_cases h1 : 300 < n
  · have e1 : decide (300 < (n : Int)) = true := by simp; omega
    go_enter Try.func5, Try.ntmps5
    go_wp2_with fail
    refine (works_any _).mono ?_
    rintro e w1 ⟨rfl, b1⟩
    go_wp2_with fail
    go_ret
    exact ⟨rfl, b1⟩
  have e1 : decide (300 < (n : Int)) = false := by simp; omega
  by_cases h2 : n = 0
  · have e2 : ((n : Int) == 0) = true := by simp [h2]
    clear h2
    go_enter Try.func5, Try.ntmps5
    go_wp2_with fail
    refine (works_any _).mono ?_
    rintro e w1 ⟨rfl, b1⟩
    go_wp2_with fail
    go_ret
    exact ⟨rfl, b1⟩
  have e2 : ((n : Int) == 0) = false := by simp [h2]
  have hn0 : 0 < n := by omega
  have HL := Lib.hid hb.1
  have HX := Lib.hid hb.2.1
  clear h2
  go_enter Try.func5, Try.ntmps5
  go_wp2_with fail
  refine (own_any n c w.heap.size A l w hb (by omega)).mono ?_
  rintro e w1 ⟨A', c', rfl, hown, b1⟩
  obtain ⟨g, cap, hv, -, hg⟩ := hown.form (by omega)
  injection hv with hv1 _ hv2
  subst hv1 hv2
  go_wp2_with fail
  have hne1 : g ≠ w1.heap.size := by omega
  have b2 : Below w.heap.size w (w1.alloc (.cells #[.int .i64 i, .int .i64 k, .int .i64 m] 3)) := b1.alloc b1.size _
  have ho2 := hown.alloc (.cells #[.int .i64 i, .int .i64 k, .int .i64 m] 3)
  have hk2 := Blk.new w1 3 #[.int .i64 i, .int .i64 k, .int .i64 m]
  have z2 : w1.heap.size < (w1.alloc (.cells #[.int .i64 i, .int .i64 k, .int .i64 m] 3)).heap.size := by simp
  generalize w1.alloc (.cells #[.int .i64 i, .int .i64 k, .int .i64 m] 3) = w2 at *
  go_loopw [29] (fun x wr => ∃ j : Nat, j ≤ 3 ∧ x = .int .i64 j ∧ wr.ownsRow w.heap.size 5 1 (.slice (some ⟨g, 0, none⟩) n c') n (u8s (Crc.flips l (([i, k, m].take j).map (place n)))) ∧ Blk wr w1.heap.size 3 #[.int .i64 i, .int .i64 k, .int .i64 m] ∧ Below w.heap.size w wr) (fun x _ => 3 - (intOf x).toNat)
  case atStart => exact ⟨0, by omega, rfl, ho2, hk2, b2⟩
  case round =>
    obtain ⟨j, hj, rfl, ho, hbk, hbl⟩ := hrel
    by_cases hlt : j < 3
    · have hint : wr.cell? ⟨w1.heap.size, j, none⟩ = some (.int .i64 ([i, k, m].getD j 0)) := by
        rw [hbk.cell]
        match j, hlt with
        | 0, _ => rfl
        | 1, _ => rfl
        | 2, _ => rfl
      have HS := Lib.hid (flips_step (l := l) (n := n) (xs := [i, k, m]) (j := j) hlt)
      have hll : (Crc.flips l (([i, k, m].take j).map (place n))).length = n := by rw [Crc.flips_len, HL.out]
      have hlx := Crc.flips_lt (([i, k, m].take j).map (place n)) l HX.out
      generalize [i, k, m].getD j 0 = x at *
      have hp1 := place_lt hn0 x
      have HP := Lib.hid (place_eq hn0 x)
      generalize Crc.flips l (([i, k, m].take j).map (place n)) = lj at *
      generalize place n x = p at *
      have hcell : wr.cell? ⟨g, p / 8, none⟩ = some (.int .u8 ((lj.getD (p / 8) 0 : Nat) : Int)) := by
        rw [ho.cellAt _ (by omega)]
        exact u8s_at (by omega)
      have hz := ho.frozenAt (p / 8)
      have HLL := Lib.hid hll
      have HLX := Lib.hid hlx
      clear hll hlx
      go_wp2_with fail
      refine (pick_any _ _ _ (by omega) (by omega)).mono ?_
      rintro e w3 ⟨rfl, rfl⟩
      rw [HP.out]
      go_wp2_with fail
      go_region
      go_wp2_with fail
      go_roundw
      case rel => exact ⟨j + 1, by omega, by go_num, by rw [HS.out, u8s_flip HLX.out]; exact (ho.stored _ _).1.drew, (hbk.far hne1 _), (hbl.setCell (p := ⟨g, p / 8, none⟩) (own_ge ho) _).drew⟩
      case measure => simp [intOf]; omega
    · obtain rfl : j = 3 := by omega
      have hne := Crc.flips_three (l := l) HX.out (by rw [HL.out]; omega) (a := place n i) (b := place n k) (c := place n m) (by rw [HL.out]; exact place_lt hn0 i) (by rw [HL.out]; exact place_lt hn0 k) (by rw [HL.out]; exact place_lt hn0 m)
      have hob : Bytes wr wr.heap.size (some ⟨g, 0, none⟩) n (Crc.flips l [place n i, place n k, place n m]) := Bytes.of_own ho (Crc.flips_lt _ _ HX.out)
      generalize Crc.flips l [place n i, place n k, place n m] = lm at *
      have HNE := Lib.hid hne
      clear hne ho hbk
      go_wp2_with fail
      refine (sum_any 1 1 (wr.heap.size + 1) _ _ _ (RowsOf.made hob (Nat.le_refl _) (by omega)) (by simp) (by omega)).mono ?_
      rintro e w3 ⟨rfl, b3⟩
      have d3 := below_one hbl b3
      clear b3
      go_wp2_with fail
      refine (sum_any 1 1 (w3.heap.size + 1) _ _ _ (RowsOf.made (hb.below d3 (Nat.le_refl _)) d3.size (by omega)) (by simp) (by omega)).mono ?_
      rintro e w4 ⟨rfl, b4⟩
      have d4 := below_one d3 b4
      have hbn : (((Crc.sum [lm] : Nat) : Int) != ((Crc.sum [l] : Nat) : Int)) = true := by
        rw [bne_iff_ne]
        have := HNE.out
        omega
      clear b4 d3
      go_wp2_with fail
      refine (works_any _).mono ?_
      rintro e w5 ⟨rfl, b5⟩
      have d5 := below_next d4 b5
      go_wp2_with fail
      go_ret
      exact ⟨rfl, d5⟩
end Go.Proofs.Ytflfmcicidgkmaa
