/- NumKnown, walked. -/
import Derived.Test.YthnmphaehalceaaNumBack
namespace Go.Proofs.Ythnmphaehalceaa
open Go.ChangeShapes Go.WideShapes Go.ChangeAt Go.RowKit

def L39 : List Int := [0, 1, -1, 127, 128, -128, 16383, 16384, -16384, 2097151, 2097152, -2097152, 268435455, 268435456, -268435456, 34359738367, 34359738368, -34359738368, 4398046511103, 4398046511104, -4398046511104, 562949953421311, 562949953421312, -562949953421312, 72057594037927935, 72057594037927936, -72057594037927936, 9223372036854775807, -9223372036854775808, -9223372036854775808, 9223372036854775807, -9223372036854775808, -9223372036854775807, 4611686018427387904, -4611686018427387904, 3, -7, 3037000499, 3037000500]
theorem L39_in : ∀ x ∈ L39, -9223372036854775808 ≤ x ∧ x ≤ 9223372036854775807 := by decide
theorem cells_new (w : World) (t : TypeId) (l : List Value) : ∀ j v, l[j]? = some v → (w.alloc (.cells l.toArray t)).cell? ((⟨w.heap.size, 0, none⟩ : Addr).add j) = some v := by
  intro j v h
  rw [add_at, Nat.zero_add, (Blk.new w t _).cell]
  simpa using h
theorem min_run (p q : Nat) (W : World) : (Builtin.min_ #[3, 3] 3 #[.int .i64 (p : Int), .int .i64 (q : Int)]).run Try.prog W = .ok (.int .i64 ((min p q : Nat) : Int)) W := by
  rcases Nat.lt_or_ge q p with h | h
  · rw [Nat.min_eq_right (by omega)]
    simp [Builtin.min_, Builtin.min2, h]
  · rw [Nat.min_eq_left h]
    have : ¬ ((q : Int) < (p : Int)) := by omega
    simp [Builtin.min_, Builtin.min2, this]
theorem max_run2 (p q : Nat) (W : World) : (Builtin.max_ #[3, 3] 3 #[.int .i64 (p : Int), .int .i64 (q : Int)]).run Try.prog W = .ok (.int .i64 ((max p q : Nat) : Int)) W := by
  rcases Nat.lt_or_ge p q with h | h
  · rw [Nat.max_eq_right (by omega)]
    simp [Builtin.max_, Builtin.max2, h]
  · rw [Nat.max_eq_left h]
    have : ¬ ((p : Int) < (q : Int)) := by omega
    simp [Builtin.max_, Builtin.max2, this]
theorem own_cap {w : World} {base n c size : Nat} {e : TypeId} {A : Option Addr} {xs : List Value} (h : w.ownsRow base e size (.slice A n c) n xs) : n ≤ c := by
  rcases h.2 with ⟨hv, h0⟩ | ⟨g, cap, cur, hv, _, _, hnc, _⟩
  · omega
  · injection hv with _ _ h3
    omega
theorem neg_in (x : Int) : -9223372036854775808 ≤ wrap64 (-x) ∧ wrap64 (-x) ≤ 9223372036854775807 := by unfold wrap64; omega
set_option maxRecDepth 100000 in
set_option maxHeartbeats 4000000 in
theorem known_any (w : World) : Calls Try.prog 7 #[] w (Yes w) := by
  obtain ⟨i0, hi, hz0, hz1, hz2⟩ := info_parts Try.info2
  have HI := Lib.hid (And.intro hi (And.intro hz0 (And.intro hz1 hz2)))
  clear hi hz0 hz1 hz2
  go_enter Try.func7, Try.ntmps7
  go_wp2_with fail
  go_loopw [1, 2] (fun v i wr => ∃ j : Nat, j ≤ 10 ∧ i = .int .i64 (7 * (j : Int)) ∧ wr.ownsRow w.heap.size 2 1 v (3 * j) (i64s (L39.take (3 * j))) ∧ Below w.heap.size w wr) (fun _ i _ => (70 - intOf i).toNat)
  case atStart => exact ⟨0, by omega, by go_num, own_nil _ _ _ _, Below.refl _ _⟩
  case round =>
    obtain ⟨j, hj, rfl, hown, hbel⟩ := hrel
    have HO := Lib.hid (And.intro hown hbel)
    clear hown hbel
    by_cases hlt : j < 10
    · have h9 : wrap64 9223372036854775808 = -9223372036854775808 := by unfold wrap64; omega
      have h9a : wrap64 (-9223372036854775809) = 9223372036854775807 := by unfold wrap64; omega
      obtain rfl | rfl | rfl | rfl | rfl | rfl | rfl | rfl | rfl | rfl : j = 0 ∨ j = 1 ∨ j = 2 ∨ j = 3 ∨ j = 4 ∨ j = 5 ∨ j = 6 ∨ j = 7 ∨ j = 8 ∨ j = 9 := by omega
      · go_wp2_with (at_builtin; refine wpList_append_own _ rfl _ _ 28 rfl w.heap.size 2 i0 (.int .i64 0) 1 8 Try.underlying28 HI.out.1 HI.out.2.1 HI.out.2.2.1 HI.out.2.2.2 rfl (by decide) _ (3 * 0) _ rfl (HO.out.1.alloc _) ⟨wr.heap.size, 0, none⟩ 3 3 [.int .i64 0, .int .i64 1, .int .i64 (-1)] rfl rfl (cells_new wr _ _) (by simp [Value.oneCell']) (by unfold maxLen; omega) (by omega) (by have := HO.out.2.size; simp; omega) ?_; intro v' w1 hown1 hgrow1 _)
        refine ⟨⟨1, by omega, by go_num, hown1, grow_below HO.out.2 hgrow1 (fun g hg => (HO.out.1.lt g hg).1)⟩, ?_⟩
        simp [intOf]
      · go_wp2_with (at_builtin; refine wpList_append_own _ rfl _ _ 28 rfl w.heap.size 2 i0 (.int .i64 0) 1 8 Try.underlying28 HI.out.1 HI.out.2.1 HI.out.2.2.1 HI.out.2.2.2 rfl (by decide) _ (3 * 1) _ rfl (HO.out.1.alloc _) ⟨wr.heap.size, 0, none⟩ 3 3 [.int .i64 127, .int .i64 128, .int .i64 (-128)] rfl rfl (cells_new wr _ _) (by simp [Value.oneCell']) (by unfold maxLen; omega) (by omega) (by have := HO.out.2.size; simp; omega) ?_; intro v' w1 hown1 hgrow1 _)
        refine ⟨⟨2, by omega, by go_num, hown1, grow_below HO.out.2 hgrow1 (fun g hg => (HO.out.1.lt g hg).1)⟩, ?_⟩
        simp [intOf]
      · go_wp2_with (at_builtin; refine wpList_append_own _ rfl _ _ 28 rfl w.heap.size 2 i0 (.int .i64 0) 1 8 Try.underlying28 HI.out.1 HI.out.2.1 HI.out.2.2.1 HI.out.2.2.2 rfl (by decide) _ (3 * 2) _ rfl (HO.out.1.alloc _) ⟨wr.heap.size, 0, none⟩ 3 3 [.int .i64 16383, .int .i64 16384, .int .i64 (-16384)] rfl rfl (cells_new wr _ _) (by simp [Value.oneCell']) (by unfold maxLen; omega) (by omega) (by have := HO.out.2.size; simp; omega) ?_; intro v' w1 hown1 hgrow1 _)
        refine ⟨⟨3, by omega, by go_num, hown1, grow_below HO.out.2 hgrow1 (fun g hg => (HO.out.1.lt g hg).1)⟩, ?_⟩
        simp [intOf]
      · go_wp2_with (at_builtin; refine wpList_append_own _ rfl _ _ 28 rfl w.heap.size 2 i0 (.int .i64 0) 1 8 Try.underlying28 HI.out.1 HI.out.2.1 HI.out.2.2.1 HI.out.2.2.2 rfl (by decide) _ (3 * 3) _ rfl (HO.out.1.alloc _) ⟨wr.heap.size, 0, none⟩ 3 3 [.int .i64 2097151, .int .i64 2097152, .int .i64 (-2097152)] rfl rfl (cells_new wr _ _) (by simp [Value.oneCell']) (by unfold maxLen; omega) (by omega) (by have := HO.out.2.size; simp; omega) ?_; intro v' w1 hown1 hgrow1 _)
        refine ⟨⟨4, by omega, by go_num, hown1, grow_below HO.out.2 hgrow1 (fun g hg => (HO.out.1.lt g hg).1)⟩, ?_⟩
        simp [intOf]
      · go_wp2_with (at_builtin; refine wpList_append_own _ rfl _ _ 28 rfl w.heap.size 2 i0 (.int .i64 0) 1 8 Try.underlying28 HI.out.1 HI.out.2.1 HI.out.2.2.1 HI.out.2.2.2 rfl (by decide) _ (3 * 4) _ rfl (HO.out.1.alloc _) ⟨wr.heap.size, 0, none⟩ 3 3 [.int .i64 268435455, .int .i64 268435456, .int .i64 (-268435456)] rfl rfl (cells_new wr _ _) (by simp [Value.oneCell']) (by unfold maxLen; omega) (by omega) (by have := HO.out.2.size; simp; omega) ?_; intro v' w1 hown1 hgrow1 _)
        refine ⟨⟨5, by omega, by go_num, hown1, grow_below HO.out.2 hgrow1 (fun g hg => (HO.out.1.lt g hg).1)⟩, ?_⟩
        simp [intOf]
      · go_wp2_with (at_builtin; refine wpList_append_own _ rfl _ _ 28 rfl w.heap.size 2 i0 (.int .i64 0) 1 8 Try.underlying28 HI.out.1 HI.out.2.1 HI.out.2.2.1 HI.out.2.2.2 rfl (by decide) _ (3 * 5) _ rfl (HO.out.1.alloc _) ⟨wr.heap.size, 0, none⟩ 3 3 [.int .i64 34359738367, .int .i64 34359738368, .int .i64 (-34359738368)] rfl rfl (cells_new wr _ _) (by simp [Value.oneCell']) (by unfold maxLen; omega) (by omega) (by have := HO.out.2.size; simp; omega) ?_; intro v' w1 hown1 hgrow1 _)
        refine ⟨⟨6, by omega, by go_num, hown1, grow_below HO.out.2 hgrow1 (fun g hg => (HO.out.1.lt g hg).1)⟩, ?_⟩
        simp [intOf]
      · go_wp2_with (at_builtin; refine wpList_append_own _ rfl _ _ 28 rfl w.heap.size 2 i0 (.int .i64 0) 1 8 Try.underlying28 HI.out.1 HI.out.2.1 HI.out.2.2.1 HI.out.2.2.2 rfl (by decide) _ (3 * 6) _ rfl (HO.out.1.alloc _) ⟨wr.heap.size, 0, none⟩ 3 3 [.int .i64 4398046511103, .int .i64 4398046511104, .int .i64 (-4398046511104)] rfl rfl (cells_new wr _ _) (by simp [Value.oneCell']) (by unfold maxLen; omega) (by omega) (by have := HO.out.2.size; simp; omega) ?_; intro v' w1 hown1 hgrow1 _)
        refine ⟨⟨7, by omega, by go_num, hown1, grow_below HO.out.2 hgrow1 (fun g hg => (HO.out.1.lt g hg).1)⟩, ?_⟩
        simp [intOf]
      · go_wp2_with (at_builtin; refine wpList_append_own _ rfl _ _ 28 rfl w.heap.size 2 i0 (.int .i64 0) 1 8 Try.underlying28 HI.out.1 HI.out.2.1 HI.out.2.2.1 HI.out.2.2.2 rfl (by decide) _ (3 * 7) _ rfl (HO.out.1.alloc _) ⟨wr.heap.size, 0, none⟩ 3 3 [.int .i64 562949953421311, .int .i64 562949953421312, .int .i64 (-562949953421312)] rfl rfl (cells_new wr _ _) (by simp [Value.oneCell']) (by unfold maxLen; omega) (by omega) (by have := HO.out.2.size; simp; omega) ?_; intro v' w1 hown1 hgrow1 _)
        refine ⟨⟨8, by omega, by go_num, hown1, grow_below HO.out.2 hgrow1 (fun g hg => (HO.out.1.lt g hg).1)⟩, ?_⟩
        simp [intOf]
      · go_wp2_with (at_builtin; refine wpList_append_own _ rfl _ _ 28 rfl w.heap.size 2 i0 (.int .i64 0) 1 8 Try.underlying28 HI.out.1 HI.out.2.1 HI.out.2.2.1 HI.out.2.2.2 rfl (by decide) _ (3 * 8) _ rfl (HO.out.1.alloc _) ⟨wr.heap.size, 0, none⟩ 3 3 [.int .i64 72057594037927935, .int .i64 72057594037927936, .int .i64 (-72057594037927936)] rfl rfl (cells_new wr _ _) (by simp [Value.oneCell']) (by unfold maxLen; omega) (by omega) (by have := HO.out.2.size; simp; omega) ?_; intro v' w1 hown1 hgrow1 _)
        refine ⟨⟨9, by omega, by go_num, hown1, grow_below HO.out.2 hgrow1 (fun g hg => (HO.out.1.lt g hg).1)⟩, ?_⟩
        simp [intOf]
      · go_wp2_with (at_builtin; refine wpList_append_own _ rfl _ _ 28 rfl w.heap.size 2 i0 (.int .i64 0) 1 8 Try.underlying28 HI.out.1 HI.out.2.1 HI.out.2.2.1 HI.out.2.2.2 rfl (by decide) _ (3 * 9) _ rfl (HO.out.1.alloc _) ⟨wr.heap.size, 0, none⟩ 3 3 [.int .i64 9223372036854775807, .int .i64 (-9223372036854775808), .int .i64 (-9223372036854775808)] rfl rfl (cells_new wr _ _) (by simp [Value.oneCell']) (by unfold maxLen; omega) (by omega) (by have := HO.out.2.size; simp; omega) ?_; intro v' w1 hown1 hgrow1 _)
        refine ⟨⟨10, by omega, by go_num, hown1, grow_below HO.out.2 hgrow1 (fun g hg => (HO.out.1.lt g hg).1)⟩, ?_⟩
        simp [intOf]
    · obtain rfl : j = 10 := by omega
      go_wp2_with (at_builtin; refine wpList_append_own _ rfl _ _ 28 rfl w.heap.size 2 i0 (.int .i64 0) 1 8 Try.underlying28 HI.out.1 HI.out.2.1 HI.out.2.2.1 HI.out.2.2.2 rfl (by decide) _ (3 * 10) _ rfl (HO.out.1.alloc _) ⟨wr.heap.size, 0, none⟩ 9 9 (i64s (L39.drop 30)) rfl rfl (cells_new wr _ _) (i64s_one _) (by unfold maxLen; omega) (by omega) (by have := HO.out.2.size; simp; omega) ?_; intro v' w1 hown1 hgrow1 _; rw [i64s_append, show 3 * 10 + 9 = 39 from rfl, show L39.take (3 * 10) ++ L39.drop 30 = L39 from rfl] at hown1; obtain ⟨g, cap, rfl, hcap, hg⟩ := hown1.form (by omega); have HB := Lib.hid (grow_below HO.out.2 hgrow1 (fun g hg => (HO.out.1.lt g hg).1)); have HL := Lib.hid (Ints.of_own hown1 L39_in); have hcp := own_cap hown1; clear hown1 hgrow1)
      have L39l : L39.length = 39 := rfl
      have HLL := Lib.hid L39l
      clear L39l HO
      generalize L39 = L at HL HLL
      go_loopw [4] (fun i wr => ∃ p : Nat, p ≤ 39 ∧ i = .int .i64 (p : Int) ∧ Below w1.heap.size w1 wr) (fun i _ => 39 - (intOf i).toNat)
      case atStart => exact ⟨0, by omega, rfl, Below.refl _ _⟩
      case round =>
        obtain ⟨p, hp, rfl, hbel⟩ := hrel
        have HBP := Lib.hid hbel
        clear hbel
        by_cases hlt : p < 39
        · have hp0 : (0 : Int) ≤ p := by omega
          have hp1 : (p : Int) < 39 := by omega
          go_wp2_with fail
          go_loopw [5] (fun i wx => ∃ q : Nat, q ≤ 39 ∧ i = .int .i64 (q : Int) ∧ Below w1.heap.size w1 wx) (fun i _ => 39 - (intOf i).toNat)
          case atStart => exact ⟨0, by omega, rfl, HBP.out⟩
          case round =>
            obtain ⟨q, hq, rfl, hbel⟩ := hrel
            by_cases hqlt : q < 39
            · have hcells : ∀ i, i < 39 → w1.cell? ⟨g, i, none⟩ = some (.int .i64 (L.getD i 0)) := by
                intro i hi
                obtain ⟨b, off, e, _, hc⟩ := HL.out.2.2 (by omega)
                injection e with e
                injection e with e1 e2
                subst e1 e2
                have := hc i hi
                rw [Nat.zero_add] at this
                exact this
              obtain ⟨r, hr, hrl⟩ : ∃ r : Nat, ((p : Int) + (q : Int)).tmod 39 = (r : Int) ∧ r < 39 := tmod_ex (p + q) 39 (by omega)
              have hr0 : (0 : Int) ≤ r := by omega
              have hr1 : (r : Int) < 39 := by omega
              have hq0 : (0 : Int) ≤ q := by omega
              have hq1 : (q : Int) < 39 := by omega
              have hpq : IntKind.i64.wrap ((p : Int) + (q : Int)) = (p : Int) + (q : Int) := by rw [IntKind.wrap_i64]; omega
              have HK0 : Hid (∀ W, Below w1.heap.size w1 W → W.cell? ⟨g, p, none⟩ = some (.int .i64 (L.getD p 0)) ∧ W.cell? ⟨g, q, none⟩ = some (.int .i64 (L.getD q 0)) ∧ W.cell? ⟨g, r, none⟩ = some (.int .i64 (L.getD r 0))) :=
                Lib.hid fun W hW => ⟨(hW.cell (p := ⟨g, p, none⟩) hg).trans (hcells p hlt), (hW.cell (p := ⟨g, q, none⟩) hg).trans (hcells q hqlt), (hW.cell (p := ⟨g, r, none⟩) hg).trans (hcells r hrl)⟩
              have hz1 := HL.out.at_ p
              have hz2 := HL.out.at_ q
              obtain ⟨z1, z2, z3, hr1', hr2', HK⟩ : ∃ z1 z2 z3 : Int, (-9223372036854775808 ≤ z1 ∧ z1 ≤ 9223372036854775807) ∧ (-9223372036854775808 ≤ z2 ∧ z2 ≤ 9223372036854775807) ∧ Hid (∀ W, Below w1.heap.size w1 W → W.cell? ⟨g, p, none⟩ = some (.int .i64 z1) ∧ W.cell? ⟨g, q, none⟩ = some (.int .i64 z2) ∧ W.cell? ⟨g, r, none⟩ = some (.int .i64 z3)) := ⟨_, _, _, hz1, hz2, HK0⟩
              obtain ⟨zn, hzn, hznr⟩ : ∃ zn : Int, IntKind.i64.wrap (-z1) = zn ∧ (-9223372036854775808 ≤ zn ∧ zn ≤ 9223372036854775807) := ⟨wrap64 (-z1), by rw [IntKind.wrap_i64]; unfold wrap64; omega, neg_in z1⟩
              obtain ⟨A2, n2, c2, hn2, hnc, hcut, hI2⟩ : ∃ A2 n2 c2, n2 ≤ 39 ∧ n2 ≤ c2 ∧ (∀ W, (Instr.sliceAt 28 (.slice (some ⟨g, 0, none⟩) 39 cap) (some (.int .i64 ((min p q : Nat) : Int))) (some (.int .i64 ((max p q : Nat) : Int))) none).run Try.prog W = .ok (.slice A2 n2 c2) W) ∧ Ints w1 w1.heap.size A2 n2 ((L.take (max p q)).drop (min p q)) :=
                ⟨_, _, _, by omega, by omega, fun W => run_cut_lh (P := Try.prog) 28 2 i0 Try.underlying28 HI.out.1 HI.out.2.2.1 (some ⟨g, 0, none⟩) 39 cap (min p q) (max p q) _ rfl (by omega) (by omega) W, (HL.out.head (by omega)).cut (by omega) (by omega)⟩
              have HI2 := Lib.hid hI2
              have hmin := fun W => min_run p q W
              have hmax := fun W => max_run2 p q W
              have D0 : Below w1.heap.size w1 wr.drew := hbel.drew
              have hz4 : ∀ x ∈ [z1, z2, zn, z2], -9223372036854775808 ≤ x ∧ x ≤ 9223372036854775807 := by
                intro x hx
                simp at hx
                omega
              have HZ4 := Lib.hid hz4
              clear hcells HK0 hz1 hz2 hI2 hbel hz4
              go_wp2_with fail
              dsimp only [List.append]
              go_region_held3 (fun W => W.cell? ⟨g, p, none⟩ = some (.int .i64 z1) ∧ W.cell? ⟨g, q, none⟩ = some (.int .i64 z2) ∧ W.cell? ⟨g, r, none⟩ = some (.int .i64 z3)) (first | exact HK.out _ D0 | exact HK.out _ D1 | exact HK.out _ D2 | exact HK.out _ D3 | exact HK.out _ D4 | exact HK.out _ (D3.alloc D3.size _)) (first
                | (go_at_call 4; have _ := D3; (with_reducible refine (sums_any 4 4 _ [z1, z2, zn, z2] _ ((ints_lit _ _ [z1, z2, zn, z2] HZ4.out).more (by simp)) (by omega)).mono ?_); rintro e w5 ⟨rfl, b5⟩; have D4 := (D3.alloc D3.size _).trans (b5.mono (by have := D3.size; simp; omega)); clear D3 b5)
                | (go_at_call 6; have _ := D2; (with_reducible refine (back_any n2 c2 A2 _ p z1 z2 _ ((HI2.out.below D2 (Nat.le_refl _)).more D2.size) (by omega) hnc hr1' hr2').mono ?_); rintro e w4 ⟨rfl, b4⟩; have D3 := below_next D2 b4; clear D2 b4)
                | (go_at_call 5; have _ := D1; (with_reducible refine (floors_any z1 z2 _ hr1' hr2').mono ?_); rintro e w3 ⟨rfl, b3⟩; have D2 := below_next D1 b3; clear D1 b3)
                | (go_at_call 3; (with_reducible refine (two_any z1 z2 z3 _ hr1' hr2').mono ?_); rintro e w2 ⟨rfl, b2⟩; have D1 := below_next D0 b2; clear D0 b2))
              all_goals (try clear hmin hmax hcut hr hzn hpq)
              all_goals (try (go_wp2_with fail))
              all_goals (try go_roundw)
              all_goals (first | exact ⟨q + 1, by omega, by go_num, D4⟩ | exact ⟨⟨q + 1, by omega, by go_num, D4⟩, by simp [intOf]; omega⟩ | (simp [intOf]; omega))
            · obtain rfl : q = 39 := by omega
              go_wp2_with fail
              go_roundw
              case rel => exact ⟨p + 1, by omega, by go_num, hbel⟩
              case measure => simp [intOf]; omega
        · obtain rfl : p = 39 := by omega
          have E0 : Below w.heap.size w wr := HB.out.trans (HBP.out.mono HB.out.size)
          have hsix : ∀ x ∈ [(9223372036854775807 : Int), 9223372036854775807, 9223372036854775807, -9223372036854775808, -9223372036854775808, -9223372036854775808], -9223372036854775808 ≤ x ∧ x ≤ 9223372036854775807 := by decide
          have HS6 := Lib.hid hsix
          clear hsix
          go_wp2_with (first
            | (go_at_call 18; have _ := E3; (with_reducible refine (works_any _).mono ?_); rintro e w5 ⟨rfl, b5⟩; have E4 := below_next E3 b5)
            | (go_at_call 6; have _ := E2; (with_reducible refine (back_any 0 0 none [] 0 0 1 _ Ints.nil (by omega) (by omega) (by omega) (by omega)).mono ?_); rintro e w4 ⟨rfl, b4⟩; have E3 := below_next E2 b4; clear b4)
            | (go_at_call 4; have _ := E1; (with_reducible refine (sums_any 6 6 _ _ _ ((ints_lit _ _ _ HS6.out).more (by simp)) (by omega)).mono ?_); rintro e w3 ⟨rfl, b3⟩; have E2 := (E1.alloc E1.size _).trans (b3.mono (by have := E1.size; simp; omega)); clear b3)
            | (go_at_call 4; (with_reducible refine (sums_any 0 0 none [] _ Ints.nil (by omega)).mono ?_); rintro e w2 ⟨rfl, b2⟩; have E1 := below_next E0 b2; clear b2))
          go_ret
          exact ⟨rfl, E4⟩
end Go.Proofs.Ythnmphaehalceaa
