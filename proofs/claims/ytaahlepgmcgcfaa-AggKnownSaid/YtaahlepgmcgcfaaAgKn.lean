/- Stage 5's closed statement, walked. -/
import Derived.Test.YtaahlepgmcgcfaaAgJo
import Derived.Test.YtaahlepgmcgcfaaAgZ
namespace Go.Proofs.Ytaahlepgmcgcfaa
open Go.ChangeShapes Go.WideShapes Go.ChangeAt Go.RowKit

def NL5 : List Int := [0, 1, -1, 5, 9223372036854775807, -9223372036854775808, 4611686018427387904, -4611686018427387904]
def NV5 : Array Value := #[.int .i64 0, .int .i64 1, .int .i64 (-1), .int .i64 5, .int .i64 9223372036854775807, .int .i64 (-9223372036854775808), .int .i64 4611686018427387904, .int .i64 (-4611686018427387904)]
theorem NL5_ok (q : Nat) : i64ok (NL5.getD q 0) := by
  rcases Nat.lt_or_ge q 8 with h | h
  · have : ∀ q, q < 8 → (decide (-9223372036854775808 ≤ NL5.getD q 0) && decide (NL5.getD q 0 ≤ 9223372036854775807)) = true := by decide
    have := this q h
    rw [Bool.and_eq_true, decide_eq_true_eq, decide_eq_true_eq] at this
    exact this
  · rw [List.getD_eq_getElem?_getD, List.getElem?_eq_none (by simpa [NL5] using h)]
    exact ⟨by decide, by decide⟩
theorem NV5_at {q : Nat} (h : q < 8) : NV5[q]? = some (.int .i64 (NL5.getD q 0)) := by
  rw [show NV5 = (i64s NL5).toArray from rfl, List.getElem?_toArray]
  exact i64s_at h
theorem i64ok_one : i64ok 1 := ⟨by decide, by decide⟩
section
variable {P : Program} (t e : TypeId) (i : TypeInfo) (ht : P.underlying t = some (.slice e)) (hi : P.info? e = some i) (hz : i.size = 7) (a : Option Addr) (len cap : Nat)
include ht hi hz
theorem run_cut7_l (l : Nat) (v : Int) (hv : v = l) (h1 : l ≤ len) (W : World) : (Instr.sliceAt t (.slice a len cap) (some (.int .i64 v)) none none).run P W = .ok (.slice (if cap = l then a else a.map (·.add (l * 7))) (len - l) (cap - l)) W := by
  subst hv
  have hl := run_sliceBound (P := P) (w := W) .i64 (l : Int) len .sliceB (by omega) (by omega)
  simp [Instr.sliceAt, Instr.slice, run_underlying ht, Instr.sliceBounds, hl, sizeOf, typeInfo, hi, hz]
end
theorem RowsIn.cut7 {w : World} {B n c : Nat} {A : Option Addr} {l : List Rw} (h : RowsIn w B A n l) {i : Nat} (hi : i ≤ n) (hc : n ≤ c) : RowsIn w B (if c = i then A else A.map (·.add (i * 7))) (n - i) (l.drop i) := by
  refine ⟨by rw [List.length_drop, h.1], fun h0 => ?_⟩
  obtain ⟨b, off, rfl, hb, hcl⟩ := h.2 (by omega)
  rw [if_neg (by omega)]
  refine ⟨b, off + i * 7, by simp [add_at], hb, fun k hk j hj => ?_⟩
  have := hcl (i + k) (by omega) j hj
  rw [show off + i * 7 + k * 7 + j = off + (i + k) * 7 + j by omega, this]
  congr 2
  rw [List.getD_eq_getElem?_getD, List.getD_eq_getElem?_getD, List.getElem?_drop]
theorem RowsIn.head {w : World} {B n : Nat} {A : Option Addr} {l : List Rw} (h : RowsIn w B A n l) {i : Nat} (hi : i ≤ n) : RowsIn w B A i (l.take i) := by
  refine ⟨by rw [List.length_take, h.1]; omega, fun h0 => ?_⟩
  obtain ⟨b, off, rfl, hb, hcl⟩ := h.2 (by omega)
  refine ⟨b, off, rfl, hb, fun k hk j hj => ?_⟩
  rw [hcl k (by omega) j hj]
  congr 2
  rw [List.getD_eq_getElem?_getD, List.getD_eq_getElem?_getD, List.getElem?_take_of_lt hk]
theorem ints_blk3 {W : World} {g T : Nat} {x0 x1 x2 : Int} (h : Blk W g T #[.int .i64 x0, .int .i64 x1, .int .i64 x2]) (h0 : i64ok x0) (h1 : i64ok x1) (h2 : i64ok x2) : Ints W W.heap.size (some ⟨g, 0, none⟩) 3 [x0, x1, x2] := by
  refine ⟨rfl, by intro x hx; simp at hx; rcases hx with rfl | rfl | rfl <;> assumption, fun _ => ⟨g, 0, rfl, h.lt, fun i hi => ?_⟩⟩
  rw [Nat.zero_add, h.cell]
  rcases (by omega : i = 0 ∨ i = 1 ∨ i = 2) with rfl | rfl | rfl <;> rfl
set_option maxRecDepth 100000 in
set_option maxHeartbeats 8000000 in
theorem aggKnown_any (w : World) : Calls Try.prog 5 #[] w fun e w' => e = .returned (.bool true) ∧ Below w.heap.size w w' := by
  obtain ⟨i0, hi, hz0, hz1, hz2⟩ := info_parts Try.info35
  have HI := Lib.hid (And.intro hi (And.intro hz0 (And.intro hz1 hz2)))
  clear hi hz0 hz1 hz2
  have h0 := (Held.start w).new NV5 2
  have S0 := Lib.hid h0
  clear h0
  go_enter Try.func5, Try.ntmps5
  go_wp2_with fail
  go_loopw [2, 3, 4] (fun i _ _ wr => ∃ j : Nat, j ≤ 512 ∧ i = .int .i64 (j : Int) ∧ Held w wr [(w.heap.size, 2, NV5)]) (fun i _ _ _ => 512 - (intOf i).toNat)
  case atStart => exact ⟨0, by omega, rfl, S0.out⟩
  case round =>
    obtain ⟨j, hj, rfl, hs⟩ := hrel
    have SJ := Lib.hid hs
    clear hs S0
    by_cases hlt : j < 512
    · obtain ⟨q1, e1⟩ : ∃ q, j % 8 = q := ⟨_, rfl⟩
      obtain ⟨d1, e2⟩ : ∃ q, j / 8 = q := ⟨_, rfl⟩
      obtain ⟨q2, e3⟩ : ∃ q, d1 % 8 = q := ⟨_, rfl⟩
      obtain ⟨q3, e4⟩ : ∃ q, j / 64 = q := ⟨_, rfl⟩
      have t1 : (j : Int).tmod 8 = (q1 : Int) := by rw [Int.tmod_eq_emod_of_nonneg (by omega)]; omega
      have t2 : (j : Int).tdiv 8 = (d1 : Int) := by rw [Int.tdiv_eq_ediv_of_nonneg (by omega)]; omega
      have t3 : (d1 : Int).tmod 8 = (q2 : Int) := by rw [Int.tmod_eq_emod_of_nonneg (by omega)]; omega
      have t4 : (j : Int).tdiv 64 = (q3 : Int) := by rw [Int.tdiv_eq_ediv_of_nonneg (by omega)]; omega
      have u1 : IntKind.i64.wrap (d1 : Int) = (d1 : Int) := IntWalk.i64_in _ (by omega)
      have u2 : IntKind.i64.wrap (q3 : Int) = (q3 : Int) := IntWalk.i64_in _ (by omega)
      have l1 : q1 < 8 := by omega
      have l2 : q2 < 8 := by omega
      have l3 : q3 < 8 := by omega
      obtain ⟨x0, hx0⟩ : ∃ x, NL5.getD q1 0 = x := ⟨_, rfl⟩
      obtain ⟨x1, hx1⟩ : ∃ x, NL5.getD q2 0 = x := ⟨_, rfl⟩
      obtain ⟨x2, hx2⟩ : ∃ x, NL5.getD q3 0 = x := ⟨_, rfl⟩
      have P : Hid (∀ W, Below wr.heap.size wr W → W.cell? ⟨w.heap.size, q1, none⟩ = some (.int .i64 x0) ∧ W.cell? ⟨w.heap.size, q2, none⟩ = some (.int .i64 x1) ∧ W.cell? ⟨w.heap.size, q3, none⟩ = some (.int .i64 x2)) := Lib.hid fun W hW => by
        have k := (SJ.out.step hW).top
        exact ⟨(k.cell q1).trans (by rw [← hx0]; exact NV5_at l1), (k.cell q2).trans (by rw [← hx1]; exact NV5_at l2), (k.cell q3).trans (by rw [← hx2]; exact NV5_at l3)⟩
      have OK : Hid (i64ok x0 ∧ i64ok x1 ∧ i64ok x2) := Lib.hid ⟨hx0 ▸ NL5_ok q1, hx1 ▸ NL5_ok q2, hx2 ▸ NL5_ok q3⟩
      have D0 : Hid (Below wr.heap.size wr wr.drew) := Lib.hid (Below.refl _ _).drew
      have i1 : (0 : Int) ≤ q1 := by omega
      have i2 : (q1 : Int) < 8 := by omega
      have i3 : (0 : Int) ≤ q2 := by omega
      have i4 : (q2 : Int) < 8 := by omega
      have i5 : (0 : Int) ≤ q3 := by omega
      have i6 : (q3 : Int) < 8 := by omega
      have i7 : (j : Int) < 512 := by omega
      clear e1 e2 e3 e4 hx0 hx1 hx2
      go_wp2_with fail
      go_region_held3 (fun W => W.cell? ⟨w.heap.size, q1, none⟩ = some (.int .i64 x0) ∧ W.cell? ⟨w.heap.size, q2, none⟩ = some (.int .i64 x1) ∧ W.cell? ⟨w.heap.size, q3, none⟩ = some (.int .i64 x2)) (first | with_reducible exact P.out _ D0.out | (refine P.out _ ?_; (repeat' first | (with_reducible exact D0.out) | (with_reducible exact Below.refl _ _) | (with_reducible refine Below.drew ?_) | (with_reducible refine Below.alloc ?_ ?_ _) | (simp; done) | (simp; omega)))) (fail)
      have S1 := Lib.hid ((SJ.out.new #[.int .i64 x0, .int .i64 x1, .int .i64 x2] 2).drew)
      obtain ⟨W6, hW6⟩ : ∃ W, (wr.alloc (.cells #[.int .i64 x0, .int .i64 x1, .int .i64 x2] 2)).drew = W := ⟨_, rfl⟩
      have hz6 : wr.heap.size < W6.heap.size := by rw [← hW6]; show wr.heap.size < (wr.alloc _).heap.size; simp
      rw [hW6] at S1 ⊢
      clear hW6 P D0 t1 t2 t3 t4 u1 u2 i1 i2 i3 i4 i5 i6 l1 l2 l3
      obtain ⟨q4, e1⟩ : ∃ q, j % 3 = q := ⟨_, rfl⟩
      obtain ⟨q5, e2⟩ : ∃ q, j % 4 = q := ⟨_, rfl⟩
      obtain ⟨d2, e3⟩ : ∃ q, j / 3 = q := ⟨_, rfl⟩
      have t1 : (j : Int).tmod 3 = (q4 : Int) := by rw [Int.tmod_eq_emod_of_nonneg (by omega)]; omega
      have t2 : (j : Int).tmod 4 = (q5 : Int) := by rw [Int.tmod_eq_emod_of_nonneg (by omega)]; omega
      have t3 : (j : Int).tdiv 3 = (d2 : Int) := by rw [Int.tdiv_eq_ediv_of_nonneg (by omega)]; omega
      have u1 : IntKind.i64.wrap (d2 : Int) = (d2 : Int) := IntWalk.i64_in _ (by omega)
      obtain ⟨x3, hx3⟩ : ∃ x, [x0, x1, x2].getD q4 0 = x := ⟨_, rfl⟩
      have hc3 : (#[.int .i64 x0, .int .i64 x1, .int .i64 x2] : Array Value)[q4]? = some (.int .i64 x3) := by
        rw [show (#[.int .i64 x0, .int .i64 x1, .int .i64 x2] : Array Value) = (i64s [x0, x1, x2]).toArray from rfl, List.getElem?_toArray, ← hx3]
        exact i64s_at (by show q4 < 3; omega)
      have ok3 : i64ok x3 := by
        rcases (by omega : q4 = 0 ∨ q4 = 1 ∨ q4 = 2) with h | h | h
        · rw [← hx3, h]; exact OK.out.1
        · rw [← hx3, h]; exact OK.out.2.1
        · rw [← hx3, h]; exact OK.out.2.2
      have PP : Hid (∀ W, Below W6.heap.size W6 W → W.cell? ⟨wr.heap.size, 0, none⟩ = some (.int .i64 x0) ∧ W.cell? ⟨wr.heap.size, 1, none⟩ = some (.int .i64 x1) ∧ W.cell? ⟨wr.heap.size, 2, none⟩ = some (.int .i64 x2) ∧ W.cell? ⟨wr.heap.size, q4, none⟩ = some (.int .i64 x3)) := Lib.hid fun W hW => by
        have k := (S1.out.step hW).top
        exact ⟨k.cell 0, k.cell 1, k.cell 2, (k.cell q4).trans hc3⟩
      have D0 : Hid (Below W6.heap.size W6 W6.drew) := Lib.hid (Below.refl _ _).drew
      have i1 : (0 : Int) ≤ q4 := by omega
      have i2 : (q4 : Int) < 3 := by omega
      have HZ := Lib.hid (And.intro ok3 hz6)
      clear hx3 hc3 ok3 e1 e2 e3 hz6
      go_wp2_with fail
      go_region_held3 (fun W => W.cell? ⟨wr.heap.size, 0, none⟩ = some (.int .i64 x0) ∧ W.cell? ⟨wr.heap.size, 1, none⟩ = some (.int .i64 x1) ∧ W.cell? ⟨wr.heap.size, 2, none⟩ = some (.int .i64 x2) ∧ W.cell? ⟨wr.heap.size, q4, none⟩ = some (.int .i64 x3)) (first | with_reducible exact PP.out _ D0.out | (refine PP.out _ ?_; (repeat' first | (with_reducible exact D0.out) | (with_reducible exact Below.refl _ _) | (with_reducible refine Below.drew ?_) | (with_reducible refine Below.setCell ?_ ?_ _) | (with_reducible refine Below.alloc ?_ ?_ _) | (simp; done) | (simp; omega)))) (fail)
      have S2 := Lib.hid ((S1.out.new #[.int .i64 x0, .int .i64 x1, .int .i64 x2, .int .i64 x3] 33).drew)
      obtain ⟨W7, hW7⟩ : ∃ W, (W6.alloc (.cells #[.int .i64 x0, .int .i64 x1, .int .i64 x2, .int .i64 x3] 33)).drew = W := ⟨_, rfl⟩
      rw [hW7] at S2 ⊢
      clear hW7 PP D0 t1 i1 i2
      have P7 : Hid (∀ W, Below W7.heap.size W7 W → W.cell? ⟨W6.heap.size, 0, none⟩ = some (.int .i64 x0) ∧ W.cell? ⟨W6.heap.size, 1, none⟩ = some (.int .i64 x1) ∧ W.cell? ⟨W6.heap.size, 2, none⟩ = some (.int .i64 x2) ∧ W.cell? ⟨W6.heap.size, 3, none⟩ = some (.int .i64 x3) ∧ W.cell? ⟨wr.heap.size, 0, none⟩ = some (.int .i64 x0) ∧ W.cell? ⟨wr.heap.size, 1, none⟩ = some (.int .i64 x1) ∧ W.cell? ⟨wr.heap.size, 2, none⟩ = some (.int .i64 x2)) := Lib.hid fun W hW => by
        have h := S2.out.step hW
        have k := h.at_ (List.mem_cons_self ..)
        have k' := h.at_ (List.mem_cons_of_mem _ (List.mem_cons_self ..))
        exact ⟨k.cell 0, k.cell 1, k.cell 2, k.cell 3, k'.cell 0, k'.cell 1, k'.cell 2⟩
      have IN : Hid (∀ W, Below W7.heap.size W7 W → Ints W W.heap.size (some ⟨wr.heap.size, 0, none⟩) 3 [x0, x1, x2]) := Lib.hid fun W hW => ints_blk3 ((S2.out.step hW).at_ (List.mem_cons_of_mem _ (List.mem_cons_self ..))) OK.out.1 OK.out.2.1 OK.out.2.2
      have CT : Hid (∀ W, Below W7.heap.size W7 W → Calls Try.prog 23 #[.slice (some ⟨wr.heap.size, 0, none⟩) 3 3, .agg #[.int .i64 x0, .int .i64 x1, .int .i64 x2, .int .i64 x3], .int .i64 x2] W fun e w' => e = .returned (.bool true) ∧ Below W.heap.size W w') := Lib.hid fun W hW => aggTells_any 3 3 W.heap.size _ [x0, x1, x2] ⟨x0, x1, x2, x3⟩ x2 W (IN.out W hW) (Nat.le_refl _) (by omega) ⟨OK.out.1, OK.out.2.1, OK.out.2.2, HZ.out.1⟩ OK.out.2.2
      have CP : Hid (∀ W, Below W7.heap.size W7 W → Calls Try.prog 4 #[.slice (some ⟨wr.heap.size, 0, none⟩) 3 3, .int .i64 (q5 : Int), .int .i64 (d2 : Int)] W fun e w' => e = .returned (.bool true) ∧ Below W.heap.size W w') := Lib.hid fun W hW => aggParts_any 3 3 _ [x0, x1, x2] _ _ W (IN.out W hW) (by omega) (by omega)
      have CJ : Hid (∀ W : World, Calls Try.prog 24 #[.slice (some ⟨W.heap.size, 0, none⟩) 4 4] (W.alloc (.cells #[.int .i64 x0, .int .i64 x1, .int .i64 x2, .int .i64 x3, .int .i64 1, .int .i64 x1, .int .i64 x1, .int .i64 x1, .int .i64 0, .int .i64 0, .int .i64 0, .int .i64 0, .int .i64 x1, .int .i64 x0, .int .i64 1, .int .i64 x2] 33)) fun e w' => e = .returned (.bool true) ∧ Below (W.alloc (.cells #[.int .i64 x0, .int .i64 x1, .int .i64 x2, .int .i64 x3, .int .i64 1, .int .i64 x1, .int .i64 x1, .int .i64 x1, .int .i64 0, .int .i64 0, .int .i64 0, .int .i64 0, .int .i64 x1, .int .i64 x0, .int .i64 1, .int .i64 x2] 33)).heap.size (W.alloc (.cells #[.int .i64 x0, .int .i64 x1, .int .i64 x2, .int .i64 x3, .int .i64 1, .int .i64 x1, .int .i64 x1, .int .i64 x1, .int .i64 0, .int .i64 0, .int .i64 0, .int .i64 0, .int .i64 x1, .int .i64 x0, .int .i64 1, .int .i64 x2] 33)) w') := Lib.hid fun W => aggJoins_any 4 4 (W.heap.size + 1) _ _ _ (agg_lit4 W ⟨x0, x1, x2, x3⟩ (Ag.one x1) Ag.none' ⟨x1, x0, 1, x2⟩ ⟨OK.out.1, OK.out.2.1, OK.out.2.2, HZ.out.1⟩ ⟨i64ok_one, OK.out.2.1, OK.out.2.1, OK.out.2.1⟩ none_ok ⟨OK.out.2.1, OK.out.1, i64ok_one, OK.out.2.2⟩ _ rfl _ rfl) (by simp) (by omega)
      have E0 : Hid (Below W7.heap.size W7 W7.drew) := Lib.hid (Below.refl _ _).drew
      go_wp2_with fail
      go_region_held3 (fun W => W.cell? ⟨W6.heap.size, 0, none⟩ = some (.int .i64 x0) ∧ W.cell? ⟨W6.heap.size, 1, none⟩ = some (.int .i64 x1) ∧ W.cell? ⟨W6.heap.size, 2, none⟩ = some (.int .i64 x2) ∧ W.cell? ⟨W6.heap.size, 3, none⟩ = some (.int .i64 x3) ∧ W.cell? ⟨wr.heap.size, 0, none⟩ = some (.int .i64 x0) ∧ W.cell? ⟨wr.heap.size, 1, none⟩ = some (.int .i64 x1) ∧ W.cell? ⟨wr.heap.size, 2, none⟩ = some (.int .i64 x2)) (first | with_reducible exact P7.out _ E0.out | with_reducible exact P7.out _ E1.out | with_reducible exact P7.out _ E2.out | with_reducible exact P7.out _ E3.out | with_reducible exact P7.out _ (E3.out.alloc E3.out.size _) | with_reducible exact P7.out _ E4.out | fail) (first
        | (go_at_call 23; (with_reducible refine (CT.out W7.drew E0.out).mono ?_); rintro e V1 ⟨rfl, b1⟩; have E1 := Lib.hid (below_next E0.out b1); clear b1)
        | (go_at_call 4; (with_reducible refine (CP.out V1 E1.out).mono ?_); rintro e V2 ⟨rfl, b2⟩; have E2 := Lib.hid (below_next E1.out b2); clear b2)
        | (go_at_call 25; (with_reducible refine (one_any x1 V2).mono ?_); rintro e V3 ⟨rfl, b3⟩; unfold aggV Ag.one; have E3 := Lib.hid (below_next E2.out b3); clear b3)
        | (go_at_call 24; (with_reducible refine (CJ.out V3).mono ?_); rintro e V4 ⟨rfl, b4⟩; have E4 := Lib.hid (below_one E3.out b4); clear b4))
      go_wp2_with fail
      exact ⟨⟨j + 1, by omega, by go_num, (S2.out.step E4.out).drop.drop⟩, by simp [intOf]; omega⟩
    · obtain rfl : j = 512 := by omega
      rw [show ((512 : Nat) : Int) = 512 from rfl]
      go_wp2_with fail
      have H1 := Lib.hid SJ.out.1
      clear SJ
      go_loopw [5, 6] (fun v i wx => ∃ (k : Nat) (X : List Rw), k ≤ 18 ∧ i = .int .i64 (k : Int) ∧ X.length = k ∧ wx.ownsRow w.heap.size 35 7 v k (rcells X) ∧ Below w.heap.size w wx) (fun _ i _ => 18 - (intOf i).toNat)
      case atStart => exact ⟨0, [], by omega, rfl, rfl, own_nil _ _ _ _, H1.out⟩
      case round =>
        obtain ⟨k, X, hk, rfl, hX, ho, hb⟩ := hrel
        have HK := Lib.hid (And.intro hX (And.intro ho hb))
        clear hX ho hb H1
        by_cases hlk : k < 18
        · obtain ⟨q, e1⟩ : ∃ q, k * 7 % 4 = q := ⟨_, rfl⟩
          obtain ⟨m1, e2⟩ : ∃ q, k % 3 = q := ⟨_, rfl⟩
          obtain ⟨m2, e3⟩ : ∃ q, k * 5 % 4 = q := ⟨_, rfl⟩
          have a1 : ((k : Int) * 7).tmod 4 = (q : Int) := by rw [Int.tmod_eq_emod_of_nonneg (by omega)]; omega
          have a2 : ((k : Int) * 7) % 4 = (q : Int) := by omega
          have a3 : (k : Int).tmod 3 = (m1 : Int) := by rw [Int.tmod_eq_emod_of_nonneg (by omega)]; omega
          have a4 : (k : Int) % 3 = (m1 : Int) := by omega
          have a5 : ((k : Int) * 5).tmod 4 = (m2 : Int) := by rw [Int.tmod_eq_emod_of_nonneg (by omega)]; omega
          have a6 : ((k : Int) * 5) % 4 = (m2 : Int) := by omega
          obtain ⟨t, ht⟩ : ∃ t, [(⟨#[]⟩ : ByteArray), ⟨#[97]⟩, ⟨#[98]⟩, ⟨#[97, 98]⟩].getD q ⟨#[]⟩ = t := ⟨_, rfl⟩
          have hq : q < 4 := by omega
          have hct : (#[.string ⟨#[]⟩, .string ⟨#[97]⟩, .string ⟨#[98]⟩, .string ⟨#[97, 98]⟩] : Array Value)[q]? = some (.string t) := by
            rw [← ht]
            rcases (by omega : q = 0 ∨ q = 1 ∨ q = 2 ∨ q = 3) with rfl | rfl | rfl | rfl <;> rfl
          have c0 : (wr.alloc (.cells #[.string ⟨#[]⟩, .string ⟨#[97]⟩, .string ⟨#[98]⟩, .string ⟨#[97, 98]⟩] 9)).cell? ⟨wr.heap.size, q, none⟩ = some (.string t) := ((Blk.new wr 9 #[.string ⟨#[]⟩, .string ⟨#[97]⟩, .string ⟨#[98]⟩, .string ⟨#[97, 98]⟩]).cell q).trans hct
          have i1 : (0 : Int) ≤ q := by omega
          have i2 : (q : Int) < 4 := by omega
          have i3 : (k : Int) < 18 := by omega
          have i4 : (0 : Int) ≤ k := by omega
          clear e1 e2 e3 ht hct
          go_wp2_with fail
          refine (row_any t (m1 : Int) (m2 : Int) _).mono ?_
          rintro e V0 ⟨rfl, b0⟩
          unfold rowV mkRow
          have HB0 := Lib.hid (below_one HK.out.2.2 b0)
          have HO0 := Lib.hid (own_below (HK.out.2.1.alloc _) b0)
          clear b0 c0
          go_wp2_with (at_builtin; refine wpList_append_own _ rfl _ _ 22 rfl w.heap.size 35 i0 (.agg #[.string ⟨#[]⟩, .int .i64 0, .int .i64 0, .int .i64 0, .int .i64 0, .int .i64 0, .int .i64 0]) 7 64 Try.underlying22 HI.out.1 HI.out.2.1 HI.out.2.2.1 HI.out.2.2.2 rfl (by decide) _ k _ rfl (HO0.out.alloc _) ⟨V0.heap.size, 0, none⟩ 1 1 [.string t, .int .i64 (m1 : Int), .int .i64 (m2 : Int), .int .i64 1, .int .i64 0, .int .i64 0, .int .i64 0] rfl rfl (cells7 V0 _ _ _ _ _ _ _ _) (by simp [Value.oneCell']) (by unfold maxLen; omega) (by omega) (by have := HB0.out.size; simp; omega) ?_; intro v' V1 ho1 hg1 _)
          have hb1 := grow_below HB0.out hg1 (fun g hg => (HO0.out.lt g hg).1)
          obtain ⟨A', c', rfl⟩ := own_slice ho1
          rw [show rcells X ++ [.string t, .int .i64 (m1 : Int), .int .i64 (m2 : Int), .int .i64 1, .int .i64 0, .int .i64 0, .int .i64 0] = rcells (X ++ [mkRow t (m1 : Int) (m2 : Int)]) by rw [rcells_snoc]; rfl] at ho1
          obtain ⟨Y, hY⟩ : ∃ Y, X ++ [mkRow t (m1 : Int) (m2 : Int)] = Y := ⟨_, rfl⟩
          have hYl : Y.length = k + 1 := by rw [← hY, List.length_append, HK.out.1]; rfl
          rw [hY] at ho1
          have hc' : k + 1 ≤ c' := by
            rcases ho1.2 with ⟨_, h⟩ | ⟨g, cap, cur, e, _, _, h, _⟩
            · omega
            · injection e with _ _ e3; omega
          have HY := Lib.hid (And.intro hYl (And.intro ho1 hb1))
          have RI : Hid (∀ W, Below V1.heap.size V1 W → RowsIn W W.heap.size A' (k + 1) Y) := Lib.hid fun W hW => RowsIn.of_own (own_below HY.out.2.1 hW)
          obtain ⟨h2, e1⟩ : ∃ q, k / 2 = q := ⟨_, rfl⟩
          have b1 : (k : Int).tdiv 2 = (h2 : Int) := by rw [Int.tdiv_eq_ediv_of_nonneg (by omega)]; omega
          have b2 : IntKind.i64.wrap (h2 : Int) = (h2 : Int) := IntWalk.i64_in _ (by omega)
          obtain ⟨A2, n2, c2, r2, hn2, hI2⟩ : ∃ A2 n2 c2, (∀ W, (Instr.sliceAt 22 (.slice A' (k + 1) c') (some (.int .i64 (h2 : Int))) none none).run Try.prog W = .ok (.slice A2 n2 c2) W) ∧ n2 ≤ 100 ∧ ∀ W, RowsIn W W.heap.size A' (k + 1) Y → RowsIn W W.heap.size A2 n2 (Y.drop h2) :=
            ⟨_, _, _, run_cut7_l (P := Try.prog) 22 35 i0 Try.underlying22 HI.out.1 HI.out.2.2.1 A' (k + 1) c' h2 (h2 : Int) rfl (by omega), by omega, fun W hW => hW.cut7 (by omega) hc'⟩
          obtain ⟨A3, n3, c3, r3, hn3, hI3⟩ : ∃ A2 n2 c2, (∀ W, (Instr.sliceAt 22 (.slice A' (k + 1) c') (some (.int .i64 (k : Int))) none none).run Try.prog W = .ok (.slice A2 n2 c2) W) ∧ n2 ≤ 100 ∧ ∀ W, RowsIn W W.heap.size A' (k + 1) Y → RowsIn W W.heap.size A2 n2 (Y.drop k) :=
            ⟨_, _, _, run_cut7_l (P := Try.prog) 22 35 i0 Try.underlying22 HI.out.1 HI.out.2.2.1 A' (k + 1) c' k (k : Int) rfl (by omega), by omega, fun W hW => hW.cut7 (by omega) hc'⟩
          have r4 : ∀ W, (Instr.sliceAt 22 (.slice A' (k + 1) c') none (some (.int .i64 1)) none).run Try.prog W = .ok (.slice A' 1 c') W := run_cut_h (P := Try.prog) 22 35 i0 Try.underlying22 HI.out.1 A' (k + 1) c' 1 (by omega)
          have CS1 : Hid (∀ W, Below V1.heap.size V1 W → Calls Try.prog 3 #[.slice A' (k + 1) c', .slice A2 n2 c2] W fun e w' => e = .returned (.bool true) ∧ Below W.heap.size W w') := Lib.hid fun W hW => aggSorts_any (k + 1) c' n2 c2 W.heap.size A' A2 _ _ W (RI.out W hW) (hI2 W (RI.out W hW)) (Nat.le_refl _) (by omega) (by omega)
          have CS2 : Hid (∀ W, Below V1.heap.size V1 W → Calls Try.prog 3 #[.slice A3 n3 c3, .slice A' 1 c'] W fun e w' => e = .returned (.bool true) ∧ Below W.heap.size W w') := Lib.hid fun W hW => aggSorts_any n3 c3 1 c' W.heap.size A3 A' _ _ W (hI3 W (RI.out W hW)) ((RI.out W hW).head (by omega)) (Nat.le_refl _) (by omega) (by omega)
          have E0 : Hid (Below V1.heap.size V1 V1.drew) := Lib.hid (Below.refl _ _).drew
          clear ho1 hg1 hb1 hY hYl hI2 hI3 e1 a1 a2 a3 a4 a5 a6 i1 i2
          go_wp2_with fail
          go_region_held3 (fun _ => True) (trivial) (first
            | (go_at_call 3; (with_reducible refine (CS1.out V1.drew E0.out).mono ?_); rintro e V2 ⟨rfl, b3⟩; have E1 := Lib.hid (below_next E0.out b3); clear b3)
            | (go_at_call 3; (with_reducible refine (CS2.out V2 E1.out).mono ?_); rintro e V3 ⟨rfl, b3⟩; have E2 := Lib.hid (below_next E1.out b3); clear b3))
          go_wp2_with fail
          exact ⟨⟨k + 1, Y, by omega, by go_num, HY.out.1, own_below HY.out.2.1 E2.out, HY.out.2.2.trans (E2.out.mono HY.out.2.2.size)⟩, by simp [intOf]; omega⟩
        · obtain rfl : k = 18 := by omega
          rw [show ((18 : Nat) : Int) = 18 from rfl]
          go_wp2_with fail
          refine (aggTells_any 0 0 0 none [] Ag.none' 0 _ Ints.nil (by omega) (by omega) none_ok none_ok.1).mono ?_
          rintro e V1 ⟨rfl, b1⟩
          have E1 := Lib.hid b1
          clear b1
          go_wp2_with fail
          refine (aggJoins_any 0 0 0 none [] _ Aggs.nil (by omega) (by omega)).mono ?_
          rintro e V2 ⟨rfl, b1⟩
          have E2 := Lib.hid (below_next E1.out b1)
          clear b1
          go_wp2_with fail
          refine (aggSorts_any 0 0 0 0 0 none none [] [] _ RowsIn.nil RowsIn.nil (by omega) (by omega) (by omega)).mono ?_
          rintro e V3 ⟨rfl, b1⟩
          have E3 := Lib.hid (below_next E2.out b1)
          clear b1
          go_wp2_with fail
          refine (aggParts_any 0 0 none [] 0 0 _ Ints.nil (by omega) (by omega)).mono ?_
          rintro e V4 ⟨rfl, b1⟩
          have E4 := Lib.hid (below_next E3.out b1)
          clear b1
          go_wp2_with fail
          refine (works_any _).mono ?_
          rintro e V5 ⟨rfl, b1⟩
          have E5 := Lib.hid (below_next E4.out b1)
          clear b1
          go_wp2_with fail
          go_ret
          exact ⟨rfl, HK.out.2.2.trans (E5.out.mono HK.out.2.2.size)⟩
end Go.Proofs.Ytaahlepgmcgcfaa
