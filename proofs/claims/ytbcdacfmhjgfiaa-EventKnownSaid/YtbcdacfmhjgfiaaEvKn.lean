/- EventKnown, walked. -/
import Derived.Test.YtbcdacfmhjgfiaaLaw6C
import Derived.Test.YtbcdacfmhjgfiaaAppZero
import Derived.Test.YtbcdacfmhjgfiaaSpoil
import Derived.Laws.MakeOwn
namespace Go.Proofs.Ytbcdacfmhjgfiaa
open Go.ChangeShapes Go.WideShapes Go.ChangeAt Go.RowKit

theorem make_ex (w : World) (N : Nat) (v : Int) (hv : v = N) (hN : N ≤ 65536) : ∃ w' T, (Instr.makeSlice 29 (.int .i64 v) (.int .i64 v)).run Try.prog w = .ok (.slice (some ⟨w.heap.size, 0, none⟩) N N) w' ∧ Below w.heap.size w w' ∧ (convert 29 9 (.slice (some ⟨w.heap.size, 0, none⟩) N N)).run Try.prog w' = .ok (.string T) w' ∧ T.size = N := by
  subst hv
  obtain ⟨i0, hi, hz0, hz1, hz2⟩ := info_parts Try.info5
  obtain ⟨w', hr, ho, hg⟩ := run_make_full (P := Try.prog) (w := w) w.heap.size 29 5 i0 (.int .u8 0) 1 Try.underlying29 hi hz0 hz1 .i64 .i64 N (by rw [hz2]; omega) (by unfold maxLen; omega) (Nat.le_refl _)
  have e : (madeCells (Value.int .u8 0).cells (N * 1)).toList = u8s (List.replicate N 0) := by
    show (madeCells #[Value.int .u8 0] (N * 1)).toList = _
    rw [toList_madeCells_one, Nat.mul_one]
    simp [u8s]
  rw [e] at ho
  have hb := Bytes.of_own ho (by intro x hx; have := (List.mem_replicate.1 hx).2; omega)
  have hc := conv_bytes (c := N) hb
  exact ⟨w', _, hr, below_none hg, hc.2.2, hc.2.1⟩
theorem ev_lit (w : World) (t : TypeId) (l : List Evo) (cs : Array Value) (n : Nat) (hcs : cs = (ecells l).toArray) (hn : l.length = n) : EvIn (w.alloc (.cells cs t)) (w.heap.size + 1) (some ⟨w.heap.size, 0, none⟩) n l := by
  subst hcs
  subst hn
  refine ⟨rfl, fun _ => ⟨w.heap.size, 0, rfl, by omega, fun i hi j hj => ?_⟩⟩
  rw [Nat.zero_add, (Blk.new w t _).cell, List.getElem?_toArray]
  exact ecells_at l i j hi hj
theorem ev_two (w : World) (t : TypeId) (x y : Evo) : EvIn (w.alloc (.cells #[.int .u8 (x.k : Int), .string x.s, .int .i64 x.t, .int .i64 x.v, .int .u8 (y.k : Int), .string y.s, .int .i64 y.t, .int .i64 y.v] t)) (w.heap.size + 1) (some ⟨w.heap.size, 0, none⟩) 2 [x, y] := ev_lit w t [x, y] _ 2 rfl rfl
theorem ev_twoD (w : World) (t : TypeId) (x y : Evo) : EvIn (w.alloc (.cells #[.int .u8 (x.k : Int), .string x.s, .int .i64 x.t, .int .i64 x.v, .int .u8 (y.k : Int), .string y.s, .int .i64 y.t, .int .i64 y.v] t)).drew (w.heap.size + 1) (some ⟨w.heap.size, 0, none⟩) 2 [x, y] := ev_two w t x y
def Lk (T U : ByteArray) : List Evo := [⟨1, ⟨#[97]⟩, 0, 5⟩, ⟨1, T, 1099511627776, -9223372036854775808⟩, ⟨1, U, 0, 0⟩, ⟨1, ⟨#[]⟩, 0, 0⟩, ⟨1, ⟨#[107]⟩, -1099511627776, 9223372036854775807⟩, ⟨1, ⟨#[107]⟩, 1099511627777, 0⟩, ⟨2, ⟨#[]⟩, -1099511627776, 0⟩, ⟨2, ⟨#[]⟩, -1099511627777, 0⟩, ⟨2, ⟨#[97]⟩, 0, 0⟩, ⟨2, ⟨#[]⟩, 0, 1⟩, ⟨0, ⟨#[]⟩, 0, 0⟩, ⟨3, ⟨#[97]⟩, 0, 0⟩, ⟨2, ⟨#[]⟩, 7, 0⟩]
theorem lk_cells (T U : ByteArray) : (#[.int .u8 1, .string ⟨#[97]⟩, .int .i64 0, .int .i64 5, .int .u8 1, .string T, .int .i64 1099511627776, .int .i64 (-9223372036854775808), .int .u8 1, .string U, .int .i64 0, .int .i64 0, .int .u8 1, .string ⟨#[]⟩, .int .i64 0, .int .i64 0, .int .u8 1, .string ⟨#[107]⟩, .int .i64 (-1099511627776), .int .i64 9223372036854775807, .int .u8 1, .string ⟨#[107]⟩, .int .i64 1099511627777, .int .i64 0, .int .u8 2, .string ⟨#[]⟩, .int .i64 (-1099511627776), .int .i64 0, .int .u8 2, .string ⟨#[]⟩, .int .i64 (-1099511627777), .int .i64 0, .int .u8 2, .string ⟨#[97]⟩, .int .i64 0, .int .i64 0, .int .u8 2, .string ⟨#[]⟩, .int .i64 0, .int .i64 1, .int .u8 0, .string ⟨#[]⟩, .int .i64 0, .int .i64 0, .int .u8 3, .string ⟨#[97]⟩, .int .i64 0, .int .i64 0, .int .u8 2, .string ⟨#[]⟩, .int .i64 7, .int .i64 0] : Array Value) = (ecells (Lk T U)).toArray := rfl
theorem lk_ok (T U : ByteArray) : ∀ o ∈ Lk T U, Ev.ok o := by
  intro o ho
  simp only [Lk, List.mem_cons, List.not_mem_nil, or_false] at ho
  rcases ho with rfl | rfl | rfl | rfl | rfl | rfl | rfl | rfl | rfl | rfl | rfl | rfl | rfl <;> (refine ⟨⟨?_, ?_⟩, ?_, ?_⟩ <;> dsimp only <;> omega)
theorem u8s_put (l : List Nat) (j x : Nat) : (u8s l).set j (.int .u8 (x : Int)) = u8s (l.set j x) := by simp [u8s, List.map_set]
set_option maxRecDepth 100000 in
set_option maxHeartbeats 8000000 in
theorem eventKnown_any (w : World) : Calls Try.prog 6 #[] w (LawP w) := by
  obtain ⟨w1, T, hmk, hb1, hcv, hT⟩ := make_ex w 32 32 rfl (by omega)
  have D0 := Lib.hid hb1
  clear hb1
  go_enter Try.func6, Try.ntmps6
  go_wp2_with fail
  clear hmk hcv
  refine (evOf_any ⟨#[97]⟩ 0 5 _).mono ?_
  rintro e x1 ⟨rfl, b⟩
  have D1 := Lib.hid (below_next D0.out b)
  clear b
  go_wp2_with fail
  refine (evOf_any T 1099511627776 (-9223372036854775808) _).mono ?_
  rintro e x2 ⟨rfl, b⟩
  have D2 := Lib.hid (below_next D1.out b)
  clear b
  go_wp2_with fail
  refine (evOf_any _ 0 0 _).mono ?_
  rintro e x3 ⟨rfl, b⟩
  have D3 := Lib.hid (below_next D2.out b)
  clear b
  go_wp2_with fail
  refine (evOf_any ⟨#[]⟩ 0 0 _).mono ?_
  rintro e x4 ⟨rfl, b⟩
  have D4 := Lib.hid (below_next D3.out b)
  clear b
  go_wp2_with fail
  refine (evOf_any ⟨#[107]⟩ (-1099511627776) 9223372036854775807 _).mono ?_
  rintro e x5 ⟨rfl, b⟩
  have D5 := Lib.hid (below_next D4.out b)
  clear b
  go_wp2_with fail
  refine (evOf_any ⟨#[107]⟩ 1099511627777 0 _).mono ?_
  rintro e x6 ⟨rfl, b⟩
  have D6 := Lib.hid (below_next D5.out b)
  clear b
  go_wp2_with fail
  refine (evAt_any (-1099511627776) _).mono ?_
  rintro e x7 ⟨rfl, b⟩
  have D7 := Lib.hid (below_next D6.out b)
  clear b
  go_wp2_with fail
  refine (evAt_any (-1099511627777) _).mono ?_
  rintro e x8 ⟨rfl, b⟩
  have D8 := Lib.hid (below_next D7.out b)
  clear b
  go_wp2_with fail
  refine (evAt_any 7 _).mono ?_
  rintro e x9 ⟨rfl, b⟩
  have D9 := Lib.hid (below_next D8.out b)
  clear b
  go_upto_region 3 with (fail)
  obtain ⟨U, hU⟩ : ∃ U, T ++ ⟨#[120]⟩ = U := ⟨_, rfl⟩
  rw [hU]
  obtain ⟨W0, hW0⟩ : ∃ W, x9.alloc (.cells #[.int .u8 1, .string ⟨#[97]⟩, .int .i64 0, .int .i64 5, .int .u8 1, .string T, .int .i64 1099511627776, .int .i64 (-9223372036854775808), .int .u8 1, .string U, .int .i64 0, .int .i64 0, .int .u8 1, .string ⟨#[]⟩, .int .i64 0, .int .i64 0, .int .u8 1, .string ⟨#[107]⟩, .int .i64 (-1099511627776), .int .i64 9223372036854775807, .int .u8 1, .string ⟨#[107]⟩, .int .i64 1099511627777, .int .i64 0, .int .u8 2, .string ⟨#[]⟩, .int .i64 (-1099511627776), .int .i64 0, .int .u8 2, .string ⟨#[]⟩, .int .i64 (-1099511627777), .int .i64 0, .int .u8 2, .string ⟨#[97]⟩, .int .i64 0, .int .i64 0, .int .u8 2, .string ⟨#[]⟩, .int .i64 0, .int .i64 1, .int .u8 0, .string ⟨#[]⟩, .int .i64 0, .int .i64 0, .int .u8 3, .string ⟨#[97]⟩, .int .i64 0, .int .i64 0, .int .u8 2, .string ⟨#[]⟩, .int .i64 7, .int .i64 0] 26) = W := ⟨_, rfl⟩
  have hL0 := ev_lit x9 26 (Lk T U) _ 13 (lk_cells T U) rfl
  have hD := D9.out.alloc D9.out.size (.cells #[.int .u8 1, .string ⟨#[97]⟩, .int .i64 0, .int .i64 5, .int .u8 1, .string T, .int .i64 1099511627776, .int .i64 (-9223372036854775808), .int .u8 1, .string U, .int .i64 0, .int .i64 0, .int .u8 1, .string ⟨#[]⟩, .int .i64 0, .int .i64 0, .int .u8 1, .string ⟨#[107]⟩, .int .i64 (-1099511627776), .int .i64 9223372036854775807, .int .u8 1, .string ⟨#[107]⟩, .int .i64 1099511627777, .int .i64 0, .int .u8 2, .string ⟨#[]⟩, .int .i64 (-1099511627776), .int .i64 0, .int .u8 2, .string ⟨#[]⟩, .int .i64 (-1099511627777), .int .i64 0, .int .u8 2, .string ⟨#[97]⟩, .int .i64 0, .int .i64 0, .int .u8 2, .string ⟨#[]⟩, .int .i64 0, .int .i64 1, .int .u8 0, .string ⟨#[]⟩, .int .i64 0, .int .i64 0, .int .u8 3, .string ⟨#[97]⟩, .int .i64 0, .int .i64 0, .int .u8 2, .string ⟨#[]⟩, .int .i64 7, .int .i64 0] 26)
  have hgz := (Blk.new x9 26 #[.int .u8 1, .string ⟨#[97]⟩, .int .i64 0, .int .i64 5, .int .u8 1, .string T, .int .i64 1099511627776, .int .i64 (-9223372036854775808), .int .u8 1, .string U, .int .i64 0, .int .i64 0, .int .u8 1, .string ⟨#[]⟩, .int .i64 0, .int .i64 0, .int .u8 1, .string ⟨#[107]⟩, .int .i64 (-1099511627776), .int .i64 9223372036854775807, .int .u8 1, .string ⟨#[107]⟩, .int .i64 1099511627777, .int .i64 0, .int .u8 2, .string ⟨#[]⟩, .int .i64 (-1099511627776), .int .i64 0, .int .u8 2, .string ⟨#[]⟩, .int .i64 (-1099511627777), .int .i64 0, .int .u8 2, .string ⟨#[97]⟩, .int .i64 0, .int .i64 0, .int .u8 2, .string ⟨#[]⟩, .int .i64 0, .int .i64 1, .int .u8 0, .string ⟨#[]⟩, .int .i64 0, .int .i64 0, .int .u8 3, .string ⟨#[97]⟩, .int .i64 0, .int .i64 0, .int .u8 2, .string ⟨#[]⟩, .int .i64 7, .int .i64 0]).lt
  rw [hW0] at hL0 hD hgz
  rw [hW0]
  obtain ⟨L, hL⟩ : ∃ L, Lk T U = L := ⟨_, rfl⟩
  have hok := lk_ok T U
  rw [hL] at hok hL0
  obtain ⟨g, hg⟩ : ∃ g, x9.heap.size = g := ⟨_, rfl⟩
  rw [hg] at hL0 hgz ⊢
  have HD := Lib.hid (And.intro hD (And.intro hL0 hok))
  clear hU hW0 hD hL hok hL0 hg D0 D1 D2 D3 D4 D5 D6 D7 D8 D9
  obtain ⟨iu, hi, hz0, hz1, hz2⟩ := info_parts Try.info5
  have HI := Lib.hid (And.intro hi (And.intro hz0 (And.intro hz1 hz2)))
  clear hi hz0 hz1 hz2
  have HC : Hid (∀ W, Below W0.heap.size W0 W → ∀ j, j < 13 → ∀ x, L.getD j default = x → W.cell? ⟨g, j * 4, none⟩ = some (.int .u8 (x.k : Int)) ∧ W.cell? ⟨g, j * 4 + 1, none⟩ = some (.string x.s) ∧ W.cell? ⟨g, j * 4 + 2, none⟩ = some (.int .i64 x.t) ∧ W.cell? ⟨g, j * 4 + 3, none⟩ = some (.int .i64 x.v)) := Lib.hid fun W hW j hj x hx => by
    obtain ⟨b, off, he, hb, hc⟩ := HD.out.2.1.at_ hj
    injection he with he
    injection he with e1 e2
    subst e1 e2
    have h := hc x hx
    simp only [Nat.zero_add] at h
    exact ⟨(hW.cell (p := ⟨g, _, none⟩) hgz).trans h.1, (hW.cell (p := ⟨g, _, none⟩) hgz).trans h.2.1, (hW.cell (p := ⟨g, _, none⟩) hgz).trans h.2.2.1, (hW.cell (p := ⟨g, _, none⟩) hgz).trans h.2.2.2⟩
  go_wp2_with fail
  go_loopw [3] (fun i wr => ∃ j : Nat, j ≤ 13 ∧ i = .int .i64 (j : Int) ∧ Below W0.heap.size W0 wr) (fun i _ => 13 - (intOf i).toNat)
  case atStart => exact ⟨0, by omega, rfl, Below.refl _ _⟩
  case round =>
    obtain ⟨j, hj, rfl, hx⟩ := hrel
    have HX := Lib.hid hx
    clear hx
    by_cases hj13 : j < 13
    · have i1 : (0 : Int) ≤ j := by omega
      have i2 : (j : Int) < 13 := by omega
      obtain ⟨x, hx⟩ : ∃ x, L.getD j default = x := ⟨_, rfl⟩
      have HXX := Lib.hid hx
      clear hx
      go_wp2_with fail
      go_loopw [4] (fun i wr => ∃ k : Nat, k ≤ 13 ∧ i = .int .i64 (k : Int) ∧ Below W0.heap.size W0 wr) (fun i _ => 13 - (intOf i).toNat)
      case atStart => exact ⟨0, by omega, rfl, HX.out⟩
      case round =>
        obtain ⟨k, hk, rfl, hx⟩ := hrel
        have HY := Lib.hid hx
        clear hx
        by_cases hk13 : k < 13
        · have i3 : (0 : Int) ≤ k := by omega
          have i4 : (k : Int) < 13 := by omega
          obtain ⟨y, hy⟩ : ∃ y, L.getD k default = y := ⟨_, rfl⟩
          have P : Hid (∀ W, Below wr.heap.size wr W → (W.cell? ⟨g, j * 4, none⟩ = some (.int .u8 (x.k : Int)) ∧ W.cell? ⟨g, j * 4 + 1, none⟩ = some (.string x.s) ∧ W.cell? ⟨g, j * 4 + 2, none⟩ = some (.int .i64 x.t) ∧ W.cell? ⟨g, j * 4 + 3, none⟩ = some (.int .i64 x.v)) ∧ W.cell? ⟨g, k * 4, none⟩ = some (.int .u8 (y.k : Int)) ∧ W.cell? ⟨g, k * 4 + 1, none⟩ = some (.string y.s) ∧ W.cell? ⟨g, k * 4 + 2, none⟩ = some (.int .i64 y.t) ∧ W.cell? ⟨g, k * 4 + 3, none⟩ = some (.int .i64 y.v)) := Lib.hid fun W hW =>
            ⟨HC.out W (HY.out.trans (hW.mono HY.out.size)) j hj13 x HXX.out, HC.out W (HY.out.trans (hW.mono HY.out.size)) k hk13 y hy⟩
          have hoy : ∀ o ∈ [x, y], Ev.ok o := by
            have hl := HD.out.2.1.1
            intro o ho
            simp at ho
            rcases ho with rfl | rfl
            · exact HD.out.2.2 _ (HXX.out ▸ getD_mem (by omega))
            · exact HD.out.2.2 _ (hy ▸ getD_mem (by omega))
          have HOK := Lib.hid hoy
          have E0 : Hid (Below wr.heap.size wr wr.drew) := Lib.hid (Below.refl _ _).drew
          have E9 := Lib.hid (((Below.refl wr.heap.size wr).alloc (Nat.le_refl _) (.cells #[.int .u8 (x.k : Int), .string x.s, .int .i64 x.t, .int .i64 x.v, .int .u8 (y.k : Int), .string y.s, .int .i64 y.t, .int .i64 y.v] 26)).drew)
          clear hy hoy
          go_upto_region 9 with (fail)
          go_wp2_with fail
          go_region_held3 (fun W => (W.cell? ⟨g, j * 4, none⟩ = some (.int .u8 (x.k : Int)) ∧ W.cell? ⟨g, j * 4 + 1, none⟩ = some (.string x.s) ∧ W.cell? ⟨g, j * 4 + 2, none⟩ = some (.int .i64 x.t) ∧ W.cell? ⟨g, j * 4 + 3, none⟩ = some (.int .i64 x.v)) ∧ W.cell? ⟨g, k * 4, none⟩ = some (.int .u8 (y.k : Int)) ∧ W.cell? ⟨g, k * 4 + 1, none⟩ = some (.string y.s) ∧ W.cell? ⟨g, k * 4 + 2, none⟩ = some (.int .i64 y.t) ∧ W.cell? ⟨g, k * 4 + 3, none⟩ = some (.int .i64 y.v)) (first | with_reducible exact P.out _ E0.out | with_reducible exact P.out _ E1.out | with_reducible exact P.out _ E2.out | (refine P.out _ ?_; (repeat' first | (with_reducible exact E0.out) | (with_reducible exact E1.out) | (with_reducible exact Below.refl _ _) | (with_reducible refine Below.drew ?_) | (with_reducible refine Below.alloc ?_ ?_ _) | exact E0.out.size | exact E1.out.size)) | fail) (first
            | (go_at_call 3; (with_reducible refine (eventPuts_any 2 2 _ _ [x, y] _ (ev_twoD _ _ x y) (by simp) (by omega)).mono ?_); rintro e V1 ⟨rfl, bb⟩; have E1 := Lib.hid (E9.out.trans (bb.mono E9.out.size)); clear bb)
            | (go_at_call 5; (with_reducible refine (eventBack_any 2 2 _ 0 0 _ none [x, y] [] _ (ev_two _ _ x y) HOK.out Bytes.nil (by simp) (by omega) (by omega)).mono ?_); rintro e V2 ⟨rfl, bb⟩; have E2 := Lib.hid ((E1.out.alloc E1.out.size (.cells #[.int .u8 (x.k : Int), .string x.s, .int .i64 x.t, .int .i64 x.v, .int .u8 (y.k : Int), .string y.s, .int .i64 y.t, .int .i64 y.v] 26)).trans (bb.mono (E1.out.alloc E1.out.size (.cells #[.int .u8 (x.k : Int), .string x.s, .int .i64 x.t, .int .i64 x.v, .int .u8 (y.k : Int), .string y.s, .int .i64 y.t, .int .i64 y.v] 26)).size)); clear bb))
          go_wp2_with fail
          exact ⟨⟨k + 1, by omega, by go_num, HY.out.trans (E2.out.mono HY.out.size)⟩, by simp [intOf]; omega⟩
        · have i4 : ¬ (k : Int) < 13 := by omega
          obtain ⟨a0, a1, a2, a3⟩ := HC.out wr HY.out j hj13 x HXX.out
          go_wp2_with fail
          clear a0 a1 a2 a3
          refine (ref_any (x.k : Int) x.s x.t x.v _).mono ?_
          rintro e v1 ⟨rfl, b1⟩
          have G1 := Lib.hid (below_next HY.out b1)
          clear b1
          go_wp2_with fail
          refine (refPut6_any x v1).mono ?_
          rintro e W2 ⟨A5, c5, rfl, o5, b2⟩
          have GW := Lib.hid (below_next G1.out b2)
          have HB2 := Lib.hid b2.size
          have O5 := Lib.hid o5
          clear o5 b2
          by_cases hr : Ev.right x = 0
          · have hbo : Ev.bytes x = Ev.enc x := if_pos hr
            have hel := Ev.enc_len hr
            have hlt := Ev.enc_lt hr
            obtain ⟨K, hK⟩ : ∃ K, Ev.enc x = K := ⟨_, rfl⟩
            rw [hK] at hbo hel hlt
            obtain ⟨q, hq⟩ : ∃ q, K.length = q := ⟨_, rfl⟩
            rw [hq] at hel
            have o5 := O5.out
            rw [hbo, hq] at o5
            rw [hr, hbo, hq]
            obtain ⟨g5, rfl, hc5⟩ := own_some o5 (by omega)
            have hq5 := own_cap o5
            have OB := Lib.hid o5
            have HK := Lib.hid (And.intro hbo (And.intro hlt hq))
            have HKC : Hid (∀ W, Below W2.heap.size W2 W → Bytes W W.heap.size (some ⟨g5, 0, none⟩) q K) := Lib.hid fun W hW => own_bytes OB.out HK.out.2.1 hW
            clear hK hbo hlt hq o5 hc5 O5 hr
            go_wp2_with fail
            go_loopw [7] (fun i wr => ∃ nn : Nat, nn ≤ q ∧ i = .int .i64 (nn : Int) ∧ Below W2.heap.size W2 wr) (fun i _ => q - (intOf i).toNat)
            case atStart => exact ⟨0, by omega, rfl, Below.refl _ _⟩
            case round =>
              obtain ⟨nn, hnn, rfl, hx⟩ := hrel
              have HZ := Lib.hid hx
              clear hx
              by_cases hnq : nn < q
              · have i5 : (0 : Int) ≤ nn := by omega
                have i6 : (nn : Int) < q := by omega
                go_wp2_with fail
                refine (own_any q c5 _ (some ⟨g5, 0, none⟩) K wr (HKC.out wr HZ.out) (by omega)).mono ?_
                rintro e v3 ⟨A6, c6, rfl, o6, b6⟩
                obtain ⟨g6, rfl, hc6⟩ := own_some o6 (by omega)
                have F3' := Lib.hid (below_next HZ.out b6)
                have o6' := own_lower o6 HZ.out.size
                have hcell : v3.cell? ⟨g6, nn, none⟩ = some (.int .u8 ((K.getD nn 0 : Nat) : Int)) := by
                  have := o6.cellAt nn (by omega)
                  rw [this]
                  exact u8s_at (by rw [HK.out.2.2]; exact hnq)
                have hfz := o6.frozenAt nn
                have hyl : K.getD nn 0 < 256 := by
                  rw [List.getD_eq_getElem?_getD, List.getElem?_eq_getElem (by rw [HK.out.2.2]; exact hnq)]
                  exact HK.out.2.1 _ (List.getElem_mem _)
                obtain ⟨y, hy⟩ : ∃ y, K.getD nn 0 = y := ⟨_, rfl⟩
                rw [hy] at hcell hyl
                have hxor : bits .xor .u8 (y : Int) 3 = ((y ^^^ 3 : Nat) : Int) := u8_xor_nat y 3 hyl (by decide)
                have hz8 : y ^^^ 3 < 256 := Nat.xor_lt_two_pow (n := 8) hyl (by decide)
                obtain ⟨z, hz⟩ : ∃ z, y ^^^ 3 = z := ⟨_, rfl⟩
                rw [hz] at hxor hz8
                have hst := o6'.stored nn (.int .u8 (z : Int))
                rw [u8s_put] at hst
                have hk2 : ∀ b ∈ K.set nn z, b < 256 := by
                  intro b hb
                  rcases List.mem_or_eq_of_mem_set hb with hb | rfl
                  · exact HK.out.2.1 b hb
                  · exact hz8
                obtain ⟨K2, hK2⟩ : ∃ K2, K.set nn z = K2 := ⟨_, rfl⟩
                rw [hK2] at hst hk2
                have hlo := (o6'.lt g6 rfl).1
                have HST := Lib.hid (And.intro hst.1 (F3'.out.setCell (p := ⟨g6, nn, none⟩) hlo (.int .u8 (z : Int))))
                have HK2 := Lib.hid hk2
                clear hst hk2 hK2 hz hy hyl hz8 o6 o6' b6 hc6 hlo
                go_wp2_with fail
                clear hcell hfz hxor
                go_upto_region 18 with (fail)
                obtain ⟨W5, hW⟩ : ∃ W, v3.setCell ⟨g6, nn, none⟩ (.int .u8 (z : Int)) = W := ⟨_, rfl⟩
                have hs1 := HST.out.1
                have hs2 := HST.out.2
                rw [hW] at hs1 hs2
                rw [hW]
                have OO := Lib.hid hs1
                have F5' := Lib.hid hs2
                clear hs1 hs2 hW HST
                have F0 := Lib.hid F5'.out.drew
                have G0 : Hid (Below W5.heap.size W5 W5.drew) := Lib.hid (Below.refl _ _).drew
                have HRD : Hid (∀ W, Below W2.heap.size W2 W → Calls Try.prog 4 #[.slice (some ⟨g5, 0, none⟩) nn c5] W (LawP W)) := Lib.hid fun W hW => eventReads_any nn c5 W.heap.size _ (K.take nn) W ((HKC.out W hW).head (by omega)) (Nat.le_refl _) (by omega)
                have HRO : Hid (∀ W, Below W5.heap.size W5 W → Calls Try.prog 4 #[.slice (some ⟨g6, 0, none⟩) q c6] W (LawP W)) := Lib.hid fun W hW => eventReads_any q c6 W.heap.size _ K2 W (own_bytes OO.out HK2.out hW) (Nat.le_refl _) (by omega)
                have HBO : Hid (∀ W, Below W5.heap.size W5 W → Calls Try.prog 5 #[.slice none 0 0, .slice (some ⟨g6, 0, none⟩) q c6] W (LawP W)) := Lib.hid fun W hW => eventBack_any 0 0 W.heap.size q c6 none _ [] K2 W EvIn.nil (by simp) (own_bytes OO.out HK2.out hW) (Nat.le_refl _) (by omega) (by omega)
                have hcut := run_cut_h (P := Try.prog) 29 5 iu Try.underlying29 HI.out.1 (some ⟨g5, 0, none⟩) q c5 nn (by omega)
                by_cases hn0 : nn = 0
                · subst hn0
                  go_wp2_with fail
                  go_region_held3 (fun _ => True) (exact trivial) (first
                    | (go_at_call 4; have _ := H7; (with_reducible refine (eventReads_any q _ _ _ K _ H7.out (Nat.le_refl _) (by omega)).mono ?_); rintro e V8 ⟨rfl, bb⟩; have F8 := Lib.hid (below_next F7.out bb); clear bb)
                    | (go_at_call 4; have _ := H4; (with_reducible refine (eventReads_any (q + q) cap4 _ _ (K2 ++ K) _ H4.out (Nat.le_refl _) (by omega)).mono ?_); rintro e V5 ⟨rfl, bb⟩; have F5 := Lib.hid (below_next F4.out bb); clear bb)
                    | (go_at_call 4; (with_reducible refine (HRD.out _ F0.out).mono ?_); rintro e V1 ⟨rfl, bb⟩; have F1 := Lib.hid (below_next F0.out bb); have G1 := Lib.hid (below_next G0.out bb); clear bb)
                    | (go_at_call 4; (with_reducible refine (HRO.out _ G1.out).mono ?_); rintro e V2 ⟨rfl, bb⟩; have F2 := Lib.hid (below_next F1.out bb); have G2 := Lib.hid (below_next G1.out bb); clear bb)
                    | (go_at_call 5; (with_reducible refine (HBO.out _ G2.out).mono ?_); rintro e V3 ⟨rfl, bb⟩; have F3 := Lib.hid (below_next F2.out bb); have O3 := Lib.hid (own_below OO.out (G2.out.trans (bb.mono G2.out.size))); clear bb)
                    | (refine step_append_here rfl (.tmp 107) (.tmp 108) 29 rfl W2.heap.size 5 iu (.int .u8 0) 1 1 Try.underlying29 HI.out.1 HI.out.2.1 HI.out.2.2.1 HI.out.2.2.2 rfl (by decide) _ q (u8s K2) rfl O3.out ⟨g5, 0, none⟩ q c5 (u8s K) rfl (by rw [u8s_len, HK.out.2.2]; omega) (HKC.out _ F3.out).cells (u8s_one _) (by omega) (by unfold maxLen; omega) (by omega) F3.out.size _ rfl ?_; intro g4 cap4 V4 ho4 hg4 _ _; have F4 := Lib.hid (F3.out.grown hg4 F3.out.size (fun k hk => (O3.out.lt k hk).1)); have H4 := Lib.hid (Bytes.of_own (show V4.ownsRow W2.heap.size 5 1 (.slice (some ⟨g4, 0, none⟩) (q + q) cap4) (q + q) (u8s (K2 ++ K)) from u8s_append K2 K ▸ ho4) (fun x hx => (List.mem_append.1 hx).elim (HK2.out x) (HK.out.2.1 x))); clear ho4 hg4)
                    | (go_at_call 17; (with_reducible refine (own_any q c5 _ (some ⟨g5, 0, none⟩) K _ (HKC.out _ F5.out) (by omega)).mono ?_); rintro e V6 ⟨A6', c6', rfl, ho6, bb⟩; have F6 := Lib.hid (below_next F5.out bb); have O6 := Lib.hid (own_lower ho6 F5.out.size); clear bb ho6)
                    | (refine step_append_zero rfl (.tmp 115) (.tmp 118) 29 rfl W2.heap.size 5 iu 1 Try.underlying29 HI.out.1 _ q c5 _ (u8s K) rfl O6.out rfl ?_; have F7 := F6; have H7 := Lib.hid (Bytes.of_own O6.out HK.out.2.1)))
                  go_wp2_with fail
                  exact ⟨⟨0 + 1, by omega, by go_num, F8.out⟩, by simp [intOf]; omega⟩
                · go_wp2_with fail
                  go_region_held3 (fun _ => True) (exact trivial) (first
                    | (go_at_call 4; have _ := H7; (with_reducible refine (eventReads_any (q + nn) cap7 _ _ (K ++ K.take nn) _ H7.out (Nat.le_refl _) (by omega)).mono ?_); rintro e V8 ⟨rfl, bb⟩; have F8 := Lib.hid (below_next F7.out bb); clear bb)
                    | (go_at_call 4; have _ := H4; (with_reducible refine (eventReads_any (q + q) cap4 _ _ (K2 ++ K) _ H4.out (Nat.le_refl _) (by omega)).mono ?_); rintro e V5 ⟨rfl, bb⟩; have F5 := Lib.hid (below_next F4.out bb); clear bb)
                    | (go_at_call 4; (with_reducible refine (HRD.out _ F0.out).mono ?_); rintro e V1 ⟨rfl, bb⟩; have F1 := Lib.hid (below_next F0.out bb); have G1 := Lib.hid (below_next G0.out bb); clear bb)
                    | (go_at_call 4; (with_reducible refine (HRO.out _ G1.out).mono ?_); rintro e V2 ⟨rfl, bb⟩; have F2 := Lib.hid (below_next F1.out bb); have G2 := Lib.hid (below_next G1.out bb); clear bb)
                    | (go_at_call 5; (with_reducible refine (HBO.out _ G2.out).mono ?_); rintro e V3 ⟨rfl, bb⟩; have F3 := Lib.hid (below_next F2.out bb); have O3 := Lib.hid (own_below OO.out (G2.out.trans (bb.mono G2.out.size))); clear bb)
                    | (refine step_append_here rfl (.tmp 107) (.tmp 108) 29 rfl W2.heap.size 5 iu (.int .u8 0) 1 1 Try.underlying29 HI.out.1 HI.out.2.1 HI.out.2.2.1 HI.out.2.2.2 rfl (by decide) _ q (u8s K2) rfl O3.out ⟨g5, 0, none⟩ q c5 (u8s K) rfl (by rw [u8s_len, HK.out.2.2]; omega) (HKC.out _ F3.out).cells (u8s_one _) (by omega) (by unfold maxLen; omega) (by omega) F3.out.size _ rfl ?_; intro g4 cap4 V4 ho4 hg4 _ _; have F4 := Lib.hid (F3.out.grown hg4 F3.out.size (fun k hk => (O3.out.lt k hk).1)); have H4 := Lib.hid (Bytes.of_own (show V4.ownsRow W2.heap.size 5 1 (.slice (some ⟨g4, 0, none⟩) (q + q) cap4) (q + q) (u8s (K2 ++ K)) from u8s_append K2 K ▸ ho4) (fun x hx => (List.mem_append.1 hx).elim (HK2.out x) (HK.out.2.1 x))); clear ho4 hg4)
                    | (go_at_call 17; (with_reducible refine (own_any q c5 _ (some ⟨g5, 0, none⟩) K _ (HKC.out _ F5.out) (by omega)).mono ?_); rintro e V6 ⟨A6', c6', rfl, ho6, bb⟩; have F6 := Lib.hid (below_next F5.out bb); have O6 := Lib.hid (own_lower ho6 F5.out.size); clear bb ho6)
                    | (refine step_append_here rfl (.tmp 115) (.tmp 118) 29 rfl W2.heap.size 5 iu (.int .u8 0) 1 1 Try.underlying29 HI.out.1 HI.out.2.1 HI.out.2.2.1 HI.out.2.2.2 rfl (by decide) _ q (u8s K) rfl O6.out ⟨g5, 0, none⟩ nn c5 (u8s (K.take nn)) rfl (by rw [u8s_len, List.length_take, HK.out.2.2]; omega) ((HKC.out _ F6.out).head (by omega)).cells (u8s_one _) (by omega) (by unfold maxLen; omega) (by omega) F6.out.size _ rfl ?_; intro g7 cap7 V7 ho7 hg7 _ _; have F7 := Lib.hid (F6.out.grown hg7 F6.out.size (fun k hk => (O6.out.lt k hk).1)); have H7 := Lib.hid (Bytes.of_own (show V7.ownsRow W2.heap.size 5 1 (.slice (some ⟨g7, 0, none⟩) (q + nn) cap7) (q + nn) (u8s (K ++ K.take nn)) from u8s_append K (K.take nn) ▸ ho7) (fun x hx => (List.mem_append.1 hx).elim (HK.out.2.1 x) (fun h => HK.out.2.1 x (List.mem_of_mem_take h)))); clear ho7 hg7))
                  go_wp2_with fail
                  exact ⟨⟨nn + 1, by omega, by go_num, F8.out⟩, by simp [intOf]; omega⟩
              · have i6 : ¬ (nn : Int) < q := by omega
                have O7 := Lib.hid (own_below OB.out HZ.out)
                have GZ := Lib.hid (GW.out.trans (HZ.out.mono GW.out.size))
                have hvz : v1.heap.size ≤ wr.heap.size := by have := HB2.out; have := HZ.out.size; omega
                have hone := one_byte wr 5 2 (by omega) 2 rfl
                have hoc := hone.cells
                have HOC := Lib.hid hoc
                clear hone hoc
                go_wp2_with (at_builtin; refine wpList_append_own _ rfl _ _ 29 rfl v1.heap.size 5 iu (.int .u8 0) 1 1 Try.underlying29 HI.out.1 HI.out.2.1 HI.out.2.2.1 HI.out.2.2.2 rfl (by decide) _ q _ rfl (O7.out.alloc _) ⟨wr.heap.size, 0, none⟩ 1 1 (u8s [2]) rfl rfl HOC.out (u8s_one _) (by unfold maxLen; omega) (by omega) (by simp; omega) ?_; intro v' w7 hown hgrow _)
                rw [u8s_append] at hown
                obtain ⟨A7, c7, rfl⟩ := own_slice hown
                have hb7 := grow_below GZ.out hgrow (fun k hk => by have h1 := (O7.out.lt k hk).1; have := G1.out.size; omega)
                have HB7 := Lib.hid (And.intro hb7 (Bytes.of_own hown (fun y hy => (List.mem_append.1 hy).elim (HK.out.2.1 y) (fun h => by simp at h; omega))))
                clear hown hgrow hb7
                go_wp2_with fail
                refine (eventReads_any (q + 1) c7 _ A7 (K ++ [2]) w7 HB7.out.2 (Nat.le_refl _) (by omega)).mono ?_
                rintro e w8 ⟨rfl, b8⟩
                have HB8 := Lib.hid (below_next HB7.out.1 b8)
                clear b8
                go_wp2_with fail
                exact ⟨⟨j + 1, by omega, by go_num, HB8.out⟩, by simp [intOf]; omega⟩
          · have e1 : (Ev.right x != 0) = true := by rw [bne_iff_ne]; exact hr
            have e0 : (Ev.right x == 0) = false := by rw [beq_eq_false_iff_ne]; exact hr
            clear O5
            go_wp2_with fail
            exact ⟨⟨j + 1, by omega, by go_num, GW.out⟩, by simp [intOf]; omega⟩
    · have i2 : ¬ (j : Int) < 13 := by omega
      go_wp2_with fail
      refine (eventPuts_any 0 0 0 none [] _ EvIn.nil (by omega) (by omega)).mono ?_
      rintro e t1 ⟨rfl, b⟩
      have T1 := Lib.hid (below_next HX.out b)
      clear b
      go_wp2_with fail
      refine (eventReads_any 0 0 0 none [] _ Bytes.nil (by omega) (by omega)).mono ?_
      rintro e t2 ⟨rfl, b⟩
      have T2 := Lib.hid (below_next T1.out b)
      clear b
      go_wp2_with fail
      refine (eventBack_any 0 0 0 0 0 none none [] [] _ EvIn.nil (by simp) Bytes.nil (by omega) (by omega) (by omega)).mono ?_
      rintro e t3 ⟨rfl, b⟩
      have T3 := Lib.hid (below_next T2.out b)
      clear b
      go_wp2_with fail
      refine (works_any _).mono ?_
      rintro e t4 ⟨rfl, b⟩
      have T4 := Lib.hid (HD.out.1.trans ((below_next T3.out b).mono HD.out.1.size))
      clear b
      go_wp2_with fail
      go_ret
      exact ⟨rfl, T4.out⟩
end Go.Proofs.Ytbcdacfmhjgfiaa
