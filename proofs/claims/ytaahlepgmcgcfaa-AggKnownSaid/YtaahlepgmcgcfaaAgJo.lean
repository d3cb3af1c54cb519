/- Stage 5's closed statement: AggJoins, walked. -/
import Derived.Test.YtaahlepgmcgcfaaAgTe
namespace Go.Proofs.Ytaahlepgmcgcfaa
open Go.ChangeShapes Go.WideShapes Go.ChangeAt Go.RowKit

theorem refs_q (n c B : Nat) (A : Option Addr) (l : List Ag.A) (w : World) (h : Aggs w B A n l) (hB : B ≤ w.heap.size) (hn : n ≤ 1000) : Calls Try.prog 43 #[.slice A n c] w fun e w' => ∃ (A' : Option Addr) (c' : Nat), e = .returned (.slice A' n c') ∧ Aggs w' w'.heap.size A' n l ∧ Below w.heap.size w w' := by
  refine (refs_any n c B A l w h hB hn).mono fun e w' hp => ?_
  obtain ⟨A', c', rfl, ho, hb⟩ := hp
  have hl := h.1
  subst hl
  exact ⟨A', c', rfl, Aggs.of_own ho h.2.1, hb⟩
theorem join_o (n c B : Nat) (A : Option Addr) (l : List Ag.A) (w : World) (h : Aggs w B A n l) (hB : B ≤ w.heap.size) (hn : n ≤ 1000) {x : Ag.A} {g : Int} (hx : (Ag.join l).getD Ag.none' = x) (hg : outR (Ag.join l) = g) : Calls Try.prog 21 #[.slice A n c] w (OutP w x g) := by
  refine (join_any n c B A l w h hB hn).mono fun e w' hq => ?_
  have h2 := aggE_o hq
  rw [hx, hg] at h2
  exact h2
theorem refJoin_o (n c B : Nat) (A : Option Addr) (l : List Ag.A) (w : World) (h : Aggs w B A n l) (hB : B ≤ w.heap.size) (hn : n ≤ 1000) {x : Ag.A} {g : Int} (hx : (Ag.join l).getD Ag.none' = x) (hg : outR (Ag.join l) = g) : Calls Try.prog 44 #[.slice A n c] w (OutP w x g) := by
  refine (refJoin_any n c B A l w h hB hn).mono fun e w' hq => ?_
  have h2 := aggE_o hq
  rw [hx, hg] at h2
  exact h2
set_option maxRecDepth 100000 in
set_option maxHeartbeats 4000000 in
theorem aggJoins_any (n c B : Nat) (A : Option Addr) (l : List Ag.A) (w : World) (h : Aggs w B A n l) (hB : B ≤ w.heap.size) (hn : n ≤ 20) :
    Calls Try.prog 24 #[.slice A n c] w fun e w' => e = .returned (.bool true) ∧ Below w.heap.size w w' := by
  obtain ⟨x, hx⟩ : ∃ p, (Ag.join l).getD Ag.none' = p := ⟨_, rfl⟩
  obtain ⟨g, hg⟩ : ∃ g, outR (Ag.join l) = g := ⟨_, rfl⟩
  have HH := Lib.hid (And.intro h hB)
  have HX := Lib.hid (And.intro hx hg)
  clear h hB hx hg
  go_enter Try.func24, Try.ntmps24
  go_wp2_with fail
  refine (refs_q n c B A l w HH.out.1 HH.out.2 (by omega)).mono ?_
  rintro e w3 ⟨A3, c3, rfl, h3, b3⟩
  have H3 := Lib.hid (And.intro h3 b3)
  clear h3 b3
  go_wp2_with fail
  refine (join_o n c B A l w3 (HH.out.1.below H3.out.2 HH.out.2) (Nat.le_trans HH.out.2 H3.out.2.size) (by omega) HX.out.1 HX.out.2).mono ?_
  rintro e w4 ⟨rfl, b4⟩
  have S4 := Lib.hid (((Held.start w3).step b4).new #[.int .i64 x.c, .int .i64 x.s, .int .i64 x.lo, .int .i64 x.hi] 33)
  clear b4
  obtain ⟨W4, hW4⟩ : ∃ W, w4.alloc (.cells #[.int .i64 x.c, .int .i64 x.s, .int .i64 x.lo, .int .i64 x.hi] 33) = W := ⟨_, rfl⟩
  rw [hW4] at S4
  go_wp2_with fail
  clear hW4
  refine (refJoin_o n c3 w3.heap.size A3 l W4 (H3.out.1.below S4.out.1 (Nat.le_refl _)) S4.out.1.size (by omega) HX.out.1 HX.out.2).mono ?_
  rintro e w5 ⟨rfl, b5⟩
  have S5 := Lib.hid ((S4.out.step b5).new #[.int .i64 x.c, .int .i64 x.s, .int .i64 x.lo, .int .i64 x.hi] 55)
  clear b5 S4
  obtain ⟨W5, hW5⟩ : ∃ W, w5.alloc (.cells #[.int .i64 x.c, .int .i64 x.s, .int .i64 x.lo, .int .i64 x.hi] 55) = W := ⟨_, rfl⟩
  rw [hW5] at S5
  have hne : w.heap.size ≤ w3.heap.size := H3.out.2.size
  have HN := Lib.hid hne
  clear hne
  go_wp2_with fail
  clear hW5
  go_loopw [8] (fun i wr => ∃ j : Nat, j ≤ n ∧ i = .int .i64 (j : Int) ∧ Held w3 wr [(w5.heap.size, 55, #[.int .i64 x.c, .int .i64 x.s, .int .i64 x.lo, .int .i64 x.hi]), (w4.heap.size, 33, #[.int .i64 x.c, .int .i64 x.s, .int .i64 x.lo, .int .i64 x.hi])]) (fun i _ => n - (intOf i).toNat)
  case atStart => exact ⟨0, by omega, rfl, S5.out⟩
  case round =>
    obtain ⟨j, hj, rfl, hs⟩ := hrel
    have SJ := Lib.hid hs
    clear hs S5
    by_cases hlt : j < n
    · obtain ⟨b, off, rfl, hbB, hc⟩ := HH.out.1.2.2 (by omega)
      obtain ⟨b', off', rfl, hbB', hc'⟩ := H3.out.1.2.2 (by omega)
      have hcj := hc j hlt
      have hcj' := hc' j hlt
      obtain ⟨p, hp⟩ : ∃ p, l.getD j default = p := ⟨_, rfl⟩
      rw [hp] at hcj hcj'
      have P : Hid (∀ W, Below wr.heap.size wr W → W.cell? ⟨b, off + j * 4, none⟩ = some (.int .i64 p.c) ∧ W.cell? ⟨b, off + j * 4 + 1, none⟩ = some (.int .i64 p.s) ∧ W.cell? ⟨b, off + j * 4 + 2, none⟩ = some (.int .i64 p.lo) ∧ W.cell? ⟨b, off + j * 4 + 3, none⟩ = some (.int .i64 p.hi) ∧ W.cell? ⟨b', off' + j * 4, none⟩ = some (.int .i64 p.c) ∧ W.cell? ⟨b', off' + j * 4 + 1, none⟩ = some (.int .i64 p.s) ∧ W.cell? ⟨b', off' + j * 4 + 2, none⟩ = some (.int .i64 p.lo) ∧ W.cell? ⟨b', off' + j * 4 + 3, none⟩ = some (.int .i64 p.hi)) := Lib.hid fun W hW => by
        have h1 : Below w3.heap.size w3 W := SJ.out.1.trans (hW.mono SJ.out.1.size)
        have h0 : Below w.heap.size w W := H3.out.2.trans (h1.mono HN.out)
        have z1 : b < w.heap.size := by have := HH.out.2; omega
        exact ⟨(h0.cell (p := ⟨b, _, none⟩) z1).trans hcj.1, (h0.cell (p := ⟨b, _, none⟩) z1).trans hcj.2.1, (h0.cell (p := ⟨b, _, none⟩) z1).trans hcj.2.2.1, (h0.cell (p := ⟨b, _, none⟩) z1).trans hcj.2.2.2, (h1.cell (p := ⟨b', _, none⟩) hbB').trans hcj'.1, (h1.cell (p := ⟨b', _, none⟩) hbB').trans hcj'.2.1, (h1.cell (p := ⟨b', _, none⟩) hbB').trans hcj'.2.2.1, (h1.cell (p := ⟨b', _, none⟩) hbB').trans hcj'.2.2.2⟩
      have D0 : Hid (Below wr.heap.size wr wr.drew) := Lib.hid (Below.refl _ _).drew
      have i1 : (0 : Int) ≤ j := by omega
      have i2 : (j : Int) < n := by omega
      have q1 := fun W => ragg_self p W
      have g1 := agg_guard
      clear hc hc' hcj hcj' hp
      go_wp2_with fail
      go_region_held3 (fun W => W.cell? ⟨b, off + j * 4, none⟩ = some (.int .i64 p.c) ∧ W.cell? ⟨b, off + j * 4 + 1, none⟩ = some (.int .i64 p.s) ∧ W.cell? ⟨b, off + j * 4 + 2, none⟩ = some (.int .i64 p.lo) ∧ W.cell? ⟨b, off + j * 4 + 3, none⟩ = some (.int .i64 p.hi) ∧ W.cell? ⟨b', off' + j * 4, none⟩ = some (.int .i64 p.c) ∧ W.cell? ⟨b', off' + j * 4 + 1, none⟩ = some (.int .i64 p.s) ∧ W.cell? ⟨b', off' + j * 4 + 2, none⟩ = some (.int .i64 p.lo) ∧ W.cell? ⟨b', off' + j * 4 + 3, none⟩ = some (.int .i64 p.hi)) (first | with_reducible exact P.out _ D0.out | with_reducible exact P.out _ D1.out | fail) (first
        | (go_at_call 27; (with_reducible refine (ref_any p.c p.s p.lo p.hi wr.drew).mono ?_); rintro e V1 ⟨rfl, b1⟩; have D1 := Lib.hid (below_next D0.out b1); clear b1))
      go_wp2_with fail
      exact ⟨⟨j + 1, by omega, by go_num, SJ.out.step D1.out⟩, by simp [intOf]; omega⟩
    · obtain rfl : j = n := by omega
      have P : Hid (∀ W, Below wr.heap.size wr W → W.cell? ⟨w4.heap.size, 0, none⟩ = some (.int .i64 x.c) ∧ W.cell? ⟨w4.heap.size, 1, none⟩ = some (.int .i64 x.s) ∧ W.cell? ⟨w4.heap.size, 2, none⟩ = some (.int .i64 x.lo) ∧ W.cell? ⟨w4.heap.size, 3, none⟩ = some (.int .i64 x.hi) ∧ W.cell? ⟨w5.heap.size, 0, none⟩ = some (.int .i64 x.c) ∧ W.cell? ⟨w5.heap.size, 1, none⟩ = some (.int .i64 x.s) ∧ W.cell? ⟨w5.heap.size, 2, none⟩ = some (.int .i64 x.lo) ∧ W.cell? ⟨w5.heap.size, 3, none⟩ = some (.int .i64 x.hi)) := Lib.hid fun W hW => by
        have h := SJ.out.step hW
        have k1 := h.at_ (List.mem_cons_self ..)
        have k2 := h.at_ (List.mem_cons_of_mem _ (List.mem_cons_self ..))
        exact ⟨k2.cell 0, k2.cell 1, k2.cell 2, k2.cell 3, k1.cell 0, k1.cell 1, k1.cell 2, k1.cell 3⟩
      have D0 : Hid (Below wr.heap.size wr wr.drew) := Lib.hid (Below.refl _ _).drew
      have q1 := fun W => ragg_self x W
      have g1 := agg_guard
      go_wp2_with fail
      go_region_held3 (fun W => W.cell? ⟨w4.heap.size, 0, none⟩ = some (.int .i64 x.c) ∧ W.cell? ⟨w4.heap.size, 1, none⟩ = some (.int .i64 x.s) ∧ W.cell? ⟨w4.heap.size, 2, none⟩ = some (.int .i64 x.lo) ∧ W.cell? ⟨w4.heap.size, 3, none⟩ = some (.int .i64 x.hi) ∧ W.cell? ⟨w5.heap.size, 0, none⟩ = some (.int .i64 x.c) ∧ W.cell? ⟨w5.heap.size, 1, none⟩ = some (.int .i64 x.s) ∧ W.cell? ⟨w5.heap.size, 2, none⟩ = some (.int .i64 x.lo) ∧ W.cell? ⟨w5.heap.size, 3, none⟩ = some (.int .i64 x.hi)) (first | with_reducible exact P.out _ D0.out | with_reducible exact P.out _ D1.out | with_reducible exact P.out _ D2.out | fail) (first
        | (go_at_call 27; (with_reducible refine (ref_any x.c x.s x.lo x.hi wr.drew).mono ?_); rintro e V1 ⟨rfl, b1⟩; have D1 := Lib.hid (below_next D0.out b1); clear b1)
        | (go_at_call 7; (with_reducible refine (works_any V1).mono ?_); rintro e V2 ⟨rfl, b2⟩; have D2 := Lib.hid (below_next D1.out b2); clear b2))
      go_wp2_with fail
      go_ret
      exact ⟨rfl, H3.out.2.trans ((SJ.out.step D2.out).1.mono HN.out)⟩
end Go.Proofs.Ytaahlepgmcgcfaa
