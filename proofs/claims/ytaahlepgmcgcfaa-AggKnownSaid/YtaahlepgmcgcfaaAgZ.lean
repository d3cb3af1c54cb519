/- AggSorts, walked. -/
import Derived.Test.YtaahlepgmcgcfaaAgY
import Derived.Deep.DeepCutAuto
namespace Go.Proofs.Ytaahlepgmcgcfaa
open Go.ChangeShapes Go.WideShapes Go.ChangeAt Go.RowKit

theorem Held.swap {w W : World} {x y : Nat × TypeId × Array Value} {l : List (Nat × TypeId × Array Value)} (h : Held w W (x :: y :: l)) : Held w W (y :: x :: l) :=
  ⟨h.1, fun z hz => by
    rcases List.mem_cons.1 hz with rfl | hz
    · exact h.2 _ (List.mem_cons_of_mem _ (List.mem_cons_self ..))
    · rcases List.mem_cons.1 hz with rfl | hz
      · exact h.2 _ (List.mem_cons_self ..)
      · exact h.2 _ (List.mem_cons_of_mem _ (List.mem_cons_of_mem _ hz))⟩
theorem Held.drew {w W : World} {l : List (Nat × TypeId × Array Value)} (h : Held w W l) : Held w W.drew l := ⟨h.1.drew, h.2⟩
set_option maxRecDepth 100000 in
set_option maxHeartbeats 8000000 in
theorem aggSorts_any (n c n2 c2 B : Nat) (A A2 : Option Addr) (l l2 : List Rw) (w : World) (h : RowsIn w B A n l) (h2 : RowsIn w B A2 n2 l2) (hB : B ≤ w.heap.size) (hn : n ≤ 9223372036854775807) (hn2 : n2 ≤ 9223372036854775807) :
    Calls Try.prog 3 #[.slice A n c, .slice A2 n2 c2] w fun e w' => e = .returned (.bool true) ∧ Below w.heap.size w w' := by
  have F1 := Lib.hid (few_any n c B A l w h hn)
  have F2 := Lib.hid (few_any n2 c2 B A2 l2 w h2 hn2)
  rcases hf1 : fewR n l with _ | _
  · rw [hf1] at F1
    clear h h2 F2 hf1
    go_enter Try.func3, Try.ntmps3
    go_wp2_with fail
    refine F1.out.mono ?_
    rintro e w' ⟨rfl, rfl⟩
    go_wp2_with fail
    refine (works_any _).mono ?_
    rintro e w5 ⟨rfl, b5⟩
    go_wp2_with fail
    go_ret
    exact ⟨rfl, b5⟩
  rcases hf2 : fewR n2 l2 with _ | _
  · rw [hf1] at F1
    rw [hf2] at F2
    clear h h2 hf1 hf2
    go_enter Try.func3, Try.ntmps3
    go_wp2_with fail
    refine F1.out.mono ?_
    rintro e w' ⟨rfl, rfl⟩
    go_wp2_with fail
    refine F2.out.mono ?_
    rintro e w' ⟨rfl, rfl⟩
    go_wp2_with fail
    refine (works_any _).mono ?_
    rintro e w5 ⟨rfl, b5⟩
    go_wp2_with fail
    go_ret
    exact ⟨rfl, b5⟩
  have k1 := fewR_len hf1
  have k2 := fewR_len hf2
  rw [hf1] at F1
  rw [hf2] at F2
  have HH := Lib.hid (And.intro h (And.intro h2 hB))
  have hlen := h.1
  have hsl : ∀ b, (srt (rord b) l n).length = n := fun b => srt_len _ _ _
  have HL := Lib.hid (And.intro hlen hsl)
  clear h h2 hB hf1 hf2 hlen hsl hn hn2
  go_enter Try.func3, Try.ntmps3
  go_wp2_with fail
  refine F1.out.mono ?_
  rintro e w' ⟨rfl, rfl⟩
  go_wp2_with fail
  refine F2.out.mono ?_
  rintro e w' ⟨rfl, rfl⟩
  go_wp2_with fail
  refine (rows_q n c B A l _ HH.out.1 HH.out.2.2 (by omega)).mono ?_
  rintro e w3 ⟨A5, c5, rfl, hr, b3⟩
  have HR := Lib.hid (And.intro hr b3)
  clear hr b3 F1 F2
  go_wp2_with fail
  go_loopw [6, 7, 8, 9] (fun t _ _ _ wr => ∃ j : Nat, j ≤ 2 ∧ t = .int .i64 (j : Int) ∧ Below w3.heap.size w3 wr) (fun t _ _ _ _ => 2 - (intOf t).toNat)
  case atStart => exact ⟨0, by omega, rfl, Below.refl _ _⟩
  case round =>
    obtain ⟨j, hj, rfl, hb⟩ := hrel
    by_cases hlt : j < 2
    · obtain ⟨WO, rfl⟩ : ∃ WO : World, WO = wr := ⟨_, rfl⟩
      have j1 : (j : Int) < 2 := by omega
      have P : Hid (∀ W, Below WO.heap.size WO W → RowsIn W W.heap.size A n l ∧ RowsIn W W.heap.size A5 n l) := Lib.hid fun W hW => by
        have h0 : Below w3.heap.size w3 W := hb.trans (hW.mono hb.size)
        have h1 : Below w'.heap.size w' W := HR.out.2.trans (h0.mono HR.out.2.size)
        exact ⟨(HH.out.1.below h1 HH.out.2.2).more (by have := h1.size; have := HH.out.2.2; omega), (HR.out.1.below h0 (Nat.le_refl _)).more h0.size⟩
      have D0 : Hid (Below WO.heap.size WO WO) := Lib.hid (Below.refl _ _)
      have HB := Lib.hid hb
      clear hb
      go_wp2_with fail
      refine (sort_any false n c WO.heap.size A l _ (P.out _ D0.out).1 (Nat.le_refl _) (by omega)).mono ?_
      rintro e w4 ⟨Aa, ca, rfl, hca, ha, b4⟩
      obtain ⟨ga, hga⟩ := ex_imp ha
      have D4 := Lib.hid (D0.out.trans b4)
      have HA := Lib.hid (And.intro hca hga)
      clear hca ha hga b4
      go_wp2_with fail
      refine (sort_any true n c w4.heap.size A l _ (P.out _ D4.out).1 (Nat.le_refl _) (by omega)).mono ?_
      rintro e w5 ⟨Ab, cb, rfl, hcb, ha, b5⟩
      obtain ⟨gb, hgb⟩ := ex_imp ha
      have D5 := Lib.hid (D4.out.trans (b5.mono D4.out.size))
      have HA2 := Lib.hid (And.intro hcb (And.intro hgb b5))
      have Q : Hid (∀ W, Below w5.heap.size w5 W → RowsIn W W.heap.size Aa n (srt (rord false) l n) ∧ RowsIn W W.heap.size Ab n (srt (rord true) l n)) := Lib.hid fun W hW => by
        refine ⟨⟨HL.out.2 _, fun h0 => ?_⟩, ⟨HL.out.2 _, fun h0 => ?_⟩⟩
        · obtain ⟨rfl, h1, h2⟩ := HA.out.2 h0
          have h3 := (h2.below HA2.out.2.2 h2.lt).below hW (Nat.lt_of_lt_of_le h2.lt HA2.out.2.2.size)
          exact (RowsIn.of_blk h3 (HL.out.2 _) h3.lt).2 h0
        · obtain ⟨rfl, h1, h2⟩ := HA2.out.2.1 h0
          have h3 := h2.below hW h2.lt
          exact (RowsIn.of_blk h3 (HL.out.2 _) h3.lt).2 h0
      have PQ : Hid (∀ W, Below w5.heap.size w5 W → RowsIn W W.heap.size A n l ∧ RowsIn W W.heap.size A5 n l) := Lib.hid fun W hW => P.out W (D5.out.trans (hW.mono D5.out.size))
      clear hcb ha hgb b5
      go_wp2_with fail
      refine (rows_q n ca w5.heap.size Aa _ _ (Q.out _ (Below.refl _ _)).1 (Nat.le_refl _) (by omega)).mono ?_
      rintro e w6 ⟨A6, c6, rfl, h6, b6⟩
      have D6 := Lib.hid b6
      have R6 := Lib.hid h6
      clear b6 h6
      go_wp2_with fail
      refine (refSort_q false n c5 w6.heap.size A5 l _ (PQ.out _ D6.out).2 (Nat.le_refl _) (by omega)).mono ?_
      rintro e w7 ⟨A7, c7, rfl, h7, b7⟩
      have D7 := Lib.hid (D6.out.trans (b7.mono D6.out.size))
      have R7 := Lib.hid (And.intro ((R6.out.below b7 (Nat.le_refl _)).more b7.size) h7)
      clear b7 h7 R6
      go_wp2_with fail
      refine (refSame_bool n c6 n c7 w7.heap.size A6 A7 _ _ _ R7.out.1 R7.out.2 (by omega) (by omega) ((rsame_iff _ _).2 rfl)).mono ?_
      rintro e w8 ⟨rfl, b8⟩
      have D8 := Lib.hid (D7.out.trans (b8.mono D7.out.size))
      clear b8 R7
      go_wp2_with fail
      refine (rows_q n cb w8.heap.size Ab _ _ (Q.out _ D8.out).2 (Nat.le_refl _) (by omega)).mono ?_
      rintro e w9 ⟨A9, c9, rfl, h9, b9⟩
      have D9 := Lib.hid (D8.out.trans (b9.mono D8.out.size))
      have R9 := Lib.hid h9
      clear b9 h9
      go_wp2_with fail
      refine (refSort_q true n c5 w9.heap.size A5 l _ (PQ.out _ D9.out).2 (Nat.le_refl _) (by omega)).mono ?_
      rintro e wa ⟨A10, c10, rfl, h10, b10⟩
      have D10 := Lib.hid (D9.out.trans (b10.mono D9.out.size))
      have R10 := Lib.hid (And.intro ((R9.out.below b10 (Nat.le_refl _)).more b10.size) h10)
      clear b10 h10 R9
      go_wp2_with fail
      refine (refSame_bool n c9 n c10 wa.heap.size A9 A10 _ _ _ R10.out.1 R10.out.2 (by omega) (by omega) ((rsame_iff _ _).2 rfl)).mono ?_
      rintro e wb ⟨rfl, b11⟩
      have D11 := Lib.hid (D10.out.trans (b11.mono D10.out.size))
      clear b11 R10
      go_wp2_with fail
      refine (rows_q n c wb.heap.size A _ _ (PQ.out _ D11.out).1 (Nat.le_refl _) (by omega)).mono ?_
      rintro e wd ⟨A12, c12, rfl, h12, b12⟩
      have D12 := Lib.hid (D11.out.trans (b12.mono D11.out.size))
      have R12 := Lib.hid h12
      clear b12 h12
      go_wp2_with fail
      refine (refSame_bool n c12 n c5 wd.heap.size A12 A5 _ _ _ R12.out (PQ.out _ D12.out).2 (by omega) (by omega) ((rsame_iff _ _).2 rfl)).mono ?_
      rintro e we ⟨rfl, b13⟩
      have D13 := Lib.hid (D12.out.trans (b13.mono D12.out.size))
      clear b13 R12
      go_wp2_with fail
      have hblk : 0 < n → ∃ X Y : List Rw, X.length = n ∧ Y.length = n ∧ RowBlk we ga X ∧ RowBlk we gb Y := fun h0 => by
        obtain ⟨_, h1, h2⟩ := HA.out.2 h0
        obtain ⟨_, h3, h4⟩ := HA2.out.2.1 h0
        exact ⟨_, _, HL.out.2 false, HL.out.2 true, (h2.below HA2.out.2.2 h2.lt).below D13.out (Nat.lt_of_lt_of_le h2.lt HA2.out.2.2.size), h4.below D13.out h4.lt⟩
      have hgg : 0 < n → Aa = some ⟨ga, 0, none⟩ ∧ Ab = some ⟨gb, 0, none⟩ ∧ WO.heap.size ≤ ga ∧ WO.heap.size ≤ gb ∧ ga ≠ gb := fun h0 => by
        obtain ⟨h1, h2, h3⟩ := HA.out.2 h0
        obtain ⟨h4, h5, h6⟩ := HA2.out.2.1 h0
        have h7 := h3.lt
        have h8 := D4.out.size
        exact ⟨h1, h4, h2, by omega, by omega⟩
      have HG := Lib.hid (And.intro hblk hgg)
      have HCC := Lib.hid (And.intro HA.out.1 HA2.out.1)
      have DW := Lib.hid (D5.out.trans (D13.out.mono D5.out.size))
      clear hblk hgg D4 D5 D6 D7 D8 D9 D10 D11 D12 D13 D0 HA HA2 Q PQ P
      go_loopw [9] (fun i wx => ∃ k : Nat, k ≤ n ∧ i = .int .i64 (k : Int) ∧ Below WO.heap.size WO wx ∧ (0 < n → ∃ X Y : List Rw, X.length = n ∧ Y.length = n ∧ RowBlk wx ga X ∧ RowBlk wx gb Y)) (fun i _ => n - (intOf i).toNat)
      case atStart => exact ⟨0, by omega, rfl, DW.out, HG.out.1⟩
      case round =>
        obtain ⟨k, hk, rfl, hbx, hxy⟩ := hrel
        have HBX := Lib.hid hbx
        clear hbx
        by_cases hlk : k < n
        · obtain ⟨X, Y, hX, hY, hbX, hbY⟩ := hxy (by omega)
          obtain ⟨rfl, rfl, hga, hgb, hne⟩ := HG.out.2 (by omega)
          obtain ⟨x0, x1, x2, x3, x4, x5, x6⟩ := hbX.cells (i := k) (by omega) rfl
          have fx := fun o => hbX.frozen o
          have HX := Lib.hid (And.intro hX (And.intro hY (And.intro hbX hbY)))
          have HN := Lib.hid (And.intro hga (And.intro hgb hne))
          have i1 : (0 : Int) ≤ k := by omega
          have i2 : (k : Int) < n := by omega
          clear hX hY hbX hbY hga hgb hne hxy
          go_upto_region 14 with (fail)
          have hX2 := HX.out.2.2.1.set (i := k) (by have := HX.out.1; omega) zrow
          have hY2 := HX.out.2.2.2.far HN.out.2.2 (k * 7) zrow
          have hB2 := below_row HBX.out HN.out.1 (k * 7) zrow
          obtain ⟨W1, hW1⟩ : ∃ W1, setRow wr ga (k * 7) zrow = W1 := ⟨_, rfl⟩
          rw [hW1] at hX2 hY2 hB2
          unfold setRow at hW1
          dsimp only [zrow] at hW1
          rw [hW1]
          clear hW1 x0 x1 x2 x3 x4 x5 x6 fx
          obtain ⟨x0, x1, x2, x3, x4, x5, x6⟩ := hY2.cells (i := k) (by have := HX.out.2.1; omega) rfl
          have fx := fun o => hY2.frozen o
          have HX2 := Lib.hid (And.intro hX2 (And.intro hY2 hB2))
          clear hX2 hY2 hB2
          go_wp2_with fail
          have hX3 := HX2.out.1.far HN.out.2.2.symm (k * 7) zrow
          have hY3 := HX2.out.2.1.set (i := k) (by have := HX.out.2.1; omega) zrow
          have hB3 := below_row HX2.out.2.2 HN.out.2.1 (k * 7) zrow
          obtain ⟨W2, hW2⟩ : ∃ W2, setRow W1 gb (k * 7) zrow = W2 := ⟨_, rfl⟩
          rw [hW2] at hX3 hY3 hB3
          unfold setRow at hW2
          dsimp only [zrow] at hW2
          rw [hW2]
          exact ⟨⟨k + 1, by omega, by go_num, hB3, fun _ => ⟨_, _, by rw [List.length_set]; exact HX.out.1, by rw [List.length_set]; exact HX.out.2.1, hX3, hY3⟩⟩, by simp [intOf]; omega⟩
        · obtain rfl : k = n := by omega
          clear hxy
          go_wp2_with fail
          exact ⟨⟨j + 1, by omega, by go_num, HB.out.trans (HBX.out.mono HB.out.size)⟩, by simp [intOf]; omega⟩
    · obtain rfl : j = 2 := by omega
      have HB := Lib.hid hb
      clear hb
      rw [show ((2 : Nat) : Int) = 2 from rfl]
      go_wp2_with fail
      go_loopw [10, 11, 12] (fun i _ _ wx => ∃ k : Nat, k ≤ n ∧ k ≤ n2 ∧ i = .int .i64 (k : Int) ∧ Below w3.heap.size w3 wx) (fun i _ _ _ => n - (intOf i).toNat)
      case atStart => exact ⟨0, by omega, by omega, rfl, HB.out⟩
      case round =>
        obtain ⟨k, hk, hk2, rfl, hbx⟩ := hrel
        by_cases hb2 : k < n ∧ k < n2
        · obtain ⟨l1, l2'⟩ := hb2
          obtain ⟨b, off, rfl, hbB, hc⟩ := HH.out.1.at_ l1
          obtain ⟨b', off', rfl, hbB', hc'⟩ := HH.out.2.1.at_ l2'
          obtain ⟨x, hx⟩ : ∃ x, l.getD k default = x := ⟨_, rfl⟩
          obtain ⟨y, hy⟩ : ∃ y, l2.getD k default = y := ⟨_, rfl⟩
          have cx := hc x hx
          have cy := hc' y hy
          have P : Hid (∀ W, Below wr.heap.size wr W → W.cell? ⟨b, off + k * 7, none⟩ = some (.string x.p.k) ∧ W.cell? ⟨b, off + k * 7 + 1, none⟩ = some (.int .i64 x.p.s) ∧ W.cell? ⟨b, off + k * 7 + 2, none⟩ = some (.int .i64 x.p.e) ∧ W.cell? ⟨b', off' + k * 7, none⟩ = some (.string y.p.k) ∧ W.cell? ⟨b', off' + k * 7 + 1, none⟩ = some (.int .i64 y.p.s) ∧ W.cell? ⟨b', off' + k * 7 + 2, none⟩ = some (.int .i64 y.p.e)) := Lib.hid fun W hW => by
            have h0 : Below w3.heap.size w3 W := hbx.trans (hW.mono hbx.size)
            have h1 : Below w'.heap.size w' W := HR.out.2.trans (h0.mono HR.out.2.size)
            have z1 : b < w'.heap.size := by have := HH.out.2.2; omega
            have z2 : b' < w'.heap.size := by have := HH.out.2.2; omega
            exact ⟨(h1.cell (p := ⟨b, _, none⟩) z1).trans cx.1, (h1.cell (p := ⟨b, _, none⟩) z1).trans cx.2.1, (h1.cell (p := ⟨b, _, none⟩) z1).trans cx.2.2.1, (h1.cell (p := ⟨b', _, none⟩) z2).trans cy.1, (h1.cell (p := ⟨b', _, none⟩) z2).trans cy.2.1, (h1.cell (p := ⟨b', _, none⟩) z2).trans cy.2.2.1⟩
          have HB3 := Lib.hid hbx
          have D0 : Hid (Below wr.heap.size wr wr.drew) := Lib.hid (Below.refl _ _).drew
          have i1 : (0 : Int) ≤ k := by omega
          have i2 : (k : Int) < n := by omega
          have i3 : (k : Int) < n2 := by omega
          clear hx hy hc hc' cx cy hbx HB
          go_upto_region 18 with (fail)
          go_cut [11, 12] (fun p q wx => ∃ g1 g2, p = .pointer (some ⟨g1, 0, none⟩) ∧ q = .pointer (some ⟨g2, 0, none⟩) ∧ Held wr wx [(g1, 31, #[.string x.p.k, .int .i64 x.p.s, .int .i64 x.p.e]), (g2, 31, #[.string y.p.k, .int .i64 y.p.s, .int .i64 y.p.e])])
          case first =>
            go_region_held3 (fun W => W.cell? ⟨b, off + k * 7, none⟩ = some (.string x.p.k) ∧ W.cell? ⟨b, off + k * 7 + 1, none⟩ = some (.int .i64 x.p.s) ∧ W.cell? ⟨b, off + k * 7 + 2, none⟩ = some (.int .i64 x.p.e) ∧ W.cell? ⟨b', off' + k * 7, none⟩ = some (.string y.p.k) ∧ W.cell? ⟨b', off' + k * 7 + 1, none⟩ = some (.int .i64 y.p.s) ∧ W.cell? ⟨b', off' + k * 7 + 2, none⟩ = some (.int .i64 y.p.e)) (first | with_reducible exact P.out _ D0.out | (refine P.out _ ?_; (repeat' first | (with_reducible exact D0.out) | (with_reducible exact Below.refl _ _) | (with_reducible refine Below.drew ?_) | (with_reducible refine Below.setCell ?_ ?_ _) | (with_reducible refine Below.alloc ?_ ?_ _) | (simp; done) | (simp; omega)))) (fail)
            all_goals (go_wp2_with fail)
            all_goals go_meet
            · have h := ((Held.start wr).new #[.string x.p.k, .int .i64 x.p.s, .int .i64 x.p.e] 31).new #[.string y.p.k, .int .i64 y.p.s, .int .i64 y.p.e] 31
              rw [World.size_alloc] at h
              exact ⟨_, _, rfl, rfl, h.swap.drew⟩
            · have h := ((Held.start wr).new #[.string y.p.k, .int .i64 y.p.s, .int .i64 y.p.e] 31).new #[.string x.p.k, .int .i64 x.p.s, .int .i64 x.p.e] 31
              rw [World.size_alloc] at h
              exact ⟨_, _, rfl, rfl, h.drew⟩
          case rest =>
          obtain ⟨g1, g2, rfl, rfl, hh⟩ := hcut
          have HQ := Lib.hid hh
          obtain ⟨v1, hv1⟩ : ∃ v, prim x.p y.p = v := ⟨_, rfl⟩
          obtain ⟨v2, hv2⟩ : ∃ v, sec x.p y.p = v := ⟨_, rfl⟩
          have c1 := fun W => pprim_any x.p y.p W
          have c2 := fun W => primary_any x.p y.p W
          have c3 := fun W => psec_any x.p y.p W
          have c4 := fun W => secondary_any x.p y.p W
          have c5 := fun W => pprim_any x.p x.p W
          rw [prim_self] at c5
          rw [hv1] at c1 c2
          rw [hv2] at c3 c4
          unfold Pn.val at c1 c2 c3 c4 c5
          have C1 := Lib.hid c1
          have C2 := Lib.hid c2
          have C3 := Lib.hid c3
          have C4 := Lib.hid c4
          have C5 := Lib.hid c5
          have P2 : Hid (∀ W, Below wc.heap.size wc W → W.cell? ⟨g1, 0, none⟩ = some (.string x.p.k) ∧ W.cell? ⟨g1, 1, none⟩ = some (.int .i64 x.p.s) ∧ W.cell? ⟨g1, 2, none⟩ = some (.int .i64 x.p.e) ∧ W.cell? ⟨g2, 0, none⟩ = some (.string y.p.k) ∧ W.cell? ⟨g2, 1, none⟩ = some (.int .i64 y.p.s) ∧ W.cell? ⟨g2, 2, none⟩ = some (.int .i64 y.p.e)) := Lib.hid fun W hW => by
            have h := hh.step hW
            have k1 := h.at_ (List.mem_cons_self ..)
            have k2 := h.at_ (List.mem_cons_of_mem _ (List.mem_cons_self ..))
            exact ⟨k1.cell 0, k1.cell 1, k1.cell 2, k2.cell 0, k2.cell 1, k2.cell 2⟩
          have E0 : Hid (Below wc.heap.size wc wc.drew) := Lib.hid (Below.refl _ _).drew
          clear c1 c2 c3 c4 c5 hv1 hv2 hh P D0
          go_wp2_with fail
          go_region_held3 (fun W => W.cell? ⟨g1, 0, none⟩ = some (.string x.p.k) ∧ W.cell? ⟨g1, 1, none⟩ = some (.int .i64 x.p.s) ∧ W.cell? ⟨g1, 2, none⟩ = some (.int .i64 x.p.e) ∧ W.cell? ⟨g2, 0, none⟩ = some (.string y.p.k) ∧ W.cell? ⟨g2, 1, none⟩ = some (.int .i64 y.p.s) ∧ W.cell? ⟨g2, 2, none⟩ = some (.int .i64 y.p.e)) (first | with_reducible exact P2.out _ E0.out | with_reducible exact P2.out _ E1.out | with_reducible exact P2.out _ E2.out | with_reducible exact P2.out _ E3.out | with_reducible exact P2.out _ E4.out | with_reducible exact P2.out _ E5.out | with_reducible exact P2.out _ E6.out | with_reducible exact P2.out _ E7.out | with_reducible exact P2.out _ E8.out | with_reducible exact P2.out _ E9.out | fail) (first
            | (go_at_call 12; (with_reducible refine (C1.out wc.drew).mono ?_); rintro e V1 ⟨rfl, b1⟩; have E1 := Lib.hid (below_next E0.out b1); clear b1)
            | (go_at_call 14; (with_reducible refine (pane_any x.p.k x.p.s x.p.e V1).mono ?_); rintro e V2 ⟨rfl, b2⟩; have E2 := Lib.hid (below_next E1.out b2); clear b2)
            | (go_at_call 14; (with_reducible refine (pane_any y.p.k y.p.s y.p.e V2).mono ?_); rintro e V3 ⟨rfl, b3⟩; have E3 := Lib.hid (below_next E2.out b3); clear b3)
            | (go_at_call 13; (with_reducible refine (C2.out V3).mono ?_); rintro e V4 ⟨rfl, b4⟩; have E4 := Lib.hid (below_next E3.out b4); clear b4)
            | (go_at_call 15; (with_reducible refine (C3.out V4).mono ?_); rintro e V5 ⟨rfl, b5⟩; have E5 := Lib.hid (below_next E4.out b5); clear b5)
            | (go_at_call 14; (with_reducible refine (pane_any x.p.k x.p.s x.p.e V5).mono ?_); rintro e V6 ⟨rfl, b6⟩; have E6 := Lib.hid (below_next E5.out b6); clear b6)
            | (go_at_call 14; (with_reducible refine (pane_any y.p.k y.p.s y.p.e V6).mono ?_); rintro e V7 ⟨rfl, b7⟩; have E7 := Lib.hid (below_next E6.out b7); clear b7)
            | (go_at_call 16; (with_reducible refine (C4.out V7).mono ?_); rintro e V8 ⟨rfl, b8⟩; have E8 := Lib.hid (below_next E7.out b8); clear b8)
            | (go_at_call 12; (with_reducible refine (C5.out V8).mono ?_); rintro e V9 ⟨rfl, b9⟩; have E9 := Lib.hid (below_next E8.out b9); clear b9))
          go_wp2_with fail
          exact ⟨⟨k + 1, by omega, by omega, by go_num, HB3.out.trans ((HQ.out.1.trans (E9.out.mono HQ.out.1.size)).mono HB3.out.size)⟩, by simp [intOf]; omega⟩
        · have HB3 := Lib.hid hbx
          have PW : Hid (∀ W, Below wr.heap.size wr W → RowsIn W W.heap.size A n l ∧ RowsIn W W.heap.size A2 n2 l2 ∧ RowsIn W W.heap.size A5 n l) := Lib.hid fun W hW => by
            have h0 : Below w3.heap.size w3 W := hbx.trans (hW.mono hbx.size)
            have h1 : Below w'.heap.size w' W := HR.out.2.trans (h0.mono HR.out.2.size)
            have h2 : B ≤ W.heap.size := by have := h1.size; have := HH.out.2.2; omega
            exact ⟨(HH.out.1.below h1 HH.out.2.2).more h2, (HH.out.2.1.below h1 HH.out.2.2).more h2, (HR.out.1.below h0 (Nat.le_refl _)).more h0.size⟩
          obtain ⟨bq, hbq⟩ : ∃ r, rsame l l2 = r := ⟨_, rfl⟩
          have HBQ := Lib.hid hbq
          clear hbq hbx HB
          have hor : ¬ k < n ∨ (k < n ∧ ¬ k < n2) := by omega
          rcases hor with h1 | ⟨h1, h1'⟩
          · have i4 : ¬ (k : Int) < n := by omega
            clear hb2
            go_wp2_with fail
            refine (same_bool n c n2 c2 wr.heap.size A A2 l l2 _ (PW.out _ (Below.refl _ _)).1 (PW.out _ (Below.refl _ _)).2.1 (by omega) (by omega) HBQ.out).mono ?_
            rintro e V1 ⟨rfl, b1⟩
            have E1 := Lib.hid b1
            clear b1
            go_wp2_with fail
            refine (rows_q n2 c2 V1.heap.size A2 l2 _ (PW.out _ E1.out).2.1 (Nat.le_refl _) (by omega)).mono ?_
            rintro e V2 ⟨A6, c6, rfl, h6, b2⟩
            have E2 := Lib.hid (E1.out.trans (b2.mono E1.out.size))
            have R6 := Lib.hid h6
            clear b2 h6
            go_wp2_with fail
            refine (refSame_bool n c5 n2 c6 V2.heap.size A5 A6 l l2 _ (PW.out _ E2.out).2.2 R6.out (by omega) (by omega) HBQ.out).mono ?_
            rintro e V3 ⟨rfl, b3⟩
            have E3 := Lib.hid (E2.out.trans (b3.mono E2.out.size))
            clear b3 R6
            go_wp2_with fail
            refine (same_bool n c n c V3.heap.size A A l l _ (PW.out _ E3.out).1 (PW.out _ E3.out).1 (by omega) (by omega) ((rsame_iff _ _).2 rfl)).mono ?_
            rintro e V4 ⟨rfl, b4⟩
            have E4 := Lib.hid (E3.out.trans (b4.mono E3.out.size))
            clear b4
            go_wp2_with fail
            refine (works_any _).mono ?_
            rintro e V5 ⟨rfl, b5⟩
            go_wp2_with fail
            go_ret
            exact ⟨rfl, HR.out.2.trans ((HB3.out.trans ((E4.out.trans (b5.mono E4.out.size)).mono HB3.out.size)).mono HR.out.2.size)⟩
          · have i4 : (k : Int) < n := by omega
            have i5 : ¬ (k : Int) < n2 := by omega
            clear hb2
            go_wp2_with fail
            refine (same_bool n c n2 c2 wr.heap.size A A2 l l2 _ (PW.out _ (Below.refl _ _)).1 (PW.out _ (Below.refl _ _)).2.1 (by omega) (by omega) HBQ.out).mono ?_
            rintro e V1 ⟨rfl, b1⟩
            have E1 := Lib.hid b1
            clear b1
            go_wp2_with fail
            refine (rows_q n2 c2 V1.heap.size A2 l2 _ (PW.out _ E1.out).2.1 (Nat.le_refl _) (by omega)).mono ?_
            rintro e V2 ⟨A6, c6, rfl, h6, b2⟩
            have E2 := Lib.hid (E1.out.trans (b2.mono E1.out.size))
            have R6 := Lib.hid h6
            clear b2 h6
            go_wp2_with fail
            refine (refSame_bool n c5 n2 c6 V2.heap.size A5 A6 l l2 _ (PW.out _ E2.out).2.2 R6.out (by omega) (by omega) HBQ.out).mono ?_
            rintro e V3 ⟨rfl, b3⟩
            have E3 := Lib.hid (E2.out.trans (b3.mono E2.out.size))
            clear b3 R6
            go_wp2_with fail
            refine (same_bool n c n c V3.heap.size A A l l _ (PW.out _ E3.out).1 (PW.out _ E3.out).1 (by omega) (by omega) ((rsame_iff _ _).2 rfl)).mono ?_
            rintro e V4 ⟨rfl, b4⟩
            have E4 := Lib.hid (E3.out.trans (b4.mono E3.out.size))
            clear b4
            go_wp2_with fail
            refine (works_any _).mono ?_
            rintro e V5 ⟨rfl, b5⟩
            go_wp2_with fail
            go_ret
            exact ⟨rfl, HR.out.2.trans ((HB3.out.trans ((E4.out.trans (b5.mono E4.out.size)).mono HB3.out.size)).mono HR.out.2.size)⟩
end Go.Proofs.Ytaahlepgmcgcfaa
