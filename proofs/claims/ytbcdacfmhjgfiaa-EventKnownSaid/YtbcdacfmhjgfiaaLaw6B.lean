/- EventReads, walked. -/
import Derived.Test.YtbcdacfmhjgfiaaLaw6A
import Derived.Test.YtbcdacfmhjgfiaaEvQ
import Derived.Test.YtbcdacfmhjgfiaaRefEvF
namespace Go.Proofs.Ytbcdacfmhjgfiaa
open Go.ChangeShapes Go.WideShapes Go.ChangeAt Go.RowKit

theorem psAll_le (l : List Nat) : (Ev.psAll l).2.length ≤ l.length := by
  have key : ∀ f l, l.length ≤ f → (Ev.go f l).2.length ≤ l.length := by
    intro f
    induction f with
    | zero => intro l _; simp [Ev.go]
    | succ f ih =>
      intro l hl
      unfold Ev.go
      by_cases h0 : l = []
      · rw [if_pos h0]; simp
      · rw [if_neg h0]
        by_cases h1 : Ev.er l = 0
        · rw [if_neg (by simp [h1])]
          have hu := Ev.nx_used (Ev.er_zero h1).1
          have := ih (l.drop (Ev.nx l).2.2) (by rw [List.length_drop]; omega)
          rw [List.length_drop] at this
          split
          · simp
          · simp; omega
        · rw [if_pos h1]; simp
  exact key l.length l (Nat.le_refl _)
abbrev opA (o : Evo) : Value := .agg #[.int .u8 (o.k : Int), .string o.s, .int .i64 o.t, .int .i64 o.v]
abbrev opC (o : Evo) : Array Value := #[.int .u8 (o.k : Int), .string o.s, .int .i64 o.t, .int .i64 o.v]
set_option maxRecDepth 100000 in
set_option maxHeartbeats 4000000 in
theorem eventReads_any (n c B : Nat) (A : Option Addr) (b : List Nat) (w : World) (h : Bytes w B A n b) (hB : B ≤ w.heap.size) (hn : n ≤ 9223372036854775807) :
    Calls Try.prog 4 #[.slice A n c] w (LawP w) := by
  have HP := Lib.hid (And.intro h hB)
  clear h hB
  go_enter Try.func4, Try.ntmps4
  by_cases h1000 : 1000 < n
  · have i20 : (1000 : Int) < n := by omega
    go_wp2_with fail
    refine (works_any _).mono ?_
    rintro e w1 ⟨rfl, b1⟩
    have HB1 := Lib.hid b1
    clear b1
    go_wp2_with fail
    go_ret
    exact ⟨rfl, HB1.out⟩
  · have i20 : ¬ (1000 : Int) < n := by omega
    go_wp2_with fail
    refine (own_any n c B A b w HP.out.1 (by omega)).mono ?_
    rintro e w1 ⟨A1, c1, rfl, ho1, b1⟩
    have H1 := Lib.hid (And.intro ho1 (And.intro b1 (own_cap ho1)))
    clear ho1 b1
    have hc1 := H1.out.2.2
    go_wp2_with fail
    refine (pParse6_any n c B A b w1 (HP.out.1.below H1.out.2.1 HP.out.2) (Nat.le_trans HP.out.2 H1.out.2.1.size) (by omega)).mono ?_
    have hps : ∃ r o, Ev.ps b = (r, o) := ⟨_, _, rfl⟩
    obtain ⟨r, o, hps⟩ := hps
    rw [hps]
    have HPS := Lib.hid hps
    clear hps
    rintro e w2 ⟨rfl, b2⟩
    dsimp only
    have S2 := ((Held.start w).step H1.out.2.1 |>.step b2).new (opC o) 26
    have D2 := (b2.alloc b2.size (.cells (opC o) 26))
    clear b2
    go_upto_region 5 with (fail)
    obtain ⟨W2, hW⟩ : ∃ W, w2.alloc (.cells (opC o) 26) = W := ⟨_, rfl⟩
    rw [hW] at S2 D2 ⊢
    have S2' := Lib.hid S2
    have D2' := Lib.hid D2
    clear hW S2 D2
    go_wp2_with fail
    refine (refParse_any n c1 _ A1 b W2 ((Bytes.of_own H1.out.1 HP.out.1.2.1).below D2'.out (Nat.le_refl _)) D2'.out.size (by omega) hc1).mono ?_
    rw [HPS.out]
    rintro e w3 ⟨rfl, b3⟩
    dsimp only
    have S3 := (S2'.out.step b3).new (opC o) 27
    have D3 := (D2'.out.trans (b3.mono D2'.out.size)).alloc (D2'.out.trans (b3.mono D2'.out.size)).size (.cells (opC o) 27)
    clear b3
    go_upto_region 6 with (fail)
    obtain ⟨W3, hW⟩ : ∃ W, w3.alloc (.cells (opC o) 27) = W := ⟨_, rfl⟩
    rw [hW] at S3 D3 ⊢
    have S3' := Lib.hid S3
    have D3' := Lib.hid D3
    clear hW S3 D3
    go_wp2_with fail
    refine (pParseAll_any n c B A b W3 (HP.out.1.below S3'.out.1 HP.out.2) (Nat.le_trans HP.out.2 S3'.out.1.size) (by omega)).mono ?_
    have hpa : ∃ r X, Ev.psAll b = (r, X) := ⟨_, _, rfl⟩
    obtain ⟨g, X, hpa⟩ := hpa
    have hXl := psAll_le b
    rw [hpa, HP.out.1.1] at hXl
    rw [hpa]
    have HPA := Lib.hid hpa
    clear hpa
    dsimp only at hXl
    obtain ⟨m, hm⟩ : ∃ m, X.length = m := ⟨_, rfl⟩
    have HM := Lib.hid hm
    rw [hm] at hXl
    clear hm
    rintro e w4 ⟨A4, c4, rfl, ho4, b4⟩
    dsimp only at ho4 ⊢
    rw [HM.out] at ho4 ⊢
    have S4 := Lib.hid (S3'.out.step b4)
    have D4 := Lib.hid (D3'.out.trans (b4.mono D3'.out.size))
    have X4 := Lib.hid (EvIn.of_own ho4)
    clear ho4 b4
    go_wp2_with fail
    refine (refParseAll_any n c1 _ A1 b w4 ((Bytes.of_own H1.out.1 HP.out.1.2.1).below D4.out (Nat.le_refl _)) D4.out.size (by omega) hc1).mono ?_
    rw [HPA.out]
    rintro e w5 ⟨A5, c5, rfl, ho5, b5⟩
    dsimp only at ho5 ⊢
    rw [HM.out] at ho5 ⊢
    have S5 := Lib.hid (S4.out.step b5)
    have D5 := Lib.hid (D4.out.trans (b5.mono D4.out.size))
    have X5 := Lib.hid (And.intro (X4.out.below b5 (Nat.le_refl _)) (And.intro (EvIn.of_own ho5) b5.size))
    clear ho5 b5
    have P : Hid (∀ W, Below w5.heap.size w5 W → (W.cell? ⟨w2.heap.size, 0, none⟩ = some (.int .u8 (o.k : Int)) ∧ W.cell? ⟨w2.heap.size, 1, none⟩ = some (.string o.s) ∧ W.cell? ⟨w2.heap.size, 2, none⟩ = some (.int .i64 o.t) ∧ W.cell? ⟨w2.heap.size, 3, none⟩ = some (.int .i64 o.v)) ∧ W.cell? ⟨w3.heap.size, 0, none⟩ = some (.int .u8 (o.k : Int)) ∧ W.cell? ⟨w3.heap.size, 1, none⟩ = some (.string o.s) ∧ W.cell? ⟨w3.heap.size, 2, none⟩ = some (.int .i64 o.t) ∧ W.cell? ⟨w3.heap.size, 3, none⟩ = some (.int .i64 o.v)) := Lib.hid fun W hW => by
      have hs := S5.out.step hW
      have k1 := hs.at_ (List.mem_cons_self ..)
      have k2 := hs.at_ (List.mem_cons_of_mem _ (List.mem_cons_self ..))
      exact ⟨⟨k2.cell 0, k2.cell 1, k2.cell 2, k2.cell 3⟩, k1.cell 0, k1.cell 1, k1.cell 2, k1.cell 3⟩
    have E0 : Hid (Below w5.heap.size w5 w5.drew) := Lib.hid (Below.refl _ _).drew
    have q1 : ∀ W, (Op.equalIn 10000 27 (opA o) (opA o)).run Try.prog W = .ok true W := fun W => by
      rw [rop_equal o o W, (evq_iff o o).2 rfl]
    have g1 := rop_guard
    go_wp2_with fail
    go_region_held3 (fun W => (W.cell? ⟨w2.heap.size, 0, none⟩ = some (.int .u8 (o.k : Int)) ∧ W.cell? ⟨w2.heap.size, 1, none⟩ = some (.string o.s) ∧ W.cell? ⟨w2.heap.size, 2, none⟩ = some (.int .i64 o.t) ∧ W.cell? ⟨w2.heap.size, 3, none⟩ = some (.int .i64 o.v)) ∧ W.cell? ⟨w3.heap.size, 0, none⟩ = some (.int .u8 (o.k : Int)) ∧ W.cell? ⟨w3.heap.size, 1, none⟩ = some (.string o.s) ∧ W.cell? ⟨w3.heap.size, 2, none⟩ = some (.int .i64 o.t) ∧ W.cell? ⟨w3.heap.size, 3, none⟩ = some (.int .i64 o.v)) (first | with_reducible exact P.out _ E0.out | with_reducible exact P.out _ E1.out | fail) (first
      | (go_at_call 8; (with_reducible refine (ref_any (o.k : Int) o.s o.t o.v _).mono ?_); rintro e V1 ⟨rfl, bb⟩; have E1 := Lib.hid (below_next E0.out bb); clear bb))
    go_wp2_with fail
    clear q1
    go_loopw [12] (fun i wr => ∃ j : Nat, j ≤ m ∧ i = .int .i64 (j : Int) ∧ Below w5.heap.size w5 wr) (fun i _ => m - (intOf i).toNat)
    case atStart => exact ⟨0, by omega, rfl, E1.out⟩
    case round =>
      obtain ⟨j, hj, rfl, hx⟩ := hrel
      have HY := Lib.hid hx
      clear hx E0 E1
      by_cases hjn : j < m
      · obtain ⟨b1, off, rfl, hb, hc⟩ := X5.out.1.at_ hjn
        obtain ⟨b2, off', rfl, hb', hc'⟩ := X5.out.2.1.at_ hjn
        obtain ⟨x, hx⟩ : ∃ o, X.getD j default = o := ⟨_, rfl⟩
        have cx := hc x hx
        have cy := hc' x hx
        have hz : b1 < w5.heap.size := Nat.lt_of_lt_of_le hb X5.out.2.2
        have P2 : Hid (∀ W, Below wr.heap.size wr W → (W.cell? ⟨b1, off + j * 4, none⟩ = some (.int .u8 (x.k : Int)) ∧ W.cell? ⟨b1, off + j * 4 + 1, none⟩ = some (.string x.s) ∧ W.cell? ⟨b1, off + j * 4 + 2, none⟩ = some (.int .i64 x.t) ∧ W.cell? ⟨b1, off + j * 4 + 3, none⟩ = some (.int .i64 x.v)) ∧ W.cell? ⟨b2, off' + j * 4, none⟩ = some (.int .u8 (x.k : Int)) ∧ W.cell? ⟨b2, off' + j * 4 + 1, none⟩ = some (.string x.s) ∧ W.cell? ⟨b2, off' + j * 4 + 2, none⟩ = some (.int .i64 x.t) ∧ W.cell? ⟨b2, off' + j * 4 + 3, none⟩ = some (.int .i64 x.v)) := Lib.hid fun W hW' => by
          have hW := HY.out.trans (hW'.mono HY.out.size)
          exact ⟨⟨(hW.cell (p := ⟨b1, _, none⟩) hz).trans cx.1, (hW.cell (p := ⟨b1, _, none⟩) hz).trans cx.2.1, (hW.cell (p := ⟨b1, _, none⟩) hz).trans cx.2.2.1, (hW.cell (p := ⟨b1, _, none⟩) hz).trans cx.2.2.2⟩, (hW.cell (p := ⟨b2, _, none⟩) hb').trans cy.1, (hW.cell (p := ⟨b2, _, none⟩) hb').trans cy.2.1, (hW.cell (p := ⟨b2, _, none⟩) hb').trans cy.2.2.1, (hW.cell (p := ⟨b2, _, none⟩) hb').trans cy.2.2.2⟩
        have i1 : (0 : Int) ≤ j := by omega
        have i2 : (j : Int) < m := by omega
        clear hc hc' cx cy hx
        have G0 : Hid (Below wr.heap.size wr wr.drew) := Lib.hid (Below.refl _ _).drew
        have q1 : ∀ W, (Op.equalIn 10000 27 (opA x) (opA x)).run Try.prog W = .ok true W := fun W => by
          rw [rop_equal x x W, (evq_iff x x).2 rfl]
        have g1 := rop_guard
        go_wp2_with fail
        go_region_held3 (fun W => (W.cell? ⟨b1, off + j * 4, none⟩ = some (.int .u8 (x.k : Int)) ∧ W.cell? ⟨b1, off + j * 4 + 1, none⟩ = some (.string x.s) ∧ W.cell? ⟨b1, off + j * 4 + 2, none⟩ = some (.int .i64 x.t) ∧ W.cell? ⟨b1, off + j * 4 + 3, none⟩ = some (.int .i64 x.v)) ∧ W.cell? ⟨b2, off' + j * 4, none⟩ = some (.int .u8 (x.k : Int)) ∧ W.cell? ⟨b2, off' + j * 4 + 1, none⟩ = some (.string x.s) ∧ W.cell? ⟨b2, off' + j * 4 + 2, none⟩ = some (.int .i64 x.t) ∧ W.cell? ⟨b2, off' + j * 4 + 3, none⟩ = some (.int .i64 x.v)) (first | with_reducible exact P2.out _ G0.out | with_reducible exact P2.out _ G1.out | fail) (first
          | (go_at_call 8; (with_reducible refine (ref_any (x.k : Int) x.s x.t x.v _).mono ?_); rintro e V1 ⟨rfl, bb⟩; have G1 := Lib.hid (below_next G0.out bb); clear bb))
        go_wp2_with fail
        exact ⟨⟨j + 1, by omega, by go_num, HY.out.trans (G1.out.mono HY.out.size)⟩, by simp [intOf]; omega⟩
      · have i2 : ¬ (j : Int) < m := by omega
        have HZ := Lib.hid (S5.out.step HY.out).1
        go_wp2_with fail
        refine (same_yes n c n c1 wr.heap.size A A1 b wr ((HP.out.1.below HZ.out HP.out.2).more (Nat.le_trans HP.out.2 HZ.out.size)) (((Bytes.of_own H1.out.1 HP.out.1.2.1).below (D5.out.trans (HY.out.mono D5.out.size)) (Nat.le_refl _)).more (D5.out.trans (HY.out.mono D5.out.size)).size) (by omega)).mono ?_
        rintro e w6 ⟨rfl, m6, rfl⟩
        go_wp2_with fail
        refine (works_any _).mono ?_
        rintro e w7 ⟨rfl, b7⟩
        have HB7 := Lib.hid (below_next (below_drewN HZ.out m6) b7)
        clear b7
        go_wp2_with fail
        go_ret
        exact ⟨rfl, HB7.out⟩
end Go.Proofs.Ytbcdacfmhjgfiaa
