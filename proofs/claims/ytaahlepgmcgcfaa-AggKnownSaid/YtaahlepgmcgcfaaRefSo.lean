/- Stage 5's reference: rows sorted. -/
import Derived.Test.YtaahlepgmcgcfaaOwnT
import Derived.Deep.DeepCutAuto
namespace Go.Proofs.Ytaahlepgmcgcfaa
open Go.ChangeShapes Go.WideShapes Go.ChangeAt Go.RowKit

theorem below_row {B : Nat} {w W : World} {g : Nat} (h : Below B w W) (hg : B ≤ g) (o : Nat) (r : Rw) : Below B w (setRow W g o r) :=
  ((((((h.setCell (p := ⟨g, _, none⟩) hg _).setCell (p := ⟨g, _, none⟩) hg _).setCell (p := ⟨g, _, none⟩) hg _).setCell (p := ⟨g, _, none⟩) hg _).setCell (p := ⟨g, _, none⟩) hg _).setCell (p := ⟨g, _, none⟩) hg _).setCell (p := ⟨g, _, none⟩) hg _
theorem owncells7 (w : World) (t : TypeId) (x : Rw) : ∀ j z, ([.string x.p.k, .int .i64 x.p.s, .int .i64 x.p.e, .int .i64 x.a.c, .int .i64 x.a.s, .int .i64 x.a.lo, .int .i64 x.a.hi] : List Value)[j]? = some z → (w.alloc (.cells #[.string x.p.k, .int .i64 x.p.s, .int .i64 x.p.e, .int .i64 x.a.c, .int .i64 x.a.s, .int .i64 x.a.lo, .int .i64 x.a.hi] t)).cell? ((⟨w.heap.size, 0, none⟩ : Addr).add j) = some z := cells7 w t _ _ _ _ _ _ _
set_option maxRecDepth 100000 in
set_option maxHeartbeats 4000000 in
theorem refSort_any (second : Bool) (n c B : Nat) (A : Option Addr) (l : List Rw) (w : World) (h : RowsIn w B A n l) (hB : B ≤ w.heap.size) (hn : n ≤ 1000) :
    Calls Try.prog 11 #[.bool second, .slice A n c] w (RowsP 58 w (srt (rord second) l n)) := by
  obtain ⟨i0, hi, hz0, hz1, hz2⟩ := info_parts Try.info58
  have HI := Lib.hid (And.intro hi (And.intro hz0 (And.intro hz1 hz2)))
  have HP := Lib.hid h
  have HBB := Lib.hid hB
  clear hi hz0 hz1 hz2 h hB
  go_enter Try.func11, Try.ntmps11
  go_wp2_with fail
  go_loopw [5, 6, 7, 8] (fun r i _ _ wr => ∃ j : Nat, j ≤ n ∧ i = .int .i64 (j : Int) ∧ wr.ownsRow w.heap.size 58 7 r j (rcells (srt (rord second) l j)) ∧ Below w.heap.size w wr) (fun _ i _ _ _ => n - (intOf i).toNat)
  case atStart => exact ⟨0, by omega, rfl, own_nil _ _ _ _, Below.refl _ _⟩
  case round =>
    obtain ⟨j, hj, rfl, hown, hbel⟩ := hrel
    have HO := Lib.hid (And.intro hown hbel)
    clear hown
    by_cases hlt : j < n
    · obtain ⟨b, off, rfl, hb, hc⟩ := HP.out.at_ hlt
      obtain ⟨x, hx⟩ : ∃ x, l.getD j default = x := ⟨_, rfl⟩
      obtain ⟨c0, c1, c2, c3, c4, c5, c6⟩ := hc x hx
      have hz : b < w.heap.size := by have := HBB.out; omega
      have d0 := (hbel.cell (p := ⟨b, _, none⟩) hz).trans c0
      have d1 := (hbel.cell (p := ⟨b, _, none⟩) hz).trans c1
      have d2 := (hbel.cell (p := ⟨b, _, none⟩) hz).trans c2
      have d3 := (hbel.cell (p := ⟨b, _, none⟩) hz).trans c3
      have d4 := (hbel.cell (p := ⟨b, _, none⟩) hz).trans c4
      have d5 := (hbel.cell (p := ⟨b, _, none⟩) hz).trans c5
      have d6 := (hbel.cell (p := ⟨b, _, none⟩) hz).trans c6
      obtain ⟨X0, hX0⟩ : ∃ X, srt (rord second) l j ++ [x] = X := ⟨_, rfl⟩
      have hT : sink (rord second) X0 j = srt (rord second) l (j + 1) := by rw [← hX0, ← hx]; rfl
      have HX := Lib.hid (And.intro hX0 hT)
      have i1 : (0 : Int) ≤ j := by omega
      have i2 : (j : Int) < n := by omega
      clear hc c0 c1 c2 c3 c4 c5 c6 hx hX0 hT hbel
      go_wp2_with (at_builtin; refine wpList_append_own _ rfl _ _ 25 rfl w.heap.size 58 i0 (.agg #[.string ⟨#[]⟩, .int .i64 0, .int .i64 0, .int .i64 0, .int .i64 0, .int .i64 0, .int .i64 0]) 7 64 Try.underlying25 HI.out.1 HI.out.2.1 HI.out.2.2.1 HI.out.2.2.2 rfl (by decide) _ j _ rfl (HO.out.1.alloc _) ⟨wr.heap.size, 0, none⟩ 1 1 [.string x.p.k, .int .i64 x.p.s, .int .i64 x.p.e, .int .i64 x.a.c, .int .i64 x.a.s, .int .i64 x.a.lo, .int .i64 x.a.hi] rfl rfl (owncells7 wr _ x) (by simp [Value.oneCell']) (by unfold maxLen; omega) (by omega) (by have := HO.out.2.size; simp; omega) ?_; intro v' w1 ho1 hg1 _)
      obtain ⟨A', c', rfl⟩ := own_slice ho1
      have hb1 := grow_below HO.out.2 hg1 (fun g hg => (HO.out.1.lt g hg).1)
      rw [show rcells (srt (rord second) l j) ++ [.string x.p.k, .int .i64 x.p.s, .int .i64 x.p.e, .int .i64 x.a.c, .int .i64 x.a.s, .int .i64 x.a.lo, .int .i64 x.a.hi] = rcells X0 by rw [← HX.out.1, rcells_snoc]; rfl] at ho1
      obtain ⟨g, rfl⟩ : ∃ g, A' = some ⟨g, 0, none⟩ := by
        rcases ho1.2 with ⟨_, h0⟩ | ⟨g, cap, cur, e, _⟩
        · omega
        · injection e with e1; exact ⟨g, e1⟩
      have HK := Lib.hid (And.intro (OwnT.of_own ho1) hb1)
      clear ho1 hg1 hb1 d0 d1 d2 d3 d4 d5 d6
      go_wp2_with fail
      go_loopw [7, 8] (fun k _ wr => ∃ (m : Nat) (X : List Rw), m ≤ j ∧ k = .int .i64 (m : Int) ∧ sink (rord second) X m = srt (rord second) l (j + 1) ∧ OwnT 58 wr w.heap.size g (j + 1) c' X ∧ Below w.heap.size w wr) (fun k _ _ => (intOf k).toNat)
      case atStart => exact ⟨j, X0, Nat.le_refl _, rfl, HX.out.2, HK.out.1, HK.out.2⟩
      case round =>
        obtain ⟨m, X, hm, rfl, hs, ho, hb⟩ := hrel
        have HY := Lib.hid (And.intro hs (And.intro ho hb))
        clear hs ho hb
        cases m with
        | zero =>
          rw [show ((0 : Nat) : Int) = 0 from rfl]
          go_wp2_with fail
          refine ⟨⟨j + 1, by omega, by go_num, ?_, HY.out.2.2⟩, by simp [intOf]; omega⟩
          rw [← HY.out.1]
          exact HY.out.2.1.to_own
        | succ m =>
          obtain ⟨q, hq⟩ : ∃ q, m + 1 = q := ⟨_, rfl⟩
          rw [hq] at HY hm ⊢
          obtain ⟨x, hx⟩ : ∃ x, X.getD q default = x := ⟨_, rfl⟩
          obtain ⟨y, hy⟩ : ∃ y, X.getD m default = y := ⟨_, rfl⟩
          have hw1 : IntKind.i64.wrap ((q : Int) - 1) = (m : Int) := by rw [IntWalk.i64_in _ (by omega)]; omega
          have q1 : (0 : Int) < q := by omega
          have q2 : (q : Int) < (j : Int) + 1 := by omega
          have q3 : (0 : Int) ≤ q := by omega
          have m1 : (0 : Int) ≤ m := by omega
          have m2 : (m : Int) < (j : Int) + 1 := by omega
          have HE := Lib.hid (And.intro hx (And.intro hy hq))
          have HC : Hid (∀ W, Below wr.heap.size wr W → OwnT 58 W w.heap.size g (j + 1) c' X) := Lib.hid fun W hW => HY.out.2.1.below hW
          have HD : Hid (∀ W, Below wr.heap.size wr W → (W.cell? ⟨g, m * 7, none⟩ = some (.string y.p.k) ∧ W.cell? ⟨g, m * 7 + 1, none⟩ = some (.int .i64 y.p.s) ∧ W.cell? ⟨g, m * 7 + 2, none⟩ = some (.int .i64 y.p.e) ∧ W.cell? ⟨g, m * 7 + 3, none⟩ = some (.int .i64 y.a.c) ∧ W.cell? ⟨g, m * 7 + 4, none⟩ = some (.int .i64 y.a.s) ∧ W.cell? ⟨g, m * 7 + 5, none⟩ = some (.int .i64 y.a.lo) ∧ W.cell? ⟨g, m * 7 + 6, none⟩ = some (.int .i64 y.a.hi)) ∧ W.cell? ⟨g, q * 7, none⟩ = some (.string x.p.k) ∧ W.cell? ⟨g, q * 7 + 1, none⟩ = some (.int .i64 x.p.s) ∧ W.cell? ⟨g, q * 7 + 2, none⟩ = some (.int .i64 x.p.e) ∧ W.cell? ⟨g, q * 7 + 3, none⟩ = some (.int .i64 x.a.c) ∧ W.cell? ⟨g, q * 7 + 4, none⟩ = some (.int .i64 x.a.s) ∧ W.cell? ⟨g, q * 7 + 5, none⟩ = some (.int .i64 x.a.lo) ∧ W.cell? ⟨g, q * 7 + 6, none⟩ = some (.int .i64 x.a.hi)) := Lib.hid fun W hW => ⟨(HC.out W hW).cells (by omega) hy, (HC.out W hW).cells (by omega) hx⟩
          have P : Hid (∀ W, Below wr.heap.size wr W → W.cell? ⟨g, m * 7, none⟩ = some (.string y.p.k) ∧ W.cell? ⟨g, m * 7 + 1, none⟩ = some (.int .i64 y.p.s) ∧ W.cell? ⟨g, m * 7 + 2, none⟩ = some (.int .i64 y.p.e) ∧ W.cell? ⟨g, q * 7, none⟩ = some (.string x.p.k) ∧ W.cell? ⟨g, q * 7 + 1, none⟩ = some (.int .i64 x.p.s) ∧ W.cell? ⟨g, q * 7 + 2, none⟩ = some (.int .i64 x.p.e)) := Lib.hid fun W hW => by
            obtain ⟨⟨y0, y1, y2, _⟩, x0, x1, x2, _⟩ := HD.out W hW
            exact ⟨y0, y1, y2, x0, x1, x2⟩
          have D0 : Hid (Below wr.heap.size wr wr.drew) := Lib.hid (Below.refl _ _).drew
          have HPr := Lib.hid (fun W => primary_any y.p x.p W)
          have HSe := Lib.hid (fun W => secondary_any y.p x.p W)
          have hpv : ∀ z : Rw, z.p.val = .agg #[.string z.p.k, .int .i64 z.p.s, .int .i64 z.p.e] := fun _ => rfl
          rw [hpv, hpv] at HPr HSe
          clear hx hy hq hpv
          go_wp2_with fail
          go_region_held3 (fun W => W.cell? ⟨g, m * 7, none⟩ = some (.string y.p.k) ∧ W.cell? ⟨g, m * 7 + 1, none⟩ = some (.int .i64 y.p.s) ∧ W.cell? ⟨g, m * 7 + 2, none⟩ = some (.int .i64 y.p.e) ∧ W.cell? ⟨g, q * 7, none⟩ = some (.string x.p.k) ∧ W.cell? ⟨g, q * 7 + 1, none⟩ = some (.int .i64 x.p.s) ∧ W.cell? ⟨g, q * 7 + 2, none⟩ = some (.int .i64 x.p.e)) (first | with_reducible exact P.out _ D0.out | with_reducible exact P.out _ D1.out | fail) (first
            | (go_at_call 13; (with_reducible refine (HPr.out _).mono ?_); rintro e w2 ⟨rfl, b2⟩; have D1 := Lib.hid (below_next D0.out b2); clear b2))
          have P1 : Hid (∀ W, Below w2.heap.size w2 W → W.cell? ⟨g, m * 7, none⟩ = some (.string y.p.k) ∧ W.cell? ⟨g, m * 7 + 1, none⟩ = some (.int .i64 y.p.s) ∧ W.cell? ⟨g, m * 7 + 2, none⟩ = some (.int .i64 y.p.e) ∧ W.cell? ⟨g, q * 7, none⟩ = some (.string x.p.k) ∧ W.cell? ⟨g, q * 7 + 1, none⟩ = some (.int .i64 x.p.s) ∧ W.cell? ⟨g, q * 7 + 2, none⟩ = some (.int .i64 x.p.e)) := Lib.hid fun W hW => P.out W (D1.out.trans (hW.mono D1.out.size))
          have E0 : Hid (Below w2.heap.size w2 w2.drew) := Lib.hid (Below.refl _ _).drew
          go_upto_if 39 with (fail)
          go_cut [8] (fun c wx => c = .int .i64 (rord second y x) ∧ Below wr.heap.size wr wx)
          case first =>
            cases second
            · go_wp2_with fail
              go_meet
              exact ⟨rfl, D1.out⟩
            · go_wp2_with fail
              go_region_held3 (fun W => W.cell? ⟨g, m * 7, none⟩ = some (.string y.p.k) ∧ W.cell? ⟨g, m * 7 + 1, none⟩ = some (.int .i64 y.p.s) ∧ W.cell? ⟨g, m * 7 + 2, none⟩ = some (.int .i64 y.p.e) ∧ W.cell? ⟨g, q * 7, none⟩ = some (.string x.p.k) ∧ W.cell? ⟨g, q * 7 + 1, none⟩ = some (.int .i64 x.p.s) ∧ W.cell? ⟨g, q * 7 + 2, none⟩ = some (.int .i64 x.p.e)) (first | with_reducible exact P1.out _ E0.out | with_reducible exact P1.out _ E1.out | fail) (first
                | (go_at_call 16; (with_reducible refine (HSe.out _).mono ?_); rintro e w3 ⟨rfl, b3⟩; have E1 := Lib.hid (below_next E0.out b3); clear b3))
              go_wp2_with fail
              go_meet
              exact ⟨rfl, D1.out.trans (E1.out.mono D1.out.size)⟩
          case rest =>
          obtain ⟨rfl, hb2⟩ := hcut
          have D2 := Lib.hid hb2
          have hsw := rord_swap second y x
          obtain ⟨v, hv⟩ : ∃ v, rord second y x = v := ⟨_, rfl⟩
          rw [hv] at hsw ⊢
          have HV := Lib.hid hsw
          clear hb2 P P1 E0 D1 D0 HPr HSe hsw hv
          by_cases hle : v ≤ 0
          · go_wp2_with fail
            refine ⟨⟨j + 1, by omega, by go_num, ?_, HY.out.2.2.trans (D2.out.mono HY.out.2.2.size)⟩, by simp [intOf]; omega⟩
            have e := HY.out.1
            rw [← HE.out.2.2, sink_stop _ _ _ (by rw [HE.out.2.2, HE.out.1, HE.out.2.1, HV.out]; omega)] at e
            rw [← e]
            exact (HC.out _ D2.out).to_own
          · have hx := (HD.out _ D2.out).2
            have hy := (HD.out _ D2.out).1
            have hfz := fun o => (HC.out _ D2.out).frozen o
            obtain ⟨x0, x1, x2, x3, x4, x5, x6⟩ := hx
            obtain ⟨y0, y1, y2, y3, y4, y5, y6⟩ := hy
            have hmq : m ≠ q := by have := HE.out.2.2; omega
            have hmq2 : m < q := by have := HE.out.2.2; omega
            have hmq3 : m * 7 ≠ q * 7 := by omega
            go_wp2_with fail
            go_region
            go_wp2_with fail
            have RB := ((HC.out _ D2.out).set (i := m) (by omega) x).set (i := q) (by omega) y
            have GB := below_row (below_row (HY.out.2.2.trans (D2.out.mono HY.out.2.2.size)) (HC.out _ D2.out).1 (m * 7) x) (HC.out _ D2.out).1 (q * 7) y
            rw [List.set_comm _ _ hmq] at RB
            obtain ⟨W2, hW2⟩ : ∃ W2, setRow (setRow wc g (m * 7) x) g (q * 7) y = W2 := ⟨_, rfl⟩
            rw [hW2] at RB GB
            unfold setRow at hW2
            rw [hW2]
            clear hW2 x0 x1 x2 x3 x4 x5 x6 y0 y1 y2 y3 y4 y5 y6
            refine ⟨⟨m, (X.set q y).set m x, by omega, rfl, ?_, RB, GB.drew⟩, by simp [intOf]; omega⟩
            have e := HY.out.1
            rw [← HE.out.2.2, sink_go _ _ _ (by rw [HE.out.2.2, HE.out.1, HE.out.2.1, HV.out]; omega), HE.out.2.2, HE.out.1, HE.out.2.1] at e
            exact e
    · obtain rfl : n = j := by omega
      obtain ⟨A1, c1, rfl⟩ := own_slice HO.out.1
      have HL : Hid ((srt (rord second) l n).length = n) := Lib.hid (srt_len _ _ _)
      clear hbel
      go_wp2_with fail
      go_ret
      obtain ⟨R, hR⟩ : ∃ R, srt (rord second) l n = R := ⟨_, rfl⟩
      have h1 := HO.out.1
      have h2 := HL.out
      rw [hR] at h1 h2 ⊢
      subst h2
      exact ⟨A1, c1, rfl, h1, HO.out.2⟩
end Go.Proofs.Ytaahlepgmcgcfaa
