/- Layer 5's reference: the aggregate of values. -/
import Derived.Test.YtaahlepgmcgcfaaAg
import Derived.Test.YtaahlepgmcgcfaaSumR
namespace Go.Proofs.Ytaahlepgmcgcfaa
open Go.ChangeShapes Go.WideShapes Go.ChangeAt Go.RowKit

def aggV (a : Ag.A) : Value := .agg #[.int .i64 a.c, .int .i64 a.s, .int .i64 a.lo, .int .i64 a.hi]
def aggC (a : Ag.A) : Array Value := #[.int .i64 a.c, .int .i64 a.s, .int .i64 a.lo, .int .i64 a.hi]
/-- An aggregate, or the blank one and the error 30. -/
def AggE (w : World) (o : Option Ag.A) (e : Ending) (w' : World) : Prop := Below w.heap.size w w' ∧ match o with
  | none => e = .returned (.tuple #[aggV Ag.none', .int .i64 30])
  | some a => e = .returned (.tuple #[aggV a, .int .i64 0])
theorem fits_sum (s : Int) : Ag.fits s = fitB s := rfl
theorem blk_drewN {w : World} {b T : Nat} {cs : Array Value} (h : Blk w b T cs) (k : Nat) : Blk (w.drewN k) b T cs := h
set_option maxRecDepth 100000 in
set_option maxHeartbeats 4000000 in
theorem refAll_any (n c B : Nat) (A : Option Addr) (ns : List Int) (w : World) (h : Ints w B A n ns) (hB : B ≤ w.heap.size) (hn : n ≤ 1000000) :
    Calls Try.prog 40 #[.slice A n c] w (AggE w (Ag.all ns)) := by
  have HP := Lib.hid h
  clear h
  have hb0 := Blk.new w 55 #[.int .i64 0, .int .i64 0, .int .i64 0, .int .i64 0]
  have hb1 := Blk.new (w.alloc (.cells #[.int .i64 0, .int .i64 0, .int .i64 0, .int .i64 0] 55)) 55 #[.int .i64 0, .int .i64 0, .int .i64 0, .int .i64 0]
  have hb2 := hb0.below ((Below.refl _ _).alloc (Nat.le_refl _) (.cells #[.int .i64 0, .int .i64 0, .int .i64 0, .int .i64 0] 55)) hb0.lt
  have hbe : Below w.heap.size w ((w.alloc (.cells #[.int .i64 0, .int .i64 0, .int .i64 0, .int .i64 0] 55)).alloc (.cells #[.int .i64 0, .int .i64 0, .int .i64 0, .int .i64 0] 55)) := ((Below.refl _ _).alloc (Nat.le_refl _) _).alloc (by simp) _
  rw [World.size_alloc] at hb1
  obtain ⟨w0, hw0⟩ : ∃ w0, (w.alloc (.cells #[.int .i64 0, .int .i64 0, .int .i64 0, .int .i64 0] 55)).alloc (.cells #[.int .i64 0, .int .i64 0, .int .i64 0, .int .i64 0] 55) = w0 := ⟨_, rfl⟩
  have hz : w0.heap.size = w.heap.size + 2 := by rw [← hw0]; simp
  rw [hw0] at hb1 hb2 hbe
  have H0 := Lib.hid (And.intro hb1 (And.intro hb2 (And.intro hbe hz)))
  clear hb0 hb1 hb2 hbe hz
  go_enter Try.func40, Try.ntmps40
  go_wp2_with fail
  clear hw0
  refine (refSum_any n c B A ns w0 (HP.out.below H0.out.2.2.1 hB) (by rw [H0.out.2.2.2]; omega) hn).mono ?_
  rintro e w1 ⟨rfl, b1⟩
  have hk1 := H0.out.1.below b1 (by rw [H0.out.2.2.2]; omega)
  have hk0 := H0.out.2.1.below b1 (by rw [H0.out.2.2.2]; omega)
  have hbe := H0.out.2.2.1.trans (b1.mono H0.out.2.2.1.size)
  by_cases hf : fitB ns.sum = true
  · have hall : Ag.all ns = some (Ag.of ns) := by unfold Ag.all; rw [fits_sum, if_pos hf]
    have hs0 : sumE ns.sum = 0 := by unfold sumE; rw [if_pos hf]
    have hsn : fitN ns.sum = ns.sum := by
      have := of_decide_eq_true hf
      unfold fitN
      rw [if_pos this]
    rw [hs0, hsn]
    have HALL := Lib.hid hall
    have H1 := Lib.hid (And.intro hk1 (And.intro hk0 hbe))
    have hlen := HP.out.1
    have HN := Lib.hid hlen
    clear hk1 hk0 hbe hall hs0 hsn hf b1 hlen
    obtain ⟨S, hS⟩ : ∃ S, ns.sum = S := ⟨_, rfl⟩
    have HS := Lib.hid hS
    rw [hS]
    clear hS
    go_wp2_with fail
    go_loopw [7] (fun i wr => ∃ j : Nat, j ≤ n ∧ i = .int .i64 (j : Int) ∧ Blk wr (w.heap.size + 1) 55 #[.int .i64 0, .int .i64 0, .int .i64 (Ag.mn (ns.take j)), .int .i64 (Ag.mx (ns.take j))] ∧ Blk wr w.heap.size 55 #[.int .i64 0, .int .i64 0, .int .i64 0, .int .i64 0] ∧ Below w.heap.size w wr) (fun i _ => n - (intOf i).toNat)
    case atStart => exact ⟨0, by omega, rfl, H1.out.1, H1.out.2.1, H1.out.2.2⟩
    case round =>
      obtain ⟨j, hj, rfl, hbo, hbr, hbel⟩ := hrel
      by_cases hltj : j < n
      · obtain ⟨b, off, rfl, hb, hc⟩ := HP.out.2.2 (by omega)
        have hcj := hc j hltj
        have hst : ns.take (j + 1) = ns.take j ++ [ns.getD j 0] := by
          have hl : j < ns.length := by rw [HN.out]; exact hltj
          rw [List.take_succ_eq_append_getElem hl, List.getD_eq_getElem?_getD, List.getElem?_eq_getElem hl]; rfl
        generalize ns.getD j 0 = x at hcj hst
        have HC : Hid (∀ W, Below w.heap.size w W → W.cell? ⟨b, off + j, none⟩ = some (.int .i64 x)) := Lib.hid fun W hW => (hW.cell (p := ⟨b, off + j, none⟩) (by show b < w.heap.size; omega)).trans hcj
        have HD := Lib.hid hbel
        have i1 : (0 : Int) ≤ j := by omega
        have i2 : (j : Int) < n := by omega
        obtain ⟨lo, hlo0⟩ : ∃ lo, Ag.mn (ns.take j) = lo := ⟨_, rfl⟩
        obtain ⟨hi, hhi0⟩ : ∃ hi, Ag.mx (ns.take j) = hi := ⟨_, rfl⟩
        rw [hlo0, hhi0] at hbo
        have HB := Lib.hid (And.intro hbo hbr)
        clear hc hcj hbel hbo hbr
        by_cases hj0 : j = 0
        · have hnil : ns.take j = [] := by rw [hj0]; rfl
          have j1 : (j : Int) = 0 := by omega
          have j2 : ((j : Int) == 0) = true := by rw [beq_iff_eq]; omega
          have j3 : (j == 0) = true := by rw [beq_iff_eq]; exact hj0
          have j4 : decide (j = 0) = true := decide_eq_true hj0
          have j5 : decide ((j : Int) = 0) = true := decide_eq_true j1
          have hl2 : Ag.mn (ns.take (j + 1)) = x := by rw [hst, Ag.mn_snoc]; rw [if_pos hnil]
          have hh2 : Ag.mx (ns.take (j + 1)) = x := by rw [hst, Ag.mx_snoc]; rw [if_pos hnil]
          have HL := Lib.hid (And.intro hl2 hh2)
          clear hl2 hh2 hst hnil hlo0 hhi0 j1 j3 j4 hj0
          have nc := HC.out _ HD.out
          have oc2 := HB.out.1.cell 2
          have of2 := HB.out.1.frozen 2
          go_wp2_with fail
          go_quiet (fail)
          go_wp2_with fail
          clear nc oc2 of2
          have B1 := Lib.hid (fun m => (show Blk (wr.drewN m) (w.heap.size + 1) 55 _ from HB.out.1).set_ 2 (.int .i64 x))
          have R1 := Lib.hid (fun m => (show Blk (wr.drewN m) w.heap.size 55 _ from HB.out.2).far (show w.heap.size + 1 ≠ w.heap.size by omega) (o := 2) (.int .i64 x))
          have D1 := Lib.hid (fun m => (below_drewN HD.out m).setCell (p := ⟨w.heap.size + 1, 2, none⟩) (show w.heap.size ≤ w.heap.size + 1 by omega) (.int .i64 x))
          have nc := fun m => HC.out _ (D1.out m)
          have oc3 := fun m => (B1.out m).cell 3
          have of3 := fun m => (B1.out m).frozen 3
          go_quiet (fail)
          go_wp2_with fail
          clear nc oc3 of3
          go_roundw
          case measure => simp [intOf]; omega
          case rel =>
            refine ⟨j + 1, by omega, by go_num, ?_, (blk_drewN (R1.out _) _).far (show w.heap.size + 1 ≠ w.heap.size by omega) (o := 3) (.int .i64 x), (below_drewN (D1.out _) _).setCell (p := ⟨w.heap.size + 1, 3, none⟩) (show w.heap.size ≤ w.heap.size + 1 by omega) (.int .i64 x)⟩
            rw [HL.out.1, HL.out.2]
            exact (blk_drewN (B1.out _) _).set_ 3 (.int .i64 x)
        · have hnil : ns.take j ≠ [] := by
            intro e
            have := congrArg List.length e
            rw [List.length_take, HN.out] at this
            simp at this
            omega
          have j1 : ¬ (j : Int) = 0 := by omega
          have j2 : ((j : Int) == 0) = false := by rw [beq_eq_false_iff_ne]; omega
          have j3 : (j == 0) = false := by rw [beq_eq_false_iff_ne]; exact hj0
          have j4 : decide (j = 0) = false := decide_eq_false hj0
          have j5 : decide ((j : Int) = 0) = false := decide_eq_false j1
          by_cases hlt : x < lo
          · by_cases hgt : hi < x
            · have hl2 : Ag.mn (ns.take (j + 1)) = x := by rw [hst, Ag.mn_snoc]; rw [if_neg hnil, hlo0, if_pos hlt]
              have hh2 : Ag.mx (ns.take (j + 1)) = x := by rw [hst, Ag.mx_snoc]; rw [if_neg hnil, hhi0, if_pos hgt]
              have HL := Lib.hid (And.intro hl2 hh2)
              clear hl2 hh2 hst hnil hlo0 hhi0
              have nc := HC.out _ HD.out
              have oc2 := HB.out.1.cell 2
              have of2 := HB.out.1.frozen 2
              go_wp2_with fail
              go_quiet (fail)
              go_wp2_with fail
              clear nc oc2 of2
              have B1 := Lib.hid (fun m => (show Blk (wr.drewN m) (w.heap.size + 1) 55 _ from HB.out.1).set_ 2 (.int .i64 x))
              have R1 := Lib.hid (fun m => (show Blk (wr.drewN m) w.heap.size 55 _ from HB.out.2).far (show w.heap.size + 1 ≠ w.heap.size by omega) (o := 2) (.int .i64 x))
              have D1 := Lib.hid (fun m => (below_drewN HD.out m).setCell (p := ⟨w.heap.size + 1, 2, none⟩) (show w.heap.size ≤ w.heap.size + 1 by omega) (.int .i64 x))
              have nc := fun m => HC.out _ (D1.out m)
              have oc3 := fun m => (B1.out m).cell 3
              have of3 := fun m => (B1.out m).frozen 3
              go_quiet (fail)
              go_wp2_with fail
              clear nc oc3 of3
              go_roundw
              case measure => simp [intOf]; omega
              case rel =>
                refine ⟨j + 1, by omega, by go_num, ?_, (blk_drewN (R1.out _) _).far (show w.heap.size + 1 ≠ w.heap.size by omega) (o := 3) (.int .i64 x), (below_drewN (D1.out _) _).setCell (p := ⟨w.heap.size + 1, 3, none⟩) (show w.heap.size ≤ w.heap.size + 1 by omega) (.int .i64 x)⟩
                rw [HL.out.1, HL.out.2]
                exact (blk_drewN (B1.out _) _).set_ 3 (.int .i64 x)
            · have hl2 : Ag.mn (ns.take (j + 1)) = x := by rw [hst, Ag.mn_snoc]; rw [if_neg hnil, hlo0, if_pos hlt]
              have hh2 : Ag.mx (ns.take (j + 1)) = hi := by rw [hst, Ag.mx_snoc]; rw [if_neg hnil, hhi0, if_neg hgt]
              have HL := Lib.hid (And.intro hl2 hh2)
              clear hl2 hh2 hst hnil hlo0 hhi0 j1 j3 j4 hj0
              have nc := HC.out _ HD.out
              have oc2 := HB.out.1.cell 2
              have of2 := HB.out.1.frozen 2
              go_wp2_with fail
              go_quiet (fail)
              go_wp2_with fail
              clear nc oc2 of2
              have B1 := Lib.hid (fun m => (show Blk (wr.drewN m) (w.heap.size + 1) 55 _ from HB.out.1).set_ 2 (.int .i64 x))
              have R1 := Lib.hid (fun m => (show Blk (wr.drewN m) w.heap.size 55 _ from HB.out.2).far (show w.heap.size + 1 ≠ w.heap.size by omega) (o := 2) (.int .i64 x))
              have D1 := Lib.hid (fun m => (below_drewN HD.out m).setCell (p := ⟨w.heap.size + 1, 2, none⟩) (show w.heap.size ≤ w.heap.size + 1 by omega) (.int .i64 x))
              have nc := fun m => HC.out _ (D1.out m)
              have oc3 := fun m => (B1.out m).cell 3
              have of3 := fun m => (B1.out m).frozen 3
              go_quiet (fail)
              go_wp2_with fail
              clear nc oc3 of3
              go_roundw
              case measure => simp [intOf]; omega
              case rel =>
                refine ⟨j + 1, by omega, by go_num, ?_, blk_drewN (R1.out _) _, below_drewN (D1.out _) _⟩
                rw [HL.out.1, HL.out.2]
                exact blk_drewN (B1.out _) _
          · by_cases hgt : hi < x
            · have hl2 : Ag.mn (ns.take (j + 1)) = lo := by rw [hst, Ag.mn_snoc]; rw [if_neg hnil, hlo0, if_neg hlt]
              have hh2 : Ag.mx (ns.take (j + 1)) = x := by rw [hst, Ag.mx_snoc]; rw [if_neg hnil, hhi0, if_pos hgt]
              have HL := Lib.hid (And.intro hl2 hh2)
              clear hl2 hh2 hst hnil hlo0 hhi0
              have nc := HC.out _ HD.out
              have oc2 := HB.out.1.cell 2
              have of2 := HB.out.1.frozen 2
              go_wp2_with fail
              go_quiet (fail)
              go_wp2_with fail
              clear nc oc2 of2
              have B1 := Lib.hid (fun m => (show Blk (wr.drewN m) (w.heap.size + 1) 55 _ from HB.out.1))
              have R1 := Lib.hid (fun m => (show Blk (wr.drewN m) w.heap.size 55 _ from HB.out.2))
              have D1 := Lib.hid (fun m => (below_drewN HD.out m))
              have nc := fun m => HC.out _ (D1.out m)
              have oc3 := fun m => (B1.out m).cell 3
              have of3 := fun m => (B1.out m).frozen 3
              go_quiet (fail)
              go_wp2_with fail
              clear nc oc3 of3
              go_roundw
              case measure => simp [intOf]; omega
              case rel =>
                refine ⟨j + 1, by omega, by go_num, ?_, (R1.out _).far (show w.heap.size + 1 ≠ w.heap.size by omega) (o := 3) (.int .i64 x), (D1.out _).setCell (p := ⟨w.heap.size + 1, 3, none⟩) (show w.heap.size ≤ w.heap.size + 1 by omega) (.int .i64 x)⟩
                rw [HL.out.1, HL.out.2]
                exact (B1.out _).set_ 3 (.int .i64 x)
            · have hl2 : Ag.mn (ns.take (j + 1)) = lo := by rw [hst, Ag.mn_snoc]; rw [if_neg hnil, hlo0, if_neg hlt]
              have hh2 : Ag.mx (ns.take (j + 1)) = hi := by rw [hst, Ag.mx_snoc]; rw [if_neg hnil, hhi0, if_neg hgt]
              have HL := Lib.hid (And.intro hl2 hh2)
              clear hl2 hh2 hst hnil hlo0 hhi0 j1 j3 j4 hj0
              have nc := HC.out _ HD.out
              have oc2 := HB.out.1.cell 2
              have of2 := HB.out.1.frozen 2
              go_wp2_with fail
              go_quiet (fail)
              go_wp2_with fail
              clear nc oc2 of2
              have B1 := Lib.hid (fun m => (show Blk (wr.drewN m) (w.heap.size + 1) 55 _ from HB.out.1))
              have R1 := Lib.hid (fun m => (show Blk (wr.drewN m) w.heap.size 55 _ from HB.out.2))
              have D1 := Lib.hid (fun m => (below_drewN HD.out m))
              have nc := fun m => HC.out _ (D1.out m)
              have oc3 := fun m => (B1.out m).cell 3
              have of3 := fun m => (B1.out m).frozen 3
              go_quiet (fail)
              go_wp2_with fail
              clear nc oc3 of3
              go_roundw
              case measure => simp [intOf]; omega
              case rel =>
                refine ⟨j + 1, by omega, by go_num, ?_, R1.out _, D1.out _⟩
                rw [HL.out.1, HL.out.2]
                exact B1.out _
      · obtain rfl : n = j := by omega
        have hS := HS.out
        have htk : ns.take n = ns := List.take_of_length_le (by rw [HN.out]; exact Nat.le_refl _)
        rw [htk] at hbo
        have HL := Lib.hid HN.out
        have hnn : IntKind.i64.wrap (n : Int) = n := IntWalk.i64_in _ (by omega)
        have hc0 := hbo.cell 0
        have hc1 := hbo.cell 1
        have hc2 := hbo.cell 2
        have hc3 := hbo.cell 3
        have hf0 := hbo.frozen 0
        have hf1 := hbo.frozen 1
        have gc0 := hbr.cell 0
        have gc1 := hbr.cell 1
        have gc2 := hbr.cell 2
        have gc3 := hbr.cell 3
        have gf0 := hbr.frozen 0
        have gf1 := hbr.frozen 1
        have gf2 := hbr.frozen 2
        have gf3 := hbr.frozen 3
        have HB := Lib.hid (And.intro hbo (And.intro hbr hbel))
        have hd := (((((HB.out.2.1.far (show w.heap.size + 1 ≠ w.heap.size by omega) (o := 0) (.int .i64 (n : Int))).far (show w.heap.size + 1 ≠ w.heap.size by omega) (o := 1) (.int .i64 S)).set_ 0 (.int .i64 (n : Int))).set_ 1 (.int .i64 S)).set_ 2 (.int .i64 (Ag.mn ns))).set_ 3 (.int .i64 (Ag.mx ns))
        have HD := Lib.hid hd
        have HX := Lib.hid ((((((HB.out.2.2.setCell (p := ⟨w.heap.size + 1, 0, none⟩) (show w.heap.size ≤ w.heap.size + 1 by omega) (.int .i64 (n : Int))).setCell (p := ⟨w.heap.size + 1, 1, none⟩) (show w.heap.size ≤ w.heap.size + 1 by omega) (.int .i64 S)).setCell (p := ⟨w.heap.size, 0, none⟩) (Nat.le_refl _) (.int .i64 (n : Int))).setCell (p := ⟨w.heap.size, 1, none⟩) (Nat.le_refl _) (.int .i64 S)).setCell (p := ⟨w.heap.size, 2, none⟩) (Nat.le_refl _) (.int .i64 (Ag.mn ns))).setCell (p := ⟨w.heap.size, 3, none⟩) (Nat.le_refl _) (.int .i64 (Ag.mx ns)))
        clear hbo hbr hbel htk hd
        go_wp2_with fail
        have e0 := HD.out.cell 0
        have e1 := HD.out.cell 1
        have e2 := HD.out.cell 2
        have e3 := HD.out.cell 3
        refine bodyPost_ret (v := .tuple #[aggV (Ag.of ns), .int .i64 0]) ?_ rfl ?_
        · simp [results, Try.results40, go_sem, aggV, Ag.of, e0, e1, e2, e3, HS.out, HL.out]
        · show AggE w (Ag.all ns) _ _
          rw [HALL.out]
          exact ⟨HX.out, rfl⟩
  · have hall : Ag.all ns = none := by unfold Ag.all; rw [fits_sum, if_neg hf]
    have hs0 : sumE ns.sum = 30 := by unfold sumE; rw [if_neg hf]
    rw [hs0]
    have HALL := Lib.hid hall
    have hc0 := hk0.cell 0
    have hc1 := hk0.cell 1
    have hc2 := hk0.cell 2
    have hc3 := hk0.cell 3
    have hf0 := hk0.frozen 0
    have hf1 := hk0.frozen 1
    have hf2 := hk0.frozen 2
    have hf3 := hk0.frozen 3
    have hd := (((hk0.set_ 0 (.int .i64 0)).set_ 1 (.int .i64 0)).set_ 2 (.int .i64 0)).set_ 3 (.int .i64 0)
    have hd0 := Lib.hid (hd.cell 0)
    have hd1 := Lib.hid (hd.cell 1)
    have hd2 := Lib.hid (hd.cell 2)
    have hd3 := Lib.hid (hd.cell 3)
    have HBE := Lib.hid hbe
    clear hk1 hk0 hbe hall hs0 hf b1 hd
    go_wp2_with fail
    have e0 := hd0.out
    have e1 := hd1.out
    have e2 := hd2.out
    have e3 := hd3.out
    refine bodyPost_ret (v := .tuple #[aggV Ag.none', .int .i64 30]) ?_ rfl ?_
    · simp [results, Try.results40, go_sem, aggV, Ag.none', e0, e1, e2, e3]
    · show AggE w (Ag.all ns) _ _
      rw [HALL.out]
      exact ⟨(((HBE.out.setCell (Nat.le_refl _) _).setCell (Nat.le_refl _) _).setCell (Nat.le_refl _) _).setCell (Nat.le_refl _) _, rfl⟩
end Go.Proofs.Ytaahlepgmcgcfaa
