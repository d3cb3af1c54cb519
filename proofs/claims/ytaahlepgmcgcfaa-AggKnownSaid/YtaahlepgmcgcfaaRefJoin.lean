/- Layer 5's reference: aggregates joined. -/
import Derived.Test.YtaahlepgmcgcfaaRefAll
import Derived.Test.YtaahlepgmcgcfaaRefRi
import Derived.Test.YtaahlepgmcgcfaaAggs
import Derived.Test.YtaahlepgmcgcfaaApart
import Derived.OneCell
namespace Go.Proofs.Ytaahlepgmcgcfaa
open Go.ChangeShapes Go.WideShapes Go.ChangeAt Go.RowKit

theorem Try.info2 : (Try.prog.info? 2).map (fun i => (i.zero, i.size, i.bytes)) = some (some (.int .i64 0), 1, 8) := by kernel_rfl
theorem own_drewN {w : World} {B e s n : Nat} {v : Value} {xs : List Value} (h : w.ownsRow B e s v n xs) (k : Nat) : (w.drewN k).ownsRow B e s v n xs := h
theorem cell1 (w : World) (t : TypeId) (u : Value) : ∀ j z, ([u] : List Value)[j]? = some z → (w.alloc (.cells #[u] t)).cell? ((⟨w.heap.size, 0, none⟩ : Addr).add j) = some z := by
  intro j z h
  rw [add_at, Nat.zero_add, (Blk.new w t _).cell]
  simpa using h
theorem cell1' (w : World) (t : TypeId) (u : Value) (g : Nat) (hg : g = w.heap.size) : ∀ j z, ([u] : List Value)[j]? = some z → (w.alloc (.cells #[u] t)).cell? ((⟨g, 0, none⟩ : Addr).add j) = some z := by
  rw [hg]
  exact cell1 w t u
theorem below_of_grown {B : Nat} {w w' : World} {row : Option Nat} (hB : B ≤ w.heap.size) (hg : w.grownBy w' row) (hr : ∀ g, row = some g → B ≤ g) : Below B w w' :=
  ⟨hg.os, hg.tape, hg.output, hg.size, fun k hk => hg.block k (by omega) (fun e => by have := hr k e.symm; omega)⟩
theorem ap_symm {v1 v2 : Value} (h : v2.ownBlock = none ∨ v2.ownBlock ≠ v1.ownBlock) : v1.ownBlock = none ∨ v1.ownBlock ≠ v2.ownBlock := by
  by_cases h1 : v1.ownBlock = none
  · exact .inl h1
  · refine .inr fun e => ?_
    rcases h with h | h
    · exact h1 (e.trans h)
    · exact h e.symm
theorem live_snoc (g : List Ag.A) (p : Ag.A) : Ag.live (g ++ [p]) = if Ag.blank p = true then Ag.live g else Ag.live g ++ [p] := by
  unfold Ag.live
  rw [List.filter_append]
  cases h : Ag.blank p <;> simp [h]
theorem sum_yes {s : Int} (h : fitB s = true) : sumE s = 0 ∧ fitN s = s := by
  have := of_decide_eq_true h
  unfold sumE fitN
  exact ⟨if_pos h, if_pos this⟩
theorem sum_no {s : Int} (h : fitB s = false) : sumE s = 30 := by unfold sumE; rw [h]; rfl
set_option maxRecDepth 100000 in
set_option maxHeartbeats 4000000 in
theorem refJoin_any (n c B : Nat) (A : Option Addr) (l : List Ag.A) (w : World) (h : Aggs w B A n l) (hB : B ≤ w.heap.size) (hn : n ≤ 1000) :
    Calls Try.prog 44 #[.slice A n c] w (AggE w (Ag.join l)) := by
  obtain ⟨i0, hi, hz0, hz1, hz2⟩ := info_parts Try.info2
  have HI := Lib.hid (And.intro hi (And.intro hz0 (And.intro hz1 hz2)))
  have HP := Lib.hid h
  clear h hi hz0 hz1 hz2
  have hb0 := Blk.new w 55 #[.int .i64 0, .int .i64 0, .int .i64 0, .int .i64 0]
  have hb1 := Blk.new (w.alloc (.cells #[.int .i64 0, .int .i64 0, .int .i64 0, .int .i64 0] 55)) 55 #[.int .i64 0, .int .i64 0, .int .i64 0, .int .i64 0]
  have hb2 := hb0.below ((Below.refl _ _).alloc (Nat.le_refl _) (.cells #[.int .i64 0, .int .i64 0, .int .i64 0, .int .i64 0] 55)) hb0.lt
  have hbe : Below w.heap.size w ((w.alloc (.cells #[.int .i64 0, .int .i64 0, .int .i64 0, .int .i64 0] 55)).alloc (.cells #[.int .i64 0, .int .i64 0, .int .i64 0, .int .i64 0] 55)) := ((Below.refl _ _).alloc (Nat.le_refl _) _).alloc (by simp) _
  rw [World.size_alloc] at hb1
  obtain ⟨w0, hw0⟩ : ∃ w0, (w.alloc (.cells #[.int .i64 0, .int .i64 0, .int .i64 0, .int .i64 0] 55)).alloc (.cells #[.int .i64 0, .int .i64 0, .int .i64 0, .int .i64 0] 55) = w0 := ⟨_, rfl⟩
  have hz : w0.heap.size = w.heap.size + 2 := by rw [← hw0]; simp
  rw [hw0] at hb1 hb2 hbe
  have H0 := Lib.hid (And.intro hb1 (And.intro hb2 (And.intro hbe hz)))
  clear hb0 hb1 hb2 hbe hz
  have g1 := agg_guard
  go_enter Try.func44, Try.ntmps44
  go_wp2_with fail
  clear hw0
  go_loopw [4, 5, 7] (fun r s i wr => ∃ (j k : Nat) (L : List Ag.A), j ≤ n ∧ k ≤ j ∧ i = .int .i64 (j : Int) ∧ Ag.live (l.take j) = L ∧ k = L.length ∧ wr.ownsRow (w.heap.size + 2) 2 1 r k (i64s (L.map (·.c))) ∧ wr.ownsRow (w.heap.size + 2) 2 1 s k (i64s (L.map (·.s))) ∧ (s.ownBlock = none ∨ s.ownBlock ≠ r.ownBlock) ∧ Blk wr (w.heap.size + 1) 55 #[.int .i64 0, .int .i64 0, .int .i64 (Ag.mn (L.map (·.lo))), .int .i64 (Ag.mx (L.map (·.hi)))] ∧ Blk wr w.heap.size 55 #[.int .i64 0, .int .i64 0, .int .i64 0, .int .i64 0] ∧ Below w.heap.size w wr ∧ w.heap.size + 2 ≤ wr.heap.size) (fun _ _ i _ => n - (intOf i).toNat)
  case atStart => exact ⟨0, 0, [], by omega, by omega, rfl, rfl, rfl, own_nil _ _ _ _, own_nil _ _ _ _, .inl rfl, H0.out.1, H0.out.2.1, H0.out.2.2.1, by rw [H0.out.2.2.2]; exact Nat.le_refl _⟩
  case round =>
    obtain ⟨j, k, L, hj, hkj, rfl, hL, hK, ho4, ho5, hap, hbo, hbr, hbel, hsz⟩ := hrel
    obtain ⟨A4, d4, rfl⟩ := own_slice ho4
    obtain ⟨A5, d5, rfl⟩ := own_slice ho5
    have NE4 := Lib.hid (show (Value.slice A4 k d4).ownBlock ≠ some (w.heap.size + 1) from fun e => by have := (ho4.lt _ e).1; omega)
    have NE5 := Lib.hid (show (Value.slice A5 k d5).ownBlock ≠ some (w.heap.size + 1) from fun e => by have := (ho5.lt _ e).1; omega)
    have HO4 := Lib.hid ho4
    have HO5 := Lib.hid ho5
    have HAP := Lib.hid hap
    have HZ := Lib.hid hsz
    have HK := Lib.hid hK
    clear ho4 ho5 hap hsz hK
    by_cases hltj : j < n
    · obtain ⟨b, off, rfl, hb, hc⟩ := HP.out.2.2 (by omega)
      have hcj := hc j hltj
      have hst := asnoc_at l j (by rw [HP.out.1]; exact hltj)
      generalize l.getD j default = p at hcj hst
      have hlv : Ag.live (l.take (j + 1)) = if Ag.blank p = true then L else L ++ [p] := by rw [hst, live_snoc, hL]
      have HC : Hid (∀ W, Below w.heap.size w W → W.cell? ⟨b, off + j * 4, none⟩ = some (.int .i64 p.c) ∧ W.cell? ⟨b, off + j * 4 + 1, none⟩ = some (.int .i64 p.s) ∧ W.cell? ⟨b, off + j * 4 + 2, none⟩ = some (.int .i64 p.lo) ∧ W.cell? ⟨b, off + j * 4 + 3, none⟩ = some (.int .i64 p.hi)) := Lib.hid fun W hW => by
        have hz : b < w.heap.size := by omega
        exact ⟨(hW.cell (p := ⟨b, _, none⟩) hz).trans hcj.1, (hW.cell (p := ⟨b, _, none⟩) hz).trans hcj.2.1, (hW.cell (p := ⟨b, _, none⟩) hz).trans hcj.2.2.1, (hW.cell (p := ⟨b, _, none⟩) hz).trans hcj.2.2.2⟩
      have HD := Lib.hid hbel
      have i1 : (0 : Int) ≤ j := by omega
      have i2 : (j : Int) < n := by omega
      have q1 := fun W => agg_blank p W
      obtain ⟨c1, c2, c3, c4⟩ := HC.out _ hbel
      by_cases hbl : Ag.blank p = true
      · rw [if_pos hbl] at hlv
        rw [hbl] at q1
        have HB := Lib.hid (And.intro hbo hbr)
        have HLV := Lib.hid hlv
        clear hc hcj hst hbel hbo hbr hL hbl hlv
        go_wp2_with fail
        go_roundw
        case measure => simp [intOf]; omega
        case rel => exact ⟨j + 1, k, L, by omega, by omega, by go_num, HLV.out, HK.out, HO4.out, HO5.out, HAP.out, HB.out.1, HB.out.2, HD.out, HZ.out⟩
      · rw [if_neg hbl] at hlv
        rw [(Bool.not_eq_true _).mp hbl] at q1
        have HLV := Lib.hid hlv
        have hk3 : k ≤ 1000 := by omega
        obtain ⟨lo, hlo0⟩ : ∃ lo, Ag.mn (L.map (·.lo)) = lo := ⟨_, rfl⟩
        obtain ⟨hi, hhi0⟩ : ∃ hi, Ag.mx (L.map (·.hi)) = hi := ⟨_, rfl⟩
        rw [hlo0, hhi0] at hbo
        have HB := Lib.hid (And.intro hbo hbr)
        clear hc hcj hst hbel hbo hbr hL hbl hlv
        by_cases hk0 : L = []
        · have hnil : L.map (·.lo) = [] := by rw [hk0]; rfl
          have hnil2 : L.map (·.hi) = [] := by rw [hk0]; rfl
          have j1 : (k : Int) = 0 := by rw [HK.out, hk0]; rfl
          have j2 : ((k : Int) == 0) = true := by rw [beq_iff_eq]; exact j1
          have j5 : decide ((k : Int) = 0) = true := decide_eq_true j1
          have hl2 : Ag.mn ((L ++ [p]).map (·.lo)) = p.lo := by rw [List.map_append, List.map_singleton, Ag.mn_snoc]; rw [if_pos hnil]
          have hh2 : Ag.mx ((L ++ [p]).map (·.hi)) = p.hi := by rw [List.map_append, List.map_singleton, Ag.mx_snoc]; rw [if_pos hnil2]
          have HL := Lib.hid (And.intro hl2 hh2)
          clear hl2 hh2 hnil hlo0 hhi0
          clear j1 hk0 hnil2
          have oc2 := HB.out.1.cell 2
          have of2 := HB.out.1.frozen 2
          go_wp2_with fail
          go_quiet (fail)
          go_wp2_with fail
          clear oc2 of2
          have B1 := Lib.hid (fun m => (show Blk (wr.drewN m) (w.heap.size + 1) 55 _ from HB.out.1).set_ 2 (.int .i64 p.lo))
          have R1 := Lib.hid (fun m => (show Blk (wr.drewN m) w.heap.size 55 _ from HB.out.2).far (show w.heap.size + 1 ≠ w.heap.size by omega) (o := 2) (.int .i64 p.lo))
          have D1 := Lib.hid (fun m => (below_drewN HD.out m).setCell (p := ⟨w.heap.size + 1, 2, none⟩) (show w.heap.size ≤ w.heap.size + 1 by omega) (.int .i64 p.lo))
          have P1 := Lib.hid (fun m => ownsRow_setCell_other (own_drewN HO4.out m) (a := ⟨w.heap.size + 1, 2, none⟩) NE4.out (.int .i64 p.lo))
          have Q1 := Lib.hid (fun m => ownsRow_setCell_other (own_drewN HO5.out m) (a := ⟨w.heap.size + 1, 2, none⟩) NE5.out (.int .i64 p.lo))
          clear c1 c2 c3 c4
          have c1 := fun m => (HC.out _ (D1.out m)).1
          have c2 := fun m => (HC.out _ (D1.out m)).2.1
          have c4 := fun m => (HC.out _ (D1.out m)).2.2.2
          have oc3 := fun m => (B1.out m).cell 3
          have of3 := fun m => (B1.out m).frozen 3
          go_quiet (fail)
          go_wp2_with (first
            | (at_builtin; refine wpList_append_near rfl _ _ 41 rfl (w.heap.size + 2) 2 i0 (.int .i64 0) 1 8 Try.underlying41 HI.out.1 HI.out.2.1 HI.out.2.2.1 HI.out.2.2.2 rfl (by decide) _ k _ rfl (World.ownsRow.alloc (ownsRow_setCell_other (own_drewN (P1.out _) _) (a := ⟨w.heap.size + 1, 3, none⟩) NE4.out (.int .i64 p.hi)) _) ⟨_, 0, none⟩ 1 1 [.int .i64 p.c] rfl rfl (cell1' _ _ _ _ (by simp)) (by simp [Value.oneCell']) (by unfold maxLen; omega) (by omega) (by have := HZ.out; simp; omega) ?_; intro v4 w2 ho4 hg4 hn4; have BG := below_of_grown (B := w.heap.size + 2) (by have := HZ.out; simp; omega) hg4 (fun g hg => (HO4.out.lt g hg).1); have BG2 := Below.trans (Below.alloc (Below.refl (w.heap.size + 2) _) (by have := HZ.out; simp; omega) _) BG; have D2 := Lib.hid (Below.trans ((below_drewN (D1.out _) _).setCell (p := ⟨w.heap.size + 1, 3, none⟩) (show w.heap.size ≤ w.heap.size + 1 by omega) (.int .i64 p.hi)) (BG2.mono (by omega))); have O5 := Lib.hid (World.ownsRow.kept (World.ownsRow.alloc (ownsRow_setCell_other (own_drewN (Q1.out _) _) (a := ⟨w.heap.size + 1, 3, none⟩) NE5.out (.int .i64 p.hi)) _) hg4 HAP.out); have AP2 := Lib.hid (near_apart (World.ownsRow.alloc (ownsRow_setCell_other (own_drewN (Q1.out _) _) (a := ⟨w.heap.size + 1, 3, none⟩) NE5.out (.int .i64 p.hi)) _) HAP.out hn4); have O4 := Lib.hid ho4; have B2 := Lib.hid (Blk.below ((blk_drewN (B1.out _) _).set_ 3 (.int .i64 p.hi)) BG2 (by omega)); have R2 := Lib.hid (Blk.below ((blk_drewN (R1.out _) _).far (show w.heap.size + 1 ≠ w.heap.size by omega) (o := 3) (.int .i64 p.hi)) BG2 (by omega)); have HZ2 := Lib.hid (show w.heap.size + 2 ≤ w2.heap.size by have h1 := BG2.size; have h2 := HZ.out; simp at h1; omega); clear c1 c2 c4 oc3 of3 ho4 hg4 hn4 BG BG2; have c2 := (HC.out _ D2.out).2.1)
            | (at_builtin; refine wpList_append_near rfl _ _ 41 rfl (w.heap.size + 2) 2 i0 (.int .i64 0) 1 8 Try.underlying41 HI.out.1 HI.out.2.1 HI.out.2.2.1 HI.out.2.2.2 rfl (by decide) _ k _ rfl (World.ownsRow.alloc O5.out _) ⟨_, 0, none⟩ 1 1 [.int .i64 p.s] rfl rfl (cell1' _ _ _ _ (by simp)) (by simp [Value.oneCell']) (by unfold maxLen; omega) (by omega) (by have := HZ2.out; simp; omega) ?_; intro v5 w3 ho5 hg5 hn5; have BH := below_of_grown (B := w.heap.size + 2) (by have := HZ2.out; simp; omega) hg5 (fun g hg => (HO5.out.lt g hg).1); have BH2 := Below.trans (Below.alloc (Below.refl (w.heap.size + 2) _) (by have := HZ2.out; simp; omega) _) BH; have D3 := Lib.hid (Below.trans D2.out (BH2.mono (by omega))); have O43 := Lib.hid (World.ownsRow.kept (World.ownsRow.alloc O4.out _) hg5 (ap_symm AP2.out)); have AP3 := Lib.hid (ap_symm (near_apart (World.ownsRow.alloc O4.out _) (ap_symm AP2.out) hn5)); have O53 := Lib.hid ho5; have B3 := Lib.hid (Blk.below B2.out BH2 (by omega)); have R3 := Lib.hid (Blk.below R2.out BH2 (by omega)); have HZ3 := Lib.hid (show w.heap.size + 2 ≤ w3.heap.size by have h1 := BH2.size; have h2 := HZ2.out; omega); clear c2 ho5 hg5 hn5 BH BH2))
          go_roundw
          case measure => simp [intOf]; omega
          case rel =>
            refine ⟨j + 1, k + 1, L ++ [p], by omega, by omega, by go_num, HLV.out, by rw [List.length_append, ← HK.out]; rfl, ?_, ?_, AP3.out, ?_, R3.out, D3.out, HZ3.out⟩
            · rw [show i64s ((L ++ [p]).map (·.c)) = i64s (L.map (·.c)) ++ [.int .i64 p.c] by simp [i64s]]
              exact O43.out
            · rw [show i64s ((L ++ [p]).map (·.s)) = i64s (L.map (·.s)) ++ [.int .i64 p.s] by simp [i64s]]
              exact O53.out
            · rw [HL.out.1, HL.out.2]
              exact B3.out
        · have hnil : L.map (·.lo) ≠ [] := by simp [hk0]
          have hnil2 : L.map (·.hi) ≠ [] := by simp [hk0]
          have j1 : ¬ (k : Int) = 0 := by
            have h0 : L.length ≠ 0 := fun e => hk0 (List.eq_nil_of_length_eq_zero e)
            have h1 := HK.out
            omega
          have j2 : ((k : Int) == 0) = false := by rw [beq_eq_false_iff_ne]; exact j1
          have j5 : decide ((k : Int) = 0) = false := decide_eq_false j1
          by_cases hlt : p.lo < lo
          · by_cases hgt : hi < p.hi
            · have hl2 : Ag.mn ((L ++ [p]).map (·.lo)) = p.lo := by rw [List.map_append, List.map_singleton, Ag.mn_snoc]; rw [if_neg hnil, hlo0, if_pos hlt]
              have hh2 : Ag.mx ((L ++ [p]).map (·.hi)) = p.hi := by rw [List.map_append, List.map_singleton, Ag.mx_snoc]; rw [if_neg hnil2, hhi0, if_pos hgt]
              have HL := Lib.hid (And.intro hl2 hh2)
              clear hl2 hh2 hnil hlo0 hhi0 hnil2 hk0
              have oc2 := HB.out.1.cell 2
              have of2 := HB.out.1.frozen 2
              go_wp2_with fail
              go_quiet (fail)
              go_wp2_with fail
              clear oc2 of2
              have B1 := Lib.hid (fun m => (show Blk (wr.drewN m) (w.heap.size + 1) 55 _ from HB.out.1).set_ 2 (.int .i64 p.lo))
              have R1 := Lib.hid (fun m => (show Blk (wr.drewN m) w.heap.size 55 _ from HB.out.2).far (show w.heap.size + 1 ≠ w.heap.size by omega) (o := 2) (.int .i64 p.lo))
              have D1 := Lib.hid (fun m => (below_drewN HD.out m).setCell (p := ⟨w.heap.size + 1, 2, none⟩) (show w.heap.size ≤ w.heap.size + 1 by omega) (.int .i64 p.lo))
              have P1 := Lib.hid (fun m => ownsRow_setCell_other (own_drewN HO4.out m) (a := ⟨w.heap.size + 1, 2, none⟩) NE4.out (.int .i64 p.lo))
              have Q1 := Lib.hid (fun m => ownsRow_setCell_other (own_drewN HO5.out m) (a := ⟨w.heap.size + 1, 2, none⟩) NE5.out (.int .i64 p.lo))
              clear c1 c2 c3 c4
              have c1 := fun m => (HC.out _ (D1.out m)).1
              have c2 := fun m => (HC.out _ (D1.out m)).2.1
              have c4 := fun m => (HC.out _ (D1.out m)).2.2.2
              have oc3 := fun m => (B1.out m).cell 3
              have of3 := fun m => (B1.out m).frozen 3
              go_quiet (fail)
              go_wp2_with (first
                | (at_builtin; refine wpList_append_near rfl _ _ 41 rfl (w.heap.size + 2) 2 i0 (.int .i64 0) 1 8 Try.underlying41 HI.out.1 HI.out.2.1 HI.out.2.2.1 HI.out.2.2.2 rfl (by decide) _ k _ rfl (World.ownsRow.alloc (ownsRow_setCell_other (own_drewN (P1.out _) _) (a := ⟨w.heap.size + 1, 3, none⟩) NE4.out (.int .i64 p.hi)) _) ⟨_, 0, none⟩ 1 1 [.int .i64 p.c] rfl rfl (cell1' _ _ _ _ (by simp)) (by simp [Value.oneCell']) (by unfold maxLen; omega) (by omega) (by have := HZ.out; simp; omega) ?_; intro v4 w2 ho4 hg4 hn4; have BG := below_of_grown (B := w.heap.size + 2) (by have := HZ.out; simp; omega) hg4 (fun g hg => (HO4.out.lt g hg).1); have BG2 := Below.trans (Below.alloc (Below.refl (w.heap.size + 2) _) (by have := HZ.out; simp; omega) _) BG; have D2 := Lib.hid (Below.trans ((below_drewN (D1.out _) _).setCell (p := ⟨w.heap.size + 1, 3, none⟩) (show w.heap.size ≤ w.heap.size + 1 by omega) (.int .i64 p.hi)) (BG2.mono (by omega))); have O5 := Lib.hid (World.ownsRow.kept (World.ownsRow.alloc (ownsRow_setCell_other (own_drewN (Q1.out _) _) (a := ⟨w.heap.size + 1, 3, none⟩) NE5.out (.int .i64 p.hi)) _) hg4 HAP.out); have AP2 := Lib.hid (near_apart (World.ownsRow.alloc (ownsRow_setCell_other (own_drewN (Q1.out _) _) (a := ⟨w.heap.size + 1, 3, none⟩) NE5.out (.int .i64 p.hi)) _) HAP.out hn4); have O4 := Lib.hid ho4; have B2 := Lib.hid (Blk.below ((blk_drewN (B1.out _) _).set_ 3 (.int .i64 p.hi)) BG2 (by omega)); have R2 := Lib.hid (Blk.below ((blk_drewN (R1.out _) _).far (show w.heap.size + 1 ≠ w.heap.size by omega) (o := 3) (.int .i64 p.hi)) BG2 (by omega)); have HZ2 := Lib.hid (show w.heap.size + 2 ≤ w2.heap.size by have h1 := BG2.size; have h2 := HZ.out; simp at h1; omega); clear c1 c2 c4 oc3 of3 ho4 hg4 hn4 BG BG2; have c2 := (HC.out _ D2.out).2.1)
                | (at_builtin; refine wpList_append_near rfl _ _ 41 rfl (w.heap.size + 2) 2 i0 (.int .i64 0) 1 8 Try.underlying41 HI.out.1 HI.out.2.1 HI.out.2.2.1 HI.out.2.2.2 rfl (by decide) _ k _ rfl (World.ownsRow.alloc O5.out _) ⟨_, 0, none⟩ 1 1 [.int .i64 p.s] rfl rfl (cell1' _ _ _ _ (by simp)) (by simp [Value.oneCell']) (by unfold maxLen; omega) (by omega) (by have := HZ2.out; simp; omega) ?_; intro v5 w3 ho5 hg5 hn5; have BH := below_of_grown (B := w.heap.size + 2) (by have := HZ2.out; simp; omega) hg5 (fun g hg => (HO5.out.lt g hg).1); have BH2 := Below.trans (Below.alloc (Below.refl (w.heap.size + 2) _) (by have := HZ2.out; simp; omega) _) BH; have D3 := Lib.hid (Below.trans D2.out (BH2.mono (by omega))); have O43 := Lib.hid (World.ownsRow.kept (World.ownsRow.alloc O4.out _) hg5 (ap_symm AP2.out)); have AP3 := Lib.hid (ap_symm (near_apart (World.ownsRow.alloc O4.out _) (ap_symm AP2.out) hn5)); have O53 := Lib.hid ho5; have B3 := Lib.hid (Blk.below B2.out BH2 (by omega)); have R3 := Lib.hid (Blk.below R2.out BH2 (by omega)); have HZ3 := Lib.hid (show w.heap.size + 2 ≤ w3.heap.size by have h1 := BH2.size; have h2 := HZ2.out; omega); clear c2 ho5 hg5 hn5 BH BH2))
              go_roundw
              case measure => simp [intOf]; omega
              case rel =>
                refine ⟨j + 1, k + 1, L ++ [p], by omega, by omega, by go_num, HLV.out, by rw [List.length_append, ← HK.out]; rfl, ?_, ?_, AP3.out, ?_, R3.out, D3.out, HZ3.out⟩
                · rw [show i64s ((L ++ [p]).map (·.c)) = i64s (L.map (·.c)) ++ [.int .i64 p.c] by simp [i64s]]
                  exact O43.out
                · rw [show i64s ((L ++ [p]).map (·.s)) = i64s (L.map (·.s)) ++ [.int .i64 p.s] by simp [i64s]]
                  exact O53.out
                · rw [HL.out.1, HL.out.2]
                  exact B3.out
            · have hl2 : Ag.mn ((L ++ [p]).map (·.lo)) = p.lo := by rw [List.map_append, List.map_singleton, Ag.mn_snoc]; rw [if_neg hnil, hlo0, if_pos hlt]
              have hh2 : Ag.mx ((L ++ [p]).map (·.hi)) = hi := by rw [List.map_append, List.map_singleton, Ag.mx_snoc]; rw [if_neg hnil2, hhi0, if_neg hgt]
              have HL := Lib.hid (And.intro hl2 hh2)
              clear hl2 hh2 hnil hlo0 hhi0 hnil2 hk0
              have oc2 := HB.out.1.cell 2
              have of2 := HB.out.1.frozen 2
              go_wp2_with fail
              go_quiet (fail)
              go_wp2_with fail
              clear oc2 of2
              have B1 := Lib.hid (fun m => (show Blk (wr.drewN m) (w.heap.size + 1) 55 _ from HB.out.1).set_ 2 (.int .i64 p.lo))
              have R1 := Lib.hid (fun m => (show Blk (wr.drewN m) w.heap.size 55 _ from HB.out.2).far (show w.heap.size + 1 ≠ w.heap.size by omega) (o := 2) (.int .i64 p.lo))
              have D1 := Lib.hid (fun m => (below_drewN HD.out m).setCell (p := ⟨w.heap.size + 1, 2, none⟩) (show w.heap.size ≤ w.heap.size + 1 by omega) (.int .i64 p.lo))
              have P1 := Lib.hid (fun m => ownsRow_setCell_other (own_drewN HO4.out m) (a := ⟨w.heap.size + 1, 2, none⟩) NE4.out (.int .i64 p.lo))
              have Q1 := Lib.hid (fun m => ownsRow_setCell_other (own_drewN HO5.out m) (a := ⟨w.heap.size + 1, 2, none⟩) NE5.out (.int .i64 p.lo))
              clear c1 c2 c3 c4
              have c1 := fun m => (HC.out _ (D1.out m)).1
              have c2 := fun m => (HC.out _ (D1.out m)).2.1
              have c4 := fun m => (HC.out _ (D1.out m)).2.2.2
              have oc3 := fun m => (B1.out m).cell 3
              have of3 := fun m => (B1.out m).frozen 3
              go_quiet (fail)
              go_wp2_with (first
                | (at_builtin; refine wpList_append_near rfl _ _ 41 rfl (w.heap.size + 2) 2 i0 (.int .i64 0) 1 8 Try.underlying41 HI.out.1 HI.out.2.1 HI.out.2.2.1 HI.out.2.2.2 rfl (by decide) _ k _ rfl (World.ownsRow.alloc (own_drewN (P1.out _) _) _) ⟨_, 0, none⟩ 1 1 [.int .i64 p.c] rfl rfl (cell1' _ _ _ _ (by simp)) (by simp [Value.oneCell']) (by unfold maxLen; omega) (by omega) (by have := HZ.out; simp; omega) ?_; intro v4 w2 ho4 hg4 hn4; have BG := below_of_grown (B := w.heap.size + 2) (by have := HZ.out; simp; omega) hg4 (fun g hg => (HO4.out.lt g hg).1); have BG2 := Below.trans (Below.alloc (Below.refl (w.heap.size + 2) _) (by have := HZ.out; simp; omega) _) BG; have D2 := Lib.hid (Below.trans (below_drewN (D1.out _) _) (BG2.mono (by omega))); have O5 := Lib.hid (World.ownsRow.kept (World.ownsRow.alloc (own_drewN (Q1.out _) _) _) hg4 HAP.out); have AP2 := Lib.hid (near_apart (World.ownsRow.alloc (own_drewN (Q1.out _) _) _) HAP.out hn4); have O4 := Lib.hid ho4; have B2 := Lib.hid (Blk.below (blk_drewN (B1.out _) _) BG2 (by omega)); have R2 := Lib.hid (Blk.below (blk_drewN (R1.out _) _) BG2 (by omega)); have HZ2 := Lib.hid (show w.heap.size + 2 ≤ w2.heap.size by have h1 := BG2.size; have h2 := HZ.out; simp at h1; omega); clear c1 c2 c4 oc3 of3 ho4 hg4 hn4 BG BG2; have c2 := (HC.out _ D2.out).2.1)
                | (at_builtin; refine wpList_append_near rfl _ _ 41 rfl (w.heap.size + 2) 2 i0 (.int .i64 0) 1 8 Try.underlying41 HI.out.1 HI.out.2.1 HI.out.2.2.1 HI.out.2.2.2 rfl (by decide) _ k _ rfl (World.ownsRow.alloc O5.out _) ⟨_, 0, none⟩ 1 1 [.int .i64 p.s] rfl rfl (cell1' _ _ _ _ (by simp)) (by simp [Value.oneCell']) (by unfold maxLen; omega) (by omega) (by have := HZ2.out; simp; omega) ?_; intro v5 w3 ho5 hg5 hn5; have BH := below_of_grown (B := w.heap.size + 2) (by have := HZ2.out; simp; omega) hg5 (fun g hg => (HO5.out.lt g hg).1); have BH2 := Below.trans (Below.alloc (Below.refl (w.heap.size + 2) _) (by have := HZ2.out; simp; omega) _) BH; have D3 := Lib.hid (Below.trans D2.out (BH2.mono (by omega))); have O43 := Lib.hid (World.ownsRow.kept (World.ownsRow.alloc O4.out _) hg5 (ap_symm AP2.out)); have AP3 := Lib.hid (ap_symm (near_apart (World.ownsRow.alloc O4.out _) (ap_symm AP2.out) hn5)); have O53 := Lib.hid ho5; have B3 := Lib.hid (Blk.below B2.out BH2 (by omega)); have R3 := Lib.hid (Blk.below R2.out BH2 (by omega)); have HZ3 := Lib.hid (show w.heap.size + 2 ≤ w3.heap.size by have h1 := BH2.size; have h2 := HZ2.out; omega); clear c2 ho5 hg5 hn5 BH BH2))
              go_roundw
              case measure => simp [intOf]; omega
              case rel =>
                refine ⟨j + 1, k + 1, L ++ [p], by omega, by omega, by go_num, HLV.out, by rw [List.length_append, ← HK.out]; rfl, ?_, ?_, AP3.out, ?_, R3.out, D3.out, HZ3.out⟩
                · rw [show i64s ((L ++ [p]).map (·.c)) = i64s (L.map (·.c)) ++ [.int .i64 p.c] by simp [i64s]]
                  exact O43.out
                · rw [show i64s ((L ++ [p]).map (·.s)) = i64s (L.map (·.s)) ++ [.int .i64 p.s] by simp [i64s]]
                  exact O53.out
                · rw [HL.out.1, HL.out.2]
                  exact B3.out
          · by_cases hgt : hi < p.hi
            · have hl2 : Ag.mn ((L ++ [p]).map (·.lo)) = lo := by rw [List.map_append, List.map_singleton, Ag.mn_snoc]; rw [if_neg hnil, hlo0, if_neg hlt]
              have hh2 : Ag.mx ((L ++ [p]).map (·.hi)) = p.hi := by rw [List.map_append, List.map_singleton, Ag.mx_snoc]; rw [if_neg hnil2, hhi0, if_pos hgt]
              have HL := Lib.hid (And.intro hl2 hh2)
              clear hl2 hh2 hnil hlo0 hhi0 hnil2 hk0
              have oc2 := HB.out.1.cell 2
              have of2 := HB.out.1.frozen 2
              go_wp2_with fail
              go_quiet (fail)
              go_wp2_with fail
              clear oc2 of2
              have B1 := Lib.hid (fun m => (show Blk (wr.drewN m) (w.heap.size + 1) 55 _ from HB.out.1))
              have R1 := Lib.hid (fun m => (show Blk (wr.drewN m) w.heap.size 55 _ from HB.out.2))
              have D1 := Lib.hid (fun m => (below_drewN HD.out m))
              have P1 := Lib.hid (fun m => own_drewN HO4.out m)
              have Q1 := Lib.hid (fun m => own_drewN HO5.out m)
              clear c1 c2 c3 c4
              have c1 := fun m => (HC.out _ (D1.out m)).1
              have c2 := fun m => (HC.out _ (D1.out m)).2.1
              have c4 := fun m => (HC.out _ (D1.out m)).2.2.2
              have oc3 := fun m => (B1.out m).cell 3
              have of3 := fun m => (B1.out m).frozen 3
              go_quiet (fail)
              go_wp2_with (first
                | (at_builtin; refine wpList_append_near rfl _ _ 41 rfl (w.heap.size + 2) 2 i0 (.int .i64 0) 1 8 Try.underlying41 HI.out.1 HI.out.2.1 HI.out.2.2.1 HI.out.2.2.2 rfl (by decide) _ k _ rfl (World.ownsRow.alloc (ownsRow_setCell_other (P1.out _) (a := ⟨w.heap.size + 1, 3, none⟩) NE4.out (.int .i64 p.hi)) _) ⟨_, 0, none⟩ 1 1 [.int .i64 p.c] rfl rfl (cell1' _ _ _ _ (by simp)) (by simp [Value.oneCell']) (by unfold maxLen; omega) (by omega) (by have := HZ.out; simp; omega) ?_; intro v4 w2 ho4 hg4 hn4; have BG := below_of_grown (B := w.heap.size + 2) (by have := HZ.out; simp; omega) hg4 (fun g hg => (HO4.out.lt g hg).1); have BG2 := Below.trans (Below.alloc (Below.refl (w.heap.size + 2) _) (by have := HZ.out; simp; omega) _) BG; have D2 := Lib.hid (Below.trans ((D1.out _).setCell (p := ⟨w.heap.size + 1, 3, none⟩) (show w.heap.size ≤ w.heap.size + 1 by omega) (.int .i64 p.hi)) (BG2.mono (by omega))); have O5 := Lib.hid (World.ownsRow.kept (World.ownsRow.alloc (ownsRow_setCell_other (Q1.out _) (a := ⟨w.heap.size + 1, 3, none⟩) NE5.out (.int .i64 p.hi)) _) hg4 HAP.out); have AP2 := Lib.hid (near_apart (World.ownsRow.alloc (ownsRow_setCell_other (Q1.out _) (a := ⟨w.heap.size + 1, 3, none⟩) NE5.out (.int .i64 p.hi)) _) HAP.out hn4); have O4 := Lib.hid ho4; have B2 := Lib.hid (Blk.below ((B1.out _).set_ 3 (.int .i64 p.hi)) BG2 (by omega)); have R2 := Lib.hid (Blk.below ((R1.out _).far (show w.heap.size + 1 ≠ w.heap.size by omega) (o := 3) (.int .i64 p.hi)) BG2 (by omega)); have HZ2 := Lib.hid (show w.heap.size + 2 ≤ w2.heap.size by have h1 := BG2.size; have h2 := HZ.out; simp at h1; omega); clear c1 c2 c4 oc3 of3 ho4 hg4 hn4 BG BG2; have c2 := (HC.out _ D2.out).2.1)
                | (at_builtin; refine wpList_append_near rfl _ _ 41 rfl (w.heap.size + 2) 2 i0 (.int .i64 0) 1 8 Try.underlying41 HI.out.1 HI.out.2.1 HI.out.2.2.1 HI.out.2.2.2 rfl (by decide) _ k _ rfl (World.ownsRow.alloc O5.out _) ⟨_, 0, none⟩ 1 1 [.int .i64 p.s] rfl rfl (cell1' _ _ _ _ (by simp)) (by simp [Value.oneCell']) (by unfold maxLen; omega) (by omega) (by have := HZ2.out; simp; omega) ?_; intro v5 w3 ho5 hg5 hn5; have BH := below_of_grown (B := w.heap.size + 2) (by have := HZ2.out; simp; omega) hg5 (fun g hg => (HO5.out.lt g hg).1); have BH2 := Below.trans (Below.alloc (Below.refl (w.heap.size + 2) _) (by have := HZ2.out; simp; omega) _) BH; have D3 := Lib.hid (Below.trans D2.out (BH2.mono (by omega))); have O43 := Lib.hid (World.ownsRow.kept (World.ownsRow.alloc O4.out _) hg5 (ap_symm AP2.out)); have AP3 := Lib.hid (ap_symm (near_apart (World.ownsRow.alloc O4.out _) (ap_symm AP2.out) hn5)); have O53 := Lib.hid ho5; have B3 := Lib.hid (Blk.below B2.out BH2 (by omega)); have R3 := Lib.hid (Blk.below R2.out BH2 (by omega)); have HZ3 := Lib.hid (show w.heap.size + 2 ≤ w3.heap.size by have h1 := BH2.size; have h2 := HZ2.out; omega); clear c2 ho5 hg5 hn5 BH BH2))
              go_roundw
              case measure => simp [intOf]; omega
              case rel =>
                refine ⟨j + 1, k + 1, L ++ [p], by omega, by omega, by go_num, HLV.out, by rw [List.length_append, ← HK.out]; rfl, ?_, ?_, AP3.out, ?_, R3.out, D3.out, HZ3.out⟩
                · rw [show i64s ((L ++ [p]).map (·.c)) = i64s (L.map (·.c)) ++ [.int .i64 p.c] by simp [i64s]]
                  exact O43.out
                · rw [show i64s ((L ++ [p]).map (·.s)) = i64s (L.map (·.s)) ++ [.int .i64 p.s] by simp [i64s]]
                  exact O53.out
                · rw [HL.out.1, HL.out.2]
                  exact B3.out
            · have hl2 : Ag.mn ((L ++ [p]).map (·.lo)) = lo := by rw [List.map_append, List.map_singleton, Ag.mn_snoc]; rw [if_neg hnil, hlo0, if_neg hlt]
              have hh2 : Ag.mx ((L ++ [p]).map (·.hi)) = hi := by rw [List.map_append, List.map_singleton, Ag.mx_snoc]; rw [if_neg hnil2, hhi0, if_neg hgt]
              have HL := Lib.hid (And.intro hl2 hh2)
              clear hl2 hh2 hnil hlo0 hhi0 hnil2 hk0
              have oc2 := HB.out.1.cell 2
              have of2 := HB.out.1.frozen 2
              go_wp2_with fail
              go_quiet (fail)
              go_wp2_with fail
              clear oc2 of2
              have B1 := Lib.hid (fun m => (show Blk (wr.drewN m) (w.heap.size + 1) 55 _ from HB.out.1))
              have R1 := Lib.hid (fun m => (show Blk (wr.drewN m) w.heap.size 55 _ from HB.out.2))
              have D1 := Lib.hid (fun m => (below_drewN HD.out m))
              have P1 := Lib.hid (fun m => own_drewN HO4.out m)
              have Q1 := Lib.hid (fun m => own_drewN HO5.out m)
              clear c1 c2 c3 c4
              have c1 := fun m => (HC.out _ (D1.out m)).1
              have c2 := fun m => (HC.out _ (D1.out m)).2.1
              have c4 := fun m => (HC.out _ (D1.out m)).2.2.2
              have oc3 := fun m => (B1.out m).cell 3
              have of3 := fun m => (B1.out m).frozen 3
              go_quiet (fail)
              go_wp2_with (first
                | (at_builtin; refine wpList_append_near rfl _ _ 41 rfl (w.heap.size + 2) 2 i0 (.int .i64 0) 1 8 Try.underlying41 HI.out.1 HI.out.2.1 HI.out.2.2.1 HI.out.2.2.2 rfl (by decide) _ k _ rfl (World.ownsRow.alloc (P1.out _) _) ⟨_, 0, none⟩ 1 1 [.int .i64 p.c] rfl rfl (cell1' _ _ _ _ (by simp)) (by simp [Value.oneCell']) (by unfold maxLen; omega) (by omega) (by have := HZ.out; simp; omega) ?_; intro v4 w2 ho4 hg4 hn4; have BG := below_of_grown (B := w.heap.size + 2) (by have := HZ.out; simp; omega) hg4 (fun g hg => (HO4.out.lt g hg).1); have BG2 := Below.trans (Below.alloc (Below.refl (w.heap.size + 2) _) (by have := HZ.out; simp; omega) _) BG; have D2 := Lib.hid (Below.trans (D1.out _) (BG2.mono (by omega))); have O5 := Lib.hid (World.ownsRow.kept (World.ownsRow.alloc (Q1.out _) _) hg4 HAP.out); have AP2 := Lib.hid (near_apart (World.ownsRow.alloc (Q1.out _) _) HAP.out hn4); have O4 := Lib.hid ho4; have B2 := Lib.hid (Blk.below (B1.out _) BG2 (by omega)); have R2 := Lib.hid (Blk.below (R1.out _) BG2 (by omega)); have HZ2 := Lib.hid (show w.heap.size + 2 ≤ w2.heap.size by have h1 := BG2.size; have h2 := HZ.out; simp at h1; omega); clear c1 c2 c4 oc3 of3 ho4 hg4 hn4 BG BG2; have c2 := (HC.out _ D2.out).2.1)
                | (at_builtin; refine wpList_append_near rfl _ _ 41 rfl (w.heap.size + 2) 2 i0 (.int .i64 0) 1 8 Try.underlying41 HI.out.1 HI.out.2.1 HI.out.2.2.1 HI.out.2.2.2 rfl (by decide) _ k _ rfl (World.ownsRow.alloc O5.out _) ⟨_, 0, none⟩ 1 1 [.int .i64 p.s] rfl rfl (cell1' _ _ _ _ (by simp)) (by simp [Value.oneCell']) (by unfold maxLen; omega) (by omega) (by have := HZ2.out; simp; omega) ?_; intro v5 w3 ho5 hg5 hn5; have BH := below_of_grown (B := w.heap.size + 2) (by have := HZ2.out; simp; omega) hg5 (fun g hg => (HO5.out.lt g hg).1); have BH2 := Below.trans (Below.alloc (Below.refl (w.heap.size + 2) _) (by have := HZ2.out; simp; omega) _) BH; have D3 := Lib.hid (Below.trans D2.out (BH2.mono (by omega))); have O43 := Lib.hid (World.ownsRow.kept (World.ownsRow.alloc O4.out _) hg5 (ap_symm AP2.out)); have AP3 := Lib.hid (ap_symm (near_apart (World.ownsRow.alloc O4.out _) (ap_symm AP2.out) hn5)); have O53 := Lib.hid ho5; have B3 := Lib.hid (Blk.below B2.out BH2 (by omega)); have R3 := Lib.hid (Blk.below R2.out BH2 (by omega)); have HZ3 := Lib.hid (show w.heap.size + 2 ≤ w3.heap.size by have h1 := BH2.size; have h2 := HZ2.out; omega); clear c2 ho5 hg5 hn5 BH BH2))
              go_roundw
              case measure => simp [intOf]; omega
              case rel =>
                refine ⟨j + 1, k + 1, L ++ [p], by omega, by omega, by go_num, HLV.out, by rw [List.length_append, ← HK.out]; rfl, ?_, ?_, AP3.out, ?_, R3.out, D3.out, HZ3.out⟩
                · rw [show i64s ((L ++ [p]).map (·.c)) = i64s (L.map (·.c)) ++ [.int .i64 p.c] by simp [i64s]]
                  exact O43.out
                · rw [show i64s ((L ++ [p]).map (·.s)) = i64s (L.map (·.s)) ++ [.int .i64 p.s] by simp [i64s]]
                  exact O53.out
                · rw [HL.out.1, HL.out.2]
                  exact B3.out
    · obtain rfl : n = j := by omega
      have hLl : Ag.live l = L := by rw [← hL, List.take_of_length_le (by rw [HP.out.1]; exact Nat.le_refl _)]
      have okL : ∀ p ∈ L, aggOk p := by
        intro p hp
        rw [← hLl] at hp
        exact HP.out.2.1 p (List.mem_filter.1 hp).1
      have I4 := Lib.hid (Ints.of_own HO4.out (by intro x hx; obtain ⟨p, hp, rfl⟩ := List.mem_map.1 hx; exact (okL p hp).1))
      have I5 := Lib.hid (Ints.of_own HO5.out (by intro x hx; obtain ⟨p, hp, rfl⟩ := List.mem_map.1 hx; exact (okL p hp).2.1))
      have HJ0 : Ag.join l = if fitB (L.map (·.c)).sum && fitB (L.map (·.s)).sum then some ⟨(L.map (·.c)).sum, (L.map (·.s)).sum, Ag.mn (L.map (·.lo)), Ag.mx (L.map (·.hi))⟩ else none := by
        unfold Ag.join
        rw [hLl]
        rfl
      obtain ⟨lo, hlo0⟩ : ∃ lo, Ag.mn (L.map (·.lo)) = lo := ⟨_, rfl⟩
      obtain ⟨hi, hhi0⟩ : ∃ hi, Ag.mx (L.map (·.hi)) = hi := ⟨_, rfl⟩
      rw [hlo0, hhi0] at hbo HJ0
      have HB := Lib.hid (And.intro hbo hbr)
      have HD := Lib.hid hbel
      clear hbo hbr hbel hlo0 hhi0 okL hLl hL
      cases h4 : fitB (L.map (·.c)).sum
      · rw [h4] at HJ0
        have e4 := sum_no h4
        have E4 := Lib.hid e4
        obtain ⟨C, hC⟩ : ∃ C, fitN (L.map (·.c)).sum = C := ⟨_, rfl⟩
        have F4 := Lib.hid hC
        clear e4 hC
        obtain ⟨Z, hZ⟩ : ∃ Z, sumE (L.map (·.s)).sum = Z := ⟨_, rfl⟩
        have E5 := Lib.hid hZ
        obtain ⟨S, hS⟩ : ∃ S, fitN (L.map (·.s)).sum = S := ⟨_, rfl⟩
        have F5 := Lib.hid hS
        replace HJ0 : Ag.join l = none := HJ0
        have HJ := Lib.hid HJ0
        clear HJ0 h4 hZ hS
        go_wp2_with (first
          | (go_at_call 51; (with_reducible refine (refSum_any k d4 wr.heap.size A4 _ _ I4.out (Nat.le_refl _) (by omega)).mono ?_); rintro e w1 ⟨rfl, b1⟩; rw [F4.out, E4.out]; have I51 := Lib.hid (I5.out.below b1 (Nat.le_refl _)); have BB1 := Lib.hid b1; clear b1)
          | (go_at_call 51; (with_reducible refine (refSum_any k d5 wr.heap.size A5 _ _ I51.out BB1.out.size (by omega)).mono ?_); rintro e w2 ⟨rfl, b2⟩; rw [F5.out, E5.out]; have BB2 := Lib.hid (below_next BB1.out b2); have KB := HB.out.1.below BB2.out HB.out.1.lt; have KR := HB.out.2.below BB2.out HB.out.2.lt; have kc0 := KB.cell 0; have kc1 := KB.cell 1; have kc2 := KB.cell 2; have kc3 := KB.cell 3; have kf0 := KB.frozen 0; have kf1 := KB.frozen 1; have gc0 := KR.cell 0; have gc1 := KR.cell 1; have gc2 := KR.cell 2; have gc3 := KR.cell 3; have gf0 := KR.frozen 0; have gf1 := KR.frozen 1; have gf2 := KR.frozen 2; have gf3 := KR.frozen 3; have KK := Lib.hid (And.intro KB KR); clear b2 KB KR))
        have HX := below_next HD.out BB2.out
        have hd := (((KK.out.2.set_ 0 (.int .i64 0)).set_ 1 (.int .i64 0)).set_ 2 (.int .i64 0)).set_ 3 (.int .i64 0)
        have e0 := hd.cell 0
        have e1 := hd.cell 1
        have e2 := hd.cell 2
        have e3 := hd.cell 3
        refine bodyPost_ret (v := .tuple #[aggV Ag.none', .int .i64 30]) ?_ rfl ?_
        · simp [results, Try.results44, go_sem, aggV, Ag.none', e0, e1, e2, e3]
        · show AggE w (Ag.join l) _ _
          rw [HJ.out]
          exact ⟨(((HX.setCell (Nat.le_refl _) _).setCell (Nat.le_refl _) _).setCell (Nat.le_refl _) _).setCell (Nat.le_refl _) _, rfl⟩
      · cases h5 : fitB (L.map (·.s)).sum
        · rw [h4, h5] at HJ0
          obtain ⟨e4, f4⟩ := sum_yes h4
          have E4 := Lib.hid e4
          obtain ⟨C, hC⟩ : ∃ C, (L.map (·.c)).sum = C := ⟨_, rfl⟩
          have F4 := Lib.hid (f4.trans hC)
          clear e4 f4
          have e5 := sum_no h5
          have E5 := Lib.hid e5
          obtain ⟨S, hS⟩ : ∃ S, fitN (L.map (·.s)).sum = S := ⟨_, rfl⟩
          have F5 := Lib.hid hS
          clear e5 hS
          replace HJ0 : Ag.join l = none := HJ0
          have HJ := Lib.hid HJ0
          clear HJ0 h4 h5 hC
          go_wp2_with (first
            | (go_at_call 51; (with_reducible refine (refSum_any k d4 wr.heap.size A4 _ _ I4.out (Nat.le_refl _) (by omega)).mono ?_); rintro e w1 ⟨rfl, b1⟩; rw [F4.out, E4.out]; have I51 := Lib.hid (I5.out.below b1 (Nat.le_refl _)); have BB1 := Lib.hid b1; clear b1)
            | (go_at_call 51; (with_reducible refine (refSum_any k d5 wr.heap.size A5 _ _ I51.out BB1.out.size (by omega)).mono ?_); rintro e w2 ⟨rfl, b2⟩; rw [F5.out, E5.out]; have BB2 := Lib.hid (below_next BB1.out b2); have KB := HB.out.1.below BB2.out HB.out.1.lt; have KR := HB.out.2.below BB2.out HB.out.2.lt; have kc0 := KB.cell 0; have kc1 := KB.cell 1; have kc2 := KB.cell 2; have kc3 := KB.cell 3; have kf0 := KB.frozen 0; have kf1 := KB.frozen 1; have gc0 := KR.cell 0; have gc1 := KR.cell 1; have gc2 := KR.cell 2; have gc3 := KR.cell 3; have gf0 := KR.frozen 0; have gf1 := KR.frozen 1; have gf2 := KR.frozen 2; have gf3 := KR.frozen 3; have KK := Lib.hid (And.intro KB KR); clear b2 KB KR))
          have HX := below_next HD.out BB2.out
          have hd := (((KK.out.2.set_ 0 (.int .i64 0)).set_ 1 (.int .i64 0)).set_ 2 (.int .i64 0)).set_ 3 (.int .i64 0)
          have e0 := hd.cell 0
          have e1 := hd.cell 1
          have e2 := hd.cell 2
          have e3 := hd.cell 3
          refine bodyPost_ret (v := .tuple #[aggV Ag.none', .int .i64 30]) ?_ rfl ?_
          · simp [results, Try.results44, go_sem, aggV, Ag.none', e0, e1, e2, e3]
          · show AggE w (Ag.join l) _ _
            rw [HJ.out]
            exact ⟨(((HX.setCell (Nat.le_refl _) _).setCell (Nat.le_refl _) _).setCell (Nat.le_refl _) _).setCell (Nat.le_refl _) _, rfl⟩
        · rw [h4, h5] at HJ0
          obtain ⟨e4, f4⟩ := sum_yes h4
          have E4 := Lib.hid e4
          obtain ⟨C, hC⟩ : ∃ C, (L.map (·.c)).sum = C := ⟨_, rfl⟩
          have F4 := Lib.hid (f4.trans hC)
          clear e4 f4
          obtain ⟨e5, f5⟩ := sum_yes h5
          have E5 := Lib.hid e5
          obtain ⟨S, hS⟩ : ∃ S, (L.map (·.s)).sum = S := ⟨_, rfl⟩
          have F5 := Lib.hid (f5.trans hS)
          clear e5 f5
          rw [hC, hS] at HJ0
          replace HJ0 : Ag.join l = some ⟨C, S, lo, hi⟩ := HJ0
          have HJ := Lib.hid HJ0
          clear HJ0 h4 h5 hC hS
          go_wp2_with (first
            | (go_at_call 51; (with_reducible refine (refSum_any k d4 wr.heap.size A4 _ _ I4.out (Nat.le_refl _) (by omega)).mono ?_); rintro e w1 ⟨rfl, b1⟩; rw [F4.out, E4.out]; have I51 := Lib.hid (I5.out.below b1 (Nat.le_refl _)); have BB1 := Lib.hid b1; clear b1)
            | (go_at_call 51; (with_reducible refine (refSum_any k d5 wr.heap.size A5 _ _ I51.out BB1.out.size (by omega)).mono ?_); rintro e w2 ⟨rfl, b2⟩; rw [F5.out, E5.out]; have BB2 := Lib.hid (below_next BB1.out b2); have KB := HB.out.1.below BB2.out HB.out.1.lt; have KR := HB.out.2.below BB2.out HB.out.2.lt; have kc0 := KB.cell 0; have kc1 := KB.cell 1; have kc2 := KB.cell 2; have kc3 := KB.cell 3; have kf0 := KB.frozen 0; have kf1 := KB.frozen 1; have gc0 := KR.cell 0; have gc1 := KR.cell 1; have gc2 := KR.cell 2; have gc3 := KR.cell 3; have gf0 := KR.frozen 0; have gf1 := KR.frozen 1; have gf2 := KR.frozen 2; have gf3 := KR.frozen 3; have KK := Lib.hid (And.intro KB KR); clear b2 KB KR))
          have HX := below_next HD.out BB2.out
          have hd := (((((KK.out.2.far (show w.heap.size + 1 ≠ w.heap.size by omega) (o := 0) (.int .i64 C)).far (show w.heap.size + 1 ≠ w.heap.size by omega) (o := 1) (.int .i64 S)).set_ 0 (.int .i64 C)).set_ 1 (.int .i64 S)).set_ 2 (.int .i64 lo)).set_ 3 (.int .i64 hi)
          have e0 := hd.cell 0
          have e1 := hd.cell 1
          have e2 := hd.cell 2
          have e3 := hd.cell 3
          refine bodyPost_ret (v := .tuple #[aggV ⟨C, S, lo, hi⟩, .int .i64 0]) ?_ rfl ?_
          · simp [results, Try.results44, go_sem, aggV, e0, e1, e2, e3]
          · show AggE w (Ag.join l) _ _
            rw [HJ.out]
            exact ⟨(((((HX.setCell (p := ⟨w.heap.size + 1, 0, none⟩) (show w.heap.size ≤ w.heap.size + 1 by omega) (.int .i64 C)).setCell (p := ⟨w.heap.size + 1, 1, none⟩) (show w.heap.size ≤ w.heap.size + 1 by omega) (.int .i64 S)).setCell (p := ⟨w.heap.size, 0, none⟩) (Nat.le_refl _) (.int .i64 C)).setCell (p := ⟨w.heap.size, 1, none⟩) (Nat.le_refl _) (.int .i64 S)).setCell (p := ⟨w.heap.size, 2, none⟩) (Nat.le_refl _) (.int .i64 lo)).setCell (p := ⟨w.heap.size, 3, none⟩) (Nat.le_refl _) (.int .i64 hi), rfl⟩
end Go.Proofs.Ytaahlepgmcgcfaa
