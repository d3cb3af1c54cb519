/- tidepooldocs: panes, aggregates, rows, replies as the reference has them. -/
import Derived.Test.YtognlgklepgemaaGreatRpF
namespace Go.Proofs.YtognlgklepgemaaGreat
open Go.ChangeShapes Go.WideShapes Go.ChangeAt Go.RowKit

set_option maxRecDepth 100000 in
theorem docPane_any (k : ByteArray) (s e : Int) (w : World) : Calls Tryz.prog 62 #[.agg #[.string k, .int .i64 s, .int .i64 e]] w fun e' w' => e' = .returned (.agg #[.string k, .int .i64 s, .int .i64 e]) ∧ Below w.heap.size w w' := by
  have hb : ∀ (o o' : Obj), Below w.heap.size w ((w.alloc o).alloc o') := fun o o' => ((Below.refl _ _).alloc (Nat.le_refl _) _).alloc (by simp) _
  have HB := Lib.hid hb
  clear hb
  go_enter Tryz.func62, Tryz.ntmps62
  go_wp2_with fail
  refine bodyPost_ret (v := .agg #[.string k, .int .i64 s, .int .i64 e]) ?_ rfl ⟨rfl, HB.out _ _⟩
  simp [results, Tryz.results62, go_sem]
set_option maxRecDepth 100000 in
theorem docAgg_any (a b c d : Int) (w : World) : Calls Tryz.prog 63 #[.agg #[.int .i64 a, .int .i64 b, .int .i64 c, .int .i64 d]] w fun e' w' => e' = .returned (.agg #[.int .i64 a, .int .i64 b, .int .i64 c, .int .i64 d]) ∧ Below w.heap.size w w' := by
  have hb : ∀ (o o' : Obj), Below w.heap.size w ((w.alloc o).alloc o') := fun o o' => ((Below.refl _ _).alloc (Nat.le_refl _) _).alloc (by simp) _
  have HB := Lib.hid hb
  clear hb
  go_enter Tryz.func63, Tryz.ntmps63
  go_wp2_with fail
  refine bodyPost_ret (v := .agg #[.int .i64 a, .int .i64 b, .int .i64 c, .int .i64 d]) ?_ rfl ⟨rfl, HB.out _ _⟩
  simp [results, Tryz.results63, go_sem]
theorem Tryz.info93 : (Tryz.prog.info? 93).map (fun i => (i.zero, i.size, i.bytes)) = some (some (.agg #[.string ⟨#[]⟩, .int .i64 0, .int .i64 0, .int .i64 0, .int .i64 0, .int .i64 0, .int .i64 0]), 7, 64) := by kernel_rfl
/-- A call's row of rows, in memory of its own. -/
def RowsP (t : TypeId) (w : World) (l : List Rw) (e : Ending) (w' : World) : Prop := ∃ (A : Option Addr) (c : Nat), e = .returned (.slice A l.length c) ∧ w'.ownsRow w.heap.size t 7 (.slice A l.length c) l.length (rcells l) ∧ Below w.heap.size w w'
theorem cells7 (w : World) (t : TypeId) (u0 u1 u2 u3 u4 u5 u6 : Value) : ∀ j z, ([u0, u1, u2, u3, u4, u5, u6] : List Value)[j]? = some z → (w.alloc (.cells #[u0, u1, u2, u3, u4, u5, u6] t)).cell? ((⟨w.heap.size, 0, none⟩ : Addr).add j) = some z := by
  intro j z h
  rw [add_at, Nat.zero_add, (Blk.new w t _).cell]
  simpa using h
set_option maxRecDepth 100000 in
set_option maxHeartbeats 2000000 in
theorem docRows_any (n c B : Nat) (A : Option Addr) (l : List Rw) (w : World) (h : RowsIn w B A n l) (hB : B ≤ w.heap.size) (hn : n ≤ 1000) : Calls Tryz.prog 27 #[.slice A n c] w (RowsP 93 w l) := by
  obtain ⟨i0, hi, hz0, hz1, hz2⟩ := info_parts Tryz.info93
  have HI := Lib.hid (And.intro hi (And.intro hz0 (And.intro hz1 hz2)))
  have HP := Lib.hid h
  clear hi hz0 hz1 hz2 h
  go_enter Tryz.func27, Tryz.ntmps27
  go_wp2_with fail
  go_loopw [3, 4] (fun r i wr => ∃ j : Nat, j ≤ n ∧ i = .int .i64 (j : Int) ∧ wr.ownsRow w.heap.size 93 7 r j (rcells (l.take j)) ∧ Below w.heap.size w wr) (fun _ i _ => n - (intOf i).toNat)
  case atStart => exact ⟨0, by omega, rfl, own_nil _ _ _ _, Below.refl _ _⟩
  case round =>
    obtain ⟨j, hj, rfl, hown, hbel⟩ := hrel
    have HO := Lib.hid (And.intro hown hbel)
    clear hown
    by_cases hlt : j < n
    · obtain ⟨b, off, rfl, hb, hc⟩ := HP.out.at_ hlt
      have hst := rsnoc_at l j (by rw [HP.out.1]; exact hlt)
      obtain ⟨x, hx⟩ : ∃ x, l.getD j default = x := ⟨_, rfl⟩
      have hcj := hc x hx
      rw [hx] at hst
      have HC : Hid (∀ W, Below w.heap.size w W → W.cell? ⟨b, off + j * 7, none⟩ = some (.string x.p.k) ∧ W.cell? ⟨b, off + j * 7 + 1, none⟩ = some (.int .i64 x.p.s) ∧ W.cell? ⟨b, off + j * 7 + 2, none⟩ = some (.int .i64 x.p.e) ∧ W.cell? ⟨b, off + j * 7 + 3, none⟩ = some (.int .i64 x.a.c) ∧ W.cell? ⟨b, off + j * 7 + 4, none⟩ = some (.int .i64 x.a.s) ∧ W.cell? ⟨b, off + j * 7 + 5, none⟩ = some (.int .i64 x.a.lo) ∧ W.cell? ⟨b, off + j * 7 + 6, none⟩ = some (.int .i64 x.a.hi)) := Lib.hid fun W hW => by
        have hz : b < w.heap.size := by omega
        obtain ⟨c0, c1, c2, c3, c4, c5, c6⟩ := hcj
        exact ⟨(hW.cell (p := ⟨b, _, none⟩) hz).trans c0, (hW.cell (p := ⟨b, _, none⟩) hz).trans c1, (hW.cell (p := ⟨b, _, none⟩) hz).trans c2, (hW.cell (p := ⟨b, _, none⟩) hz).trans c3, (hW.cell (p := ⟨b, _, none⟩) hz).trans c4, (hW.cell (p := ⟨b, _, none⟩) hz).trans c5, (hW.cell (p := ⟨b, _, none⟩) hz).trans c6⟩
      have HS := Lib.hid hst
      have D0 : Hid (Below w.heap.size w wr.drew) := Lib.hid hbel.drew
      have i1 : (0 : Int) ≤ j := by omega
      have i2 : (j : Int) < n := by omega
      have hone : ∀ u ∈ ([.string x.p.k, .int .i64 x.p.s, .int .i64 x.p.e, .int .i64 x.a.c, .int .i64 x.a.s, .int .i64 x.a.lo, .int .i64 x.a.hi] : List Value), u.oneCell' = true := by simp [Value.oneCell']
      have hlenD : j + 1 ≤ maxLen := by unfold maxLen; omega
      have hbytD : (j + 1) * 64 ≤ 140737488355328 := by omega
      have HN := Lib.hid (And.intro hone (And.intro hlenD hbytD))
      clear hc hcj hst hbel hx hone hlenD hbytD
      go_wp2_with fail
      go_region_held3 (fun W => W.cell? ⟨b, off + j * 7, none⟩ = some (.string x.p.k) ∧ W.cell? ⟨b, off + j * 7 + 1, none⟩ = some (.int .i64 x.p.s) ∧ W.cell? ⟨b, off + j * 7 + 2, none⟩ = some (.int .i64 x.p.e) ∧ W.cell? ⟨b, off + j * 7 + 3, none⟩ = some (.int .i64 x.a.c) ∧ W.cell? ⟨b, off + j * 7 + 4, none⟩ = some (.int .i64 x.a.s) ∧ W.cell? ⟨b, off + j * 7 + 5, none⟩ = some (.int .i64 x.a.lo) ∧ W.cell? ⟨b, off + j * 7 + 6, none⟩ = some (.int .i64 x.a.hi)) (first | with_reducible exact HC.out _ D0.out | with_reducible exact HC.out _ D1.out | with_reducible exact HC.out _ D2.out | with_reducible exact HC.out _ (D2.out.alloc D2.out.size _) | with_reducible exact HC.out _ D3.out | fail) (first
        | (refine step_append_here rfl (.tmp 11) (.tmp 25) 37 rfl w.heap.size 93 i0 (.agg #[.string ⟨#[]⟩, .int .i64 0, .int .i64 0, .int .i64 0, .int .i64 0, .int .i64 0, .int .i64 0]) 7 64 Tryz.underlying37 HI.out.1 HI.out.2.1 HI.out.2.2.1 HI.out.2.2.2 rfl (by decide) u3 j (rcells (l.take j)) rfl (HD.out.1.alloc _) ⟨w2.heap.size, 0, none⟩ 1 1 [.string x.p.k, .int .i64 x.p.s, .int .i64 x.p.e, .int .i64 x.a.c, .int .i64 x.a.s, .int .i64 x.a.lo, .int .i64 x.a.hi] rfl rfl (cells7 w2 _ _ _ _ _ _ _ _) HN.out.1 (by decide) HN.out.2.1 HN.out.2.2 HD.out.2 _ rfl ?_; intro g cap w3 hown1 hg1 _ _; have D3 := Lib.hid (grow_below D2.out hg1 (fun g hg => (HO.out.1.lt g hg).1)))
        | (go_at_call 62; (with_reducible refine (docPane_any _ _ _ wr.drew).mono ?_); rintro e w1 ⟨rfl, b1⟩; have D1 := Lib.hid (below_next D0.out b1); have O1 := Lib.hid (own_below (show wr.drew.ownsRow w.heap.size 93 7 u3 j (rcells (l.take j)) from HO.out.1) b1); clear b1)
        | (go_at_call 63; (with_reducible refine (docAgg_any _ _ _ _ w1).mono ?_); rintro e w2 ⟨rfl, b2⟩; have D2 := Lib.hid (below_next D1.out b2); have HD := Lib.hid (And.intro (own_below O1.out b2) (show w.heap.size ≤ (w2.alloc (.cells #[.string x.p.k, .int .i64 x.p.s, .int .i64 x.p.e, .int .i64 x.a.c, .int .i64 x.a.s, .int .i64 x.a.lo, .int .i64 x.a.hi] 93)).heap.size by have := D2.out.size; simp; omega)); clear b2))
      have ho2 : w3.ownsRow w.heap.size 93 7 (.slice (some ⟨g, 0, none⟩) (j + 1) cap) (j + 1) (rcells (l.take (j + 1))) := by
        rw [HS.out, rcells_snoc]
        exact hown1
      have HO2 := Lib.hid ho2
      clear ho2 hown1 hg1
      go_wp2_with fail
      exact ⟨⟨j + 1, by omega, by go_num, HO2.out, D3.out⟩, by simp [intOf]; omega⟩
    · obtain rfl : n = j := by omega
      obtain ⟨A1, c1, rfl⟩ := own_slice HO.out.1
      have hfull := HO.out.1
      rw [List.take_of_length_le (by rw [HP.out.1]; omega)] at hfull
      have HF := Lib.hid hfull
      clear hfull hbel
      go_wp2_with fail
      go_ret
      obtain rfl : n = l.length := HP.out.1.symm
      exact ⟨A1, c1, rfl, HF.out, HO.out.2⟩
theorem Tryz.info90 : (Tryz.prog.info? 90).map (fun i => (i.zero, i.size, i.bytes)) = some (some (.agg #[.string ⟨#[]⟩, .int .i64 0, .int .i64 0]), 3, 32) := by kernel_rfl
def PansP (t : TypeId) (w : World) (l : List Pn) (e : Ending) (w' : World) : Prop := ∃ (A : Option Addr) (c : Nat), e = .returned (.slice A l.length c) ∧ w'.ownsRow w.heap.size t 3 (.slice A l.length c) l.length (pncells l) ∧ Below w.heap.size w w'
theorem cells3' (w : World) (t : TypeId) (u0 u1 u2 : Value) : ∀ j z, ([u0, u1, u2] : List Value)[j]? = some z → (w.alloc (.cells #[u0, u1, u2] t)).cell? ((⟨w.heap.size, 0, none⟩ : Addr).add j) = some z := by
  intro j z h
  rw [add_at, Nat.zero_add, (Blk.new w t _).cell]
  simpa using h
set_option maxRecDepth 100000 in
set_option maxHeartbeats 2000000 in
theorem docPanes_any (n c B : Nat) (A : Option Addr) (l : List Pn) (w : World) (h : PansIn w B A n l) (hB : B ≤ w.heap.size) (hn : n ≤ 1000) : Calls Tryz.prog 28 #[.slice A n c] w (PansP 90 w l) := by
  obtain ⟨i0, hi, hz0, hz1, hz2⟩ := info_parts Tryz.info90
  have HI := Lib.hid (And.intro hi (And.intro hz0 (And.intro hz1 hz2)))
  have HP := Lib.hid h
  clear hi hz0 hz1 hz2 h
  go_enter Tryz.func28, Tryz.ntmps28
  go_wp2_with fail
  go_loopw [3, 4] (fun r i wr => ∃ j : Nat, j ≤ n ∧ i = .int .i64 (j : Int) ∧ wr.ownsRow w.heap.size 90 3 r j (pncells (l.take j)) ∧ Below w.heap.size w wr) (fun _ i _ => n - (intOf i).toNat)
  case atStart => exact ⟨0, by omega, rfl, own_nil _ _ _ _, Below.refl _ _⟩
  case round =>
    obtain ⟨j, hj, rfl, hown, hbel⟩ := hrel
    have HO := Lib.hid (And.intro hown hbel)
    clear hown
    by_cases hlt : j < n
    · obtain ⟨b, off, rfl, hb, x0, x1, x2⟩ := HP.out.pan hlt
      have hst := psnoc_at l j (by rw [HP.out.1]; exact hlt)
      obtain ⟨x, hx⟩ : ∃ x, l.getD j default = x := ⟨_, rfl⟩
      rw [hx] at hst x0 x1 x2
      have hz : b < w.heap.size := by omega
      have d0 := (hbel.cell (p := ⟨b, _, none⟩) hz).trans x0
      have d1 := (hbel.cell (p := ⟨b, _, none⟩) hz).trans x1
      have d2 := (hbel.cell (p := ⟨b, _, none⟩) hz).trans x2
      have HS := Lib.hid hst
      have i1 : (0 : Int) ≤ j := by omega
      have i2 : (j : Int) < n := by omega
      clear x0 x1 x2 hst hbel hx
      go_wp2_with fail
      clear d0 d1 d2
      refine (docPane_any _ _ _ wr).mono ?_
      rintro e w1 ⟨rfl, b1⟩
      have D1 := Lib.hid (below_next HO.out.2 b1)
      have O1 := Lib.hid ((own_below HO.out.1 b1).alloc (.cells #[.string x.k, .int .i64 x.s, .int .i64 x.e] 90))
      clear b1
      have z1 : w.heap.size ≤ w1.heap.size := D1.out.size
      go_wp2_with (at_builtin; refine wpList_append_own _ rfl _ _ 38 rfl w.heap.size 90 i0 (.agg #[.string ⟨#[]⟩, .int .i64 0, .int .i64 0]) 3 32 Tryz.underlying38 HI.out.1 HI.out.2.1 HI.out.2.2.1 HI.out.2.2.2 rfl (by decide) _ j _ rfl O1.out ⟨w1.heap.size, 0, none⟩ 1 1 [.string x.k, .int .i64 x.s, .int .i64 x.e] rfl rfl (cells3' w1 _ _ _ _) (by simp [Value.oneCell']) (by unfold maxLen; omega) (by omega) (by simp; omega) ?_; intro v' w2 hown hgrow _)
      have hb2 := grow_below D1.out hgrow (fun g hg => (O1.out.lt g hg).1)
      refine ⟨⟨j + 1, by omega, by go_num, ?_, hb2⟩, by simp [intOf]; omega⟩
      rw [HS.out, pncells_snoc]
      exact hown
    · obtain rfl : n = j := by omega
      obtain ⟨A1, c1, rfl⟩ := own_slice HO.out.1
      have hfull := HO.out.1
      rw [List.take_of_length_le (by rw [HP.out.1]; omega)] at hfull
      have HF := Lib.hid hfull
      clear hfull hbel
      go_wp2_with fail
      go_ret
      obtain rfl : n = l.length := HP.out.1.symm
      exact ⟨A1, c1, rfl, HF.out, HO.out.2⟩
end Go.Proofs.YtognlgklepgemaaGreat
