/- Stage 5's statements: their helpers few and rows. -/
import Derived.Test.YtaahlepgmcgcfaaAgE
import Derived.Test.YtaahlepgmcgcfaaLaw5A
import Derived.Test.YtaahlepgmcgcfaaLaw5B
namespace Go.Proofs.Ytaahlepgmcgcfaa
open Go.ChangeShapes Go.WideShapes Go.ChangeAt Go.RowKit

def fewR (n : Nat) (l : List Rw) : Bool := decide ((∀ r ∈ l.take 21, r.p.k.size ≤ 100) ∧ n ≤ 20)
theorem fewR_len {n : Nat} {l : List Rw} (h : fewR n l = true) : n ≤ 20 := (of_decide_eq_true h).2
theorem rw_mem {l : List Rw} {j m : Nat} (hl : j < l.length) (hm : j < m) : l.getD j default ∈ l.take m := by
  rw [List.getD_eq_getElem?_getD, List.getElem?_eq_getElem hl]
  exact List.mem_take_iff_getElem.2 ⟨j, by omega, rfl⟩
set_option maxRecDepth 100000 in
set_option maxHeartbeats 1000000 in
theorem few_any (n c B : Nat) (A : Option Addr) (l : List Rw) (w : World) (h : RowsIn w B A n l) (hn : n ≤ 9223372036854775807) : Calls Try.prog 6 #[.slice A n c] w fun e w' => e = .returned (.bool (fewR n l)) ∧ w' = w := by
  have HP := Lib.hid h
  clear h
  go_enter Try.func6, Try.ntmps6
  go_wp2_with fail
  go_loopw [3] (fun i wr => ∃ j : Nat, j ≤ n ∧ j ≤ 21 ∧ i = .int .i64 (j : Int) ∧ (∀ r ∈ l.take j, r.p.k.size ≤ 100) ∧ wr = w) (fun i _ => n - (intOf i).toNat)
  case atStart => exact ⟨0, by omega, by omega, rfl, by simp, rfl⟩
  case round =>
    obtain ⟨j, hj, hj2, rfl, hall, rfl⟩ := hrel
    have HA := Lib.hid hall
    clear hall
    by_cases hlt : j < n
    · by_cases h21 : j < 21
      · obtain ⟨b, off, rfl, hb, hc⟩ := HP.out.at_ hlt
        have hl : j < l.length := by rw [HP.out.1]; exact hlt
        have hmem := rw_mem hl h21
        have htk := rsnoc_at l j hl
        obtain ⟨x, hx⟩ : ∃ x, l.getD j default = x := ⟨_, rfl⟩
        have h3 := (hc x hx).1
        rw [hx] at hmem htk
        have HM := Lib.hid (And.intro hmem htk)
        have i1 : (0 : Int) ≤ j := by omega
        have i2 : (j : Int) < n := by omega
        have i4 : (j : Int) < 21 := by omega
        clear hc hmem htk hx hl
        by_cases hs : x.p.k.size ≤ 100
        · have i3 : ¬ (100 : Int) < x.p.k.size := by omega
          go_wp2_with fail
          refine ⟨⟨j + 1, by omega, by omega, by go_num, ?_, trivial⟩, by simp [intOf]; omega⟩
          intro q hq
          rw [HM.out.2] at hq
          rcases List.mem_append.1 hq with h | h
          · exact HA.out q h
          · simp at h
            subst h
            exact hs
        · have i3 : (100 : Int) < x.p.k.size := by omega
          have hf : fewR n l = false := by
            unfold fewR
            rw [decide_eq_false_iff_not]
            intro h
            exact hs (h.1 x HM.out.1)
          have HF := Lib.hid hf
          clear hf
          go_wp2_with fail
          go_ret
          exact ⟨congrArg (fun b => Ending.returned (.bool b)) HF.out.symm, rfl⟩
      · have hf : fewR n l = false := by
          unfold fewR
          rw [decide_eq_false_iff_not]
          intro h
          have := h.2
          omega
        have i2 : (j : Int) < n := by omega
        have i4 : ¬ (j : Int) < 21 := by omega
        have i5 : ¬ (n : Int) ≤ 20 := by omega
        have HF := Lib.hid hf
        clear hf
        go_wp2_with fail
        go_ret
        exact ⟨congrArg (fun b => Ending.returned (.bool b)) HF.out.symm, rfl⟩
    · obtain rfl : n = j := by omega
      have hf : fewR n l = decide ((n : Int) ≤ 20) := by
        unfold fewR
        have h1 := HA.out
        rw [List.take_of_length_le (by rw [HP.out.1]; omega)] at h1
        rw [decide_eq_decide]
        constructor
        · intro h; omega
        · intro h; exact ⟨fun r hr => h1 r (List.mem_of_mem_take hr), by omega⟩
      have HF := Lib.hid hf
      clear hf
      go_wp2_with fail
      go_ret
      exact ⟨congrArg (fun b => Ending.returned (.bool b)) HF.out.symm, rfl⟩
theorem Try.info58 : (Try.prog.info? 58).map (fun i => (i.zero, i.size, i.bytes)) = some (some (.agg #[.string ⟨#[]⟩, .int .i64 0, .int .i64 0, .int .i64 0, .int .i64 0, .int .i64 0, .int .i64 0]), 7, 64) := by kernel_rfl
/-- A call's row of rows, in memory of its own. -/
def RowsP (t : TypeId) (w : World) (l : List Rw) (e : Ending) (w' : World) : Prop := ∃ (A : Option Addr) (c : Nat), e = .returned (.slice A l.length c) ∧ w'.ownsRow w.heap.size t 7 (.slice A l.length c) l.length (rcells l) ∧ Below w.heap.size w w'
theorem cells7 (w : World) (t : TypeId) (u0 u1 u2 u3 u4 u5 u6 : Value) : ∀ j z, ([u0, u1, u2, u3, u4, u5, u6] : List Value)[j]? = some z → (w.alloc (.cells #[u0, u1, u2, u3, u4, u5, u6] t)).cell? ((⟨w.heap.size, 0, none⟩ : Addr).add j) = some z := by
  intro j z h
  rw [add_at, Nat.zero_add, (Blk.new w t _).cell]
  simpa using h
set_option maxRecDepth 100000 in
set_option maxHeartbeats 2000000 in
theorem rows_any (n c B : Nat) (A : Option Addr) (l : List Rw) (w : World) (h : RowsIn w B A n l) (hB : B ≤ w.heap.size) (hn : n ≤ 1000) : Calls Try.prog 8 #[.slice A n c] w (RowsP 58 w l) := by
  obtain ⟨i0, hi, hz0, hz1, hz2⟩ := info_parts Try.info58
  have HI := Lib.hid (And.intro hi (And.intro hz0 (And.intro hz1 hz2)))
  have HP := Lib.hid h
  clear hi hz0 hz1 hz2 h
  go_enter Try.func8, Try.ntmps8
  go_wp2_with fail
  go_loopw [3, 4] (fun r i wr => ∃ j : Nat, j ≤ n ∧ i = .int .i64 (j : Int) ∧ wr.ownsRow w.heap.size 58 7 r j (rcells (l.take j)) ∧ Below w.heap.size w wr) (fun _ i _ => n - (intOf i).toNat)
  case atStart => exact ⟨0, by omega, rfl, own_nil _ _ _ _, Below.refl _ _⟩
  case round =>
    obtain ⟨j, hj, rfl, hown, hbel⟩ := hrel
    have HO := Lib.hid (And.intro hown hbel)
    clear hown
    by_cases hlt : j < n
    · obtain ⟨b, off, rfl, hb, hc⟩ := HP.out.at_ hlt
      have hst := rsnoc_at l j (by rw [HP.out.1]; exact hlt)
      obtain ⟨x, hx⟩ : ∃ x, l.getD j default = x := ⟨_, rfl⟩
      have hcj := hc x hx
      rw [hx] at hst
      have HC : Hid (∀ W, Below w.heap.size w W → W.cell? ⟨b, off + j * 7, none⟩ = some (.string x.p.k) ∧ W.cell? ⟨b, off + j * 7 + 1, none⟩ = some (.int .i64 x.p.s) ∧ W.cell? ⟨b, off + j * 7 + 2, none⟩ = some (.int .i64 x.p.e) ∧ W.cell? ⟨b, off + j * 7 + 3, none⟩ = some (.int .i64 x.a.c) ∧ W.cell? ⟨b, off + j * 7 + 4, none⟩ = some (.int .i64 x.a.s) ∧ W.cell? ⟨b, off + j * 7 + 5, none⟩ = some (.int .i64 x.a.lo) ∧ W.cell? ⟨b, off + j * 7 + 6, none⟩ = some (.int .i64 x.a.hi)) := Lib.hid fun W hW => by
        have hz : b < w.heap.size := by omega
        obtain ⟨c0, c1, c2, c3, c4, c5, c6⟩ := hcj
        exact ⟨(hW.cell (p := ⟨b, _, none⟩) hz).trans c0, (hW.cell (p := ⟨b, _, none⟩) hz).trans c1, (hW.cell (p := ⟨b, _, none⟩) hz).trans c2, (hW.cell (p := ⟨b, _, none⟩) hz).trans c3, (hW.cell (p := ⟨b, _, none⟩) hz).trans c4, (hW.cell (p := ⟨b, _, none⟩) hz).trans c5, (hW.cell (p := ⟨b, _, none⟩) hz).trans c6⟩
      have HS := Lib.hid hst
      have D0 : Hid (Below w.heap.size w wr.drew) := Lib.hid hbel.drew
      have i1 : (0 : Int) ≤ j := by omega
      have i2 : (j : Int) < n := by omega
      have hone : ∀ u ∈ ([.string x.p.k, .int .i64 x.p.s, .int .i64 x.p.e, .int .i64 x.a.c, .int .i64 x.a.s, .int .i64 x.a.lo, .int .i64 x.a.hi] : List Value), u.oneCell' = true := by simp [Value.oneCell']
      have hlenD : j + 1 ≤ maxLen := by unfold maxLen; omega
      have hbytD : (j + 1) * 64 ≤ 140737488355328 := by omega
      have HN := Lib.hid (And.intro hone (And.intro hlenD hbytD))
      clear hc hcj hst hbel hx hone hlenD hbytD
      go_wp2_with fail
      go_region_held3 (fun W => W.cell? ⟨b, off + j * 7, none⟩ = some (.string x.p.k) ∧ W.cell? ⟨b, off + j * 7 + 1, none⟩ = some (.int .i64 x.p.s) ∧ W.cell? ⟨b, off + j * 7 + 2, none⟩ = some (.int .i64 x.p.e) ∧ W.cell? ⟨b, off + j * 7 + 3, none⟩ = some (.int .i64 x.a.c) ∧ W.cell? ⟨b, off + j * 7 + 4, none⟩ = some (.int .i64 x.a.s) ∧ W.cell? ⟨b, off + j * 7 + 5, none⟩ = some (.int .i64 x.a.lo) ∧ W.cell? ⟨b, off + j * 7 + 6, none⟩ = some (.int .i64 x.a.hi)) (first | with_reducible exact HC.out _ D0.out | with_reducible exact HC.out _ D1.out | with_reducible exact HC.out _ D2.out | with_reducible exact HC.out _ (D2.out.alloc D2.out.size _) | with_reducible exact HC.out _ D3.out | fail) (first
        | (refine step_append_here rfl (.tmp 11) (.tmp 25) 25 rfl w.heap.size 58 i0 (.agg #[.string ⟨#[]⟩, .int .i64 0, .int .i64 0, .int .i64 0, .int .i64 0, .int .i64 0, .int .i64 0]) 7 64 Try.underlying25 HI.out.1 HI.out.2.1 HI.out.2.2.1 HI.out.2.2.2 rfl (by decide) u3 j (rcells (l.take j)) rfl (HD.out.1.alloc _) ⟨w2.heap.size, 0, none⟩ 1 1 [.string x.p.k, .int .i64 x.p.s, .int .i64 x.p.e, .int .i64 x.a.c, .int .i64 x.a.s, .int .i64 x.a.lo, .int .i64 x.a.hi] rfl rfl (cells7 w2 _ _ _ _ _ _ _ _) HN.out.1 (by decide) HN.out.2.1 HN.out.2.2 HD.out.2 _ rfl ?_; intro g cap w3 hown1 hg1 _ _; have D3 := Lib.hid (grow_below D2.out hg1 (fun g hg => (HO.out.1.lt g hg).1)))
        | (go_at_call 14; (with_reducible refine (pane_any _ _ _ wr.drew).mono ?_); rintro e w1 ⟨rfl, b1⟩; have D1 := Lib.hid (below_next D0.out b1); have O1 := Lib.hid (own_below (show wr.drew.ownsRow w.heap.size 58 7 u3 j (rcells (l.take j)) from HO.out.1) b1); clear b1)
        | (go_at_call 27; (with_reducible refine (ref_any _ _ _ _ w1).mono ?_); rintro e w2 ⟨rfl, b2⟩; have D2 := Lib.hid (below_next D1.out b2); have HD := Lib.hid (And.intro (own_below O1.out b2) (show w.heap.size ≤ (w2.alloc (.cells #[.string x.p.k, .int .i64 x.p.s, .int .i64 x.p.e, .int .i64 x.a.c, .int .i64 x.a.s, .int .i64 x.a.lo, .int .i64 x.a.hi] 58)).heap.size by have := D2.out.size; simp; omega)); clear b2))
      have ho2 : w3.ownsRow w.heap.size 58 7 (.slice (some ⟨g, 0, none⟩) (j + 1) cap) (j + 1) (rcells (l.take (j + 1))) := by
        rw [HS.out, rcells_snoc]
        exact hown1
      have HO2 := Lib.hid ho2
      clear ho2 hown1 hg1
      go_wp2_with fail
      exact ⟨⟨j + 1, by omega, by go_num, HO2.out, D3.out⟩, by simp [intOf]; omega⟩
    · obtain rfl : n = j := by omega
      obtain ⟨A1, c1, rfl⟩ := own_slice HO.out.1
      have hfull := HO.out.1
      rw [List.take_of_length_le (by rw [HP.out.1]; omega)] at hfull
      have HF := Lib.hid hfull
      clear hfull hbel
      go_wp2_with fail
      go_ret
      obtain rfl : n = l.length := HP.out.1.symm
      exact ⟨A1, c1, rfl, HF.out, HO.out.2⟩
end Go.Proofs.Ytaahlepgmcgcfaa
