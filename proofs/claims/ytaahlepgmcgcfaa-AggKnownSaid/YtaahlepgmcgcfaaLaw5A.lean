/- Stage 5's statements: an aggregate, and a row of them, as the reference has them. -/
import Derived.Test.YtaahlepgmcgcfaaAggs
namespace Go.Proofs.Ytaahlepgmcgcfaa
open Go.ChangeShapes Go.WideShapes Go.ChangeAt Go.RowKit

set_option maxRecDepth 100000 in
set_option maxHeartbeats 1000000 in
theorem ref_any (a b c d : Int) (w : World) : Calls Try.prog 27 #[.agg #[.int .i64 a, .int .i64 b, .int .i64 c, .int .i64 d]] w fun e w' => e = .returned (.agg #[.int .i64 a, .int .i64 b, .int .i64 c, .int .i64 d]) ∧ Below w.heap.size w w' := by
  have hbe : ∀ o o', Below w.heap.size w ((w.alloc o).alloc o') := fun o o' => ((Below.refl _ _).alloc (Nat.le_refl _) _).alloc (by simp) _
  have HB := Lib.hid hbe
  clear hbe
  go_enter Try.func27, Try.ntmps27
  go_wp2_with fail
  refine bodyPost_ret (v := .agg #[.int .i64 a, .int .i64 b, .int .i64 c, .int .i64 d]) ?_ rfl ⟨rfl, ?_⟩
  · simp [results, Try.results27, go_sem]
  · exact HB.out _ _
theorem Try.info55 : (Try.prog.info? 55).map (fun i => (i.zero, i.size, i.bytes)) = some (some (.agg #[.int .i64 0, .int .i64 0, .int .i64 0, .int .i64 0]), 4, 32) := by kernel_rfl
/-- A call's row of aggregates, in memory of its own. -/
def AggsP (t : TypeId) (w : World) (l : List Ag.A) (e : Ending) (w' : World) : Prop := ∃ (A : Option Addr) (c : Nat), e = .returned (.slice A l.length c) ∧ w'.ownsRow w.heap.size t 4 (.slice A l.length c) l.length (acells l) ∧ Below w.heap.size w w'
set_option maxRecDepth 100000 in
set_option maxHeartbeats 1000000 in
theorem refs_any (n c B : Nat) (A : Option Addr) (l : List Ag.A) (w : World) (h : Aggs w B A n l) (hB : B ≤ w.heap.size) (hn : n ≤ 1000) : Calls Try.prog 43 #[.slice A n c] w (AggsP 55 w l) := by
  obtain ⟨i0, hi, hz0, hz1, hz2⟩ := info_parts Try.info55
  have HI := Lib.hid (And.intro hi (And.intro hz0 (And.intro hz1 hz2)))
  have HP := Lib.hid h
  clear hi hz0 hz1 hz2 h
  go_enter Try.func43, Try.ntmps43
  go_wp2_with fail
  go_loopw [3, 4] (fun r i wr => ∃ j : Nat, j ≤ n ∧ i = .int .i64 (j : Int) ∧ wr.ownsRow w.heap.size 55 4 r j (acells (l.take j)) ∧ Below w.heap.size w wr) (fun _ i _ => n - (intOf i).toNat)
  case atStart => exact ⟨0, by omega, rfl, own_nil _ _ _ _, Below.refl _ _⟩
  case round =>
    obtain ⟨j, hj, rfl, hown, hbel⟩ := hrel
    have HO := Lib.hid (And.intro hown hbel)
    clear hown
    by_cases hlt : j < n
    · obtain ⟨b, off, rfl, hb, hc⟩ := HP.out.2.2 (by omega)
      have hst := asnoc_at l j (by rw [HP.out.1]; exact hlt)
      have hcj := hc j hlt
      generalize l.getD j default = p at hcj hst
      have hz : b < w.heap.size := by omega
      have c1 := (hbel.cell (p := ⟨b, off + j * 4, none⟩) hz).trans hcj.1
      have c2 := (hbel.cell (p := ⟨b, off + j * 4 + 1, none⟩) hz).trans hcj.2.1
      have c3 := (hbel.cell (p := ⟨b, off + j * 4 + 2, none⟩) hz).trans hcj.2.2.1
      have c4 := (hbel.cell (p := ⟨b, off + j * 4 + 3, none⟩) hz).trans hcj.2.2.2
      have HS := Lib.hid hst
      have i1 : (0 : Int) ≤ j := by omega
      have i2 : (j : Int) < n := by omega
      clear hc hcj hst hbel
      go_wp2_with (first
        | (go_at_call 27; (with_reducible refine (ref_any _ _ _ _ _).mono ?_); rintro e w1 ⟨rfl, b1⟩; have HB1 := Lib.hid (And.intro (below_next HO.out.2 b1) (own_below HO.out.1 b1)); clear c1 c2 c3 c4)
        | (at_builtin; refine wpList_append_own _ rfl _ _ 76 rfl w.heap.size 55 i0 (.agg #[.int .i64 0, .int .i64 0, .int .i64 0, .int .i64 0]) 4 32 Try.underlying76 HI.out.1 HI.out.2.1 HI.out.2.2.1 HI.out.2.2.2 rfl (by decide) _ j _ rfl (HB1.out.2.alloc _) ⟨w1.heap.size, 0, none⟩ 1 1 (aggL p) rfl rfl (acells4 w1 _ _ _ _ _) (by simp [aggL, Value.oneCell']) (by unfold maxLen; omega) (by omega) (by have := HB1.out.1.size; simp; omega) ?_; intro v1 w2 ho1 hg1 _; have D1 := grow_below HB1.out.1 hg1 (fun g hg => (HB1.out.2.lt g hg).1)))
      refine ⟨⟨j + 1, by omega, by go_num, ?_, D1⟩, by simp [intOf]; omega⟩
      rw [HS.out, acells_snoc]
      exact ho1
    · obtain rfl : n = j := by omega
      obtain ⟨A1, c1, rfl⟩ := own_slice HO.out.1
      have hfull := HO.out.1
      rw [List.take_of_length_le (by rw [HP.out.1]; omega)] at hfull
      have HF := Lib.hid hfull
      clear hfull hbel
      go_wp2_with fail
      go_ret
      obtain rfl : n = l.length := HP.out.1.symm
      exact ⟨A1, c1, rfl, HF.out, HO.out.2⟩
end Go.Proofs.Ytaahlepgmcgcfaa
