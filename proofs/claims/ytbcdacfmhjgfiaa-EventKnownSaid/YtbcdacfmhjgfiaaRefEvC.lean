/- Layer 6's reference: operations in a row, packed. -/
import Derived.Test.YtbcdacfmhjgfiaaRefEvB
import Derived.Test.YtbcdacfmhjgfiaaEvIn
namespace Go.Proofs.Ytbcdacfmhjgfiaa
open Go.ChangeShapes Go.WideShapes Go.ChangeAt Go.RowKit

theorem grow_bel {w w1 w2 : World} {row : Option Nat} (h : Below w.heap.size w w1) (hg : w1.grownBy w2 row) (hr : ∀ g, row = some g → w.heap.size ≤ g) : Below w.heap.size w w2 :=
  h.trans ⟨hg.os, hg.tape, hg.output, hg.size, fun k hk => hg.block k (by have := h.size; omega) (fun e => by have := hr k e.symm; omega)⟩
set_option maxRecDepth 100000 in
set_option maxHeartbeats 4000000 in
theorem refPutAll6_any (n c B : Nat) (A : Option Addr) (l : List Evo) (w : World) (h : EvIn w B A n l) (hB : B ≤ w.heap.size) (hn : n ≤ 1000) : Calls Try.prog 9 #[.slice A n c] w (PutB w (Ev.allB l) (Ev.allE l)) := by
  obtain ⟨i0, hi, hz0, hz1, hz2⟩ := info_parts Try.info5
  have HI := Lib.hid (And.intro hi (And.intro hz0 (And.intro hz1 hz2)))
  have HP := Lib.hid (And.intro h hB)
  clear hi hz0 hz1 hz2 h hB
  go_enter Try.func9, Try.ntmps9
  go_wp2_with fail
  go_loopw [4, 5] (fun r i wr => ∃ j : Nat, j ≤ n ∧ i = .int .i64 (j : Int) ∧ (∀ o ∈ l.take j, Ev.right o = 0) ∧ wr.ownsRow w.heap.size 5 1 r (Ev.flat (l.take j)).length (u8s (Ev.flat (l.take j))) ∧ Below w.heap.size w wr) (fun _ i _ => n - (intOf i).toNat)
  case atStart => exact ⟨0, by omega, rfl, by simp, own_nil _ _ _ _, Below.refl _ _⟩
  case round =>
    obtain ⟨j, hj, rfl, hall, hown, hbel⟩ := hrel
    have hfl := Ev.flat_len hall
    rw [List.length_take, HP.out.1.1] at hfl
    have HO := Lib.hid (And.intro hown (And.intro hbel hall))
    clear hown hall
    by_cases hlt : j < n
    · obtain ⟨b, off, rfl, hb, hc⟩ := HP.out.1.at_ hlt
      obtain ⟨o, ho⟩ : ∃ o, l.getD j default = o := ⟨_, rfl⟩
      obtain ⟨c0, c1, c2, c3⟩ := hc o ho
      have hz : b < w.heap.size := by have := HP.out.2; omega
      have d0 := (hbel.cell (p := ⟨b, _, none⟩) hz).trans c0
      have d1 := (hbel.cell (p := ⟨b, _, none⟩) hz).trans c1
      have d2 := (hbel.cell (p := ⟨b, _, none⟩) hz).trans c2
      have d3 := (hbel.cell (p := ⟨b, _, none⟩) hz).trans c3
      have hst := esnoc_at l j (by rw [HP.out.1.1]; exact hlt)
      rw [ho] at hst
      have HS := Lib.hid (And.intro hst ho)
      have i1 : (0 : Int) ≤ j := by omega
      have i2 : (j : Int) < n := by omega
      clear hc c0 c1 c2 c3 hst ho hbel
      go_wp2_with fail
      refine (refPut6_any o wr).mono ?_
      rintro e w1 ⟨A1, c1, rfl, ho1, b1⟩
      have HB1 := Lib.hid (And.intro (below_next HO.out.2.1 b1) (own_below HO.out.1 b1))
      clear b1 d0 d1 d2 d3
      by_cases hr : Ev.right o = 0
      · have hbo : Ev.bytes o = Ev.enc o := if_pos hr
        have hel := Ev.enc_len hr
        rw [hbo] at ho1 ⊢
        rw [hr]
        obtain ⟨g1, rfl, hc1⟩ := own_some ho1 (by omega)
        have hz1 : w.heap.size ≤ w1.heap.size := HB1.out.1.size
        have hl1 : (u8s (Ev.enc o)).length = (Ev.enc o).length * 1 := by rw [u8s_len]; omega
        have HR := Lib.hid hr
        clear ho1 hr hbo
        go_wp2_with (at_builtin; refine wpList_append_own _ rfl _ _ 29 rfl w.heap.size 5 i0 (.int .u8 0) 1 1 Try.underlying29 HI.out.1 HI.out.2.1 HI.out.2.2.1 HI.out.2.2.2 rfl (by decide) _ _ _ rfl HB1.out.2 ⟨g1, 0, none⟩ (Ev.enc o).length c1 (u8s (Ev.enc o)) rfl hl1 hc1 (u8s_one _) (by unfold maxLen; omega) (by omega) hz1 ?_; intro v' w2 hown hgrow _)
        have hb2 := grow_bel HB1.out.1 hgrow (fun g hg => (HB1.out.2.lt g hg).1)
        refine ⟨⟨j + 1, by omega, by go_num, ?_, ?_, hb2⟩, by simp [intOf]; omega⟩
        · intro x hx
          rw [HS.out.1] at hx
          rcases List.mem_append.1 hx with hx | hx
          · exact HO.out.2.2 x hx
          · simp at hx; subst hx; exact HR.out
        · rw [HS.out.1, Ev.flat_snoc, List.length_append, ← u8s_append]
          exact hown
      · have hbo : Ev.bytes o = [] := if_neg hr
        have hE : Ev.allE l = Ev.right o := by
          have := Ev.allE_first (l := l) (j := j) (by rw [HP.out.1.1]; exact hlt) HO.out.2.2 (by rw [HS.out.2]; exact hr)
          rw [this, HS.out.2]
        have hB : Ev.allB l = [] := if_neg (by rw [hE]; exact hr)
        have HE := Lib.hid (And.intro hE hB)
        have i3 : (Ev.right o != 0) = true := by rw [bne_iff_ne]; exact hr
        have i4 : (Ev.right o == 0) = false := by rw [beq_eq_false_iff_ne]; exact hr
        clear hE hB hbo ho1
        go_wp2_with fail
        go_ret2
        first | rw [HE.out.1, HE.out.2] | skip
        exact ⟨none, 0, rfl, own_nil _ _ _ _, HB1.out.1⟩
    · obtain rfl : n = j := by omega
      obtain ⟨A1, c1, rfl⟩ := own_slice HO.out.1
      have hfull := HO.out.1
      have hall := HO.out.2.2
      rw [List.take_of_length_le (by rw [HP.out.1.1]; omega)] at hfull hall
      have hE : Ev.allE l = 0 := (Ev.allE_zero l).2 hall
      have hB : Ev.allB l = Ev.flat l := if_pos hE
      have HF := Lib.hid (And.intro hfull (And.intro hE hB))
      have htk : l.take n = l := List.take_of_length_le (by rw [HP.out.1.1]; omega)
      have HT := Lib.hid htk
      clear hfull hbel hall hE hB htk
      go_wp2_with fail
      go_ret2
      rw [HF.out.2.1, HF.out.2.2, HT.out]
      exact ⟨A1, c1, rfl, HF.out.1, HO.out.2.1⟩
end Go.Proofs.Ytbcdacfmhjgfiaa
