/- Layer 7's reference: bodies, put into frames one behind the other. -/
import Derived.Test.YtnokbnobnhkmgaaRefFrA
namespace Go.Proofs.Ytnokbnobnhkmgaa
open Go.ChangeShapes Go.WideShapes Go.ChangeAt Go.RowKit

set_option maxRecDepth 100000 in
set_option maxHeartbeats 4000000 in
theorem refJoin7_any (n c B : Nat) (A : Option Addr) (ls : List (List Nat)) (w : World) (h : RowsOf w B A n ls) (hB : B ≤ w.heap.size) (hn : n ≤ 1000) : Calls Try.prog 12 #[.slice A n c] w (PutB w (Fr.allB ls) (Fr.allE ls)) := by
  obtain ⟨i0, hi, hz0, hz1, hz2⟩ := info_parts Try.info5
  have HI := Lib.hid (And.intro hi (And.intro hz0 (And.intro hz1 hz2)))
  have HP := Lib.hid (And.intro h hB)
  clear hi hz0 hz1 hz2 h hB
  go_enter Try.func12, Try.ntmps12
  go_wp2_with fail
  go_loopw [4, 5, 6, 7] (fun r i _ _ wr => ∃ j : Nat, j ≤ n ∧ i = .int .i64 (j : Int) ∧ (∀ l ∈ ls.take j, Fr.err l = 0) ∧ wr.ownsRow w.heap.size 5 1 r (Fr.flat (ls.take j)).length (u8s (Fr.flat (ls.take j))) ∧ Below w.heap.size w wr) (fun _ i _ _ _ => n - (intOf i).toNat)
  case atStart => exact ⟨0, by omega, rfl, by simp, own_nil _ _ _ _, Below.refl _ _⟩
  case round =>
    obtain ⟨j, hj, rfl, hall, hown, hbel⟩ := hrel
    have hfl := Fr.flat_len hall
    rw [List.length_take, HP.out.1.1] at hfl
    have HO := Lib.hid (And.intro hown (And.intro hbel hall))
    clear hown hall
    by_cases hlt : j < n
    · obtain ⟨b, off, rfl, hb, hc⟩ := HP.out.1.2 (by omega)
      obtain ⟨a1, m1, k1, hc1, hm1, hb1⟩ := hc j hlt
      obtain ⟨l, hl⟩ : ∃ l, ls.getD j [] = l := ⟨_, rfl⟩
      rw [hl] at hb1
      have hz : b < w.heap.size := by have := HP.out.2; omega
      have d0 := (hbel.cell (p := ⟨b, _, none⟩) hz).trans hc1
      have hst := take_snoc' ls j (by rw [HP.out.1.1]; exact hlt)
      rw [hl] at hst
      have hby := hb1.below hbel HP.out.2
      have HS := Lib.hid (And.intro hst (And.intro hl hby))
      have i1 : (0 : Int) ≤ j := by omega
      have i2 : (j : Int) < n := by omega
      have hBr : B ≤ wr.heap.size := Nat.le_trans HP.out.2 hbel.size
      clear hc hc1 hst hl hbel hb1 hby
      go_wp2_with fail
      refine (refPut7_any m1 k1 B a1 l wr HS.out.2.2 hBr hm1).mono ?_
      rintro e w1 ⟨A1, c1, rfl, ho1, b1⟩
      have HB1 := Lib.hid (And.intro (below_next HO.out.2.1 b1) (own_below HO.out.1 b1))
      clear b1 d0
      by_cases hr : Fr.err l = 0
      · have hbo := Fr.bytes_yes hr
        have hel : 8 ≤ (Fr.enc l).length ∧ (Fr.enc l).length ≤ 8200 := by have := Fr.enc_len l; have := Fr.err_zero.1 hr; omega
        rw [hbo] at ho1 ⊢
        rw [hr]
        obtain ⟨g1, rfl, hc1⟩ := own_some ho1 (by omega)
        have hz1 : w.heap.size ≤ w1.heap.size := HB1.out.1.size
        have hl1 : (u8s (Fr.enc l)).length = (Fr.enc l).length * 1 := by rw [u8s_len]; omega
        have HR := Lib.hid hr
        clear ho1 hr hbo
        go_wp2_with (at_builtin; refine wpList_append_own _ rfl _ _ 24 rfl w.heap.size 5 i0 (.int .u8 0) 1 1 Try.underlying24 HI.out.1 HI.out.2.1 HI.out.2.2.1 HI.out.2.2.2 rfl (by decide) _ _ _ rfl HB1.out.2 ⟨g1, 0, none⟩ (Fr.enc l).length c1 (u8s (Fr.enc l)) rfl hl1 hc1 (u8s_one _) (by unfold maxLen; omega) (by omega) hz1 ?_; intro v' w2 hown hgrow _)
        have hb2 := grow_bel HB1.out.1 hgrow (fun g hg => (HB1.out.2.lt g hg).1)
        refine ⟨⟨j + 1, by omega, by go_num, ?_, ?_, hb2⟩, by simp [intOf]; omega⟩
        · intro x hx
          rw [HS.out.1] at hx
          rcases List.mem_append.1 hx with hx | hx
          · exact HO.out.2.2 x hx
          · simp at hx; subst hx; exact HR.out
        · rw [HS.out.1, Fr.flat_snoc, List.length_append, ← u8s_append]
          exact hown
      · have hbo := Fr.bytes_no hr
        have hE : Fr.allE ls = Fr.err l := by
          have := Fr.allE_first (ls := ls) (j := j) (by rw [HP.out.1.1]; exact hlt) HO.out.2.2 (by rw [HS.out.2.1]; exact hr)
          rw [this, HS.out.2.1]
        have hB2 : Fr.allB ls = [] := if_neg (by rw [hE]; exact hr)
        have HE := Lib.hid (And.intro hE hB2)
        have i3 : (Fr.err l != 0) = true := by rw [bne_iff_ne]; exact hr
        have i4 : (Fr.err l == 0) = false := by rw [beq_eq_false_iff_ne]; exact hr
        clear hE hB2 hbo ho1
        go_wp2_with fail
        go_ret2
        rw [HE.out.1, HE.out.2]
        exact ⟨none, 0, rfl, own_nil _ _ _ _, HB1.out.1⟩
    · obtain rfl : n = j := by omega
      obtain ⟨A1, c1, rfl⟩ := own_slice HO.out.1
      have hfull := HO.out.1
      have hall := HO.out.2.2
      rw [List.take_of_length_le (by rw [HP.out.1.1]; omega)] at hfull hall
      have hE : Fr.allE ls = 0 := (Fr.allE_zero ls).2 hall
      have hB2 : Fr.allB ls = Fr.flat ls := if_pos hE
      have HF := Lib.hid (And.intro hfull (And.intro hE hB2))
      have htk : ls.take n = ls := List.take_of_length_le (by rw [HP.out.1.1]; omega)
      have HT := Lib.hid htk
      clear hfull hbel hall hE hB2 htk
      go_wp2_with fail
      go_ret2
      rw [HF.out.2.1, HF.out.2.2, HT.out]
      exact ⟨A1, c1, rfl, HF.out.1, HO.out.2.1⟩
end Go.Proofs.Ytnokbnobnhkmgaa
