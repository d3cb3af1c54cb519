/- Layer 7, the program: frames joined. -/
import Derived.Test.YtnokbnobnhkmgaaFrA
import Derived.Test.YtnokbnobnhkmgaaSlcs
namespace Go.Proofs.Ytnokbnobnhkmgaa
open Go.ChangeShapes Go.WideShapes Go.ChangeAt Go.RowKit

theorem Try.info24 : (Try.prog.info? 24).map (fun i => (i.zero, i.size, i.bytes)) = some (some (.slice none 0 0), 1, 24) := by kernel_rfl
theorem Slcs.tab {w w' : World} {B g : Nat} {V : List Value} {L : List (List Nat)} (h : Slcs w B V L) (hg : w.grownBy w' (some g)) (hb : g < B) : Slcs w' B V L :=
  ⟨h.1, fun i hi => by
    obtain ⟨a, m, c, h1, h2, h3⟩ := h.2 i hi
    exact ⟨a, m, c, h1, h2, own_tab h3 hg hb⟩⟩
theorem fenc_lt {l : List Nat} (h : Fr.err l = 0) (hl : ∀ x ∈ l, x < 256) : ∀ x ∈ Fr.enc l, x < 256 := by
  have h1 := Fr.err_zero.1 h
  intro x hx
  unfold Fr.enc at hx
  rcases List.mem_append.1 hx with hx | hx
  · rcases List.mem_append.1 hx with hx | hx
    · exact be4_lt _ (by omega) x hx
    · exact hl x hx
  · exact be4_lt _ (Crc.sum_lt _) x hx
set_option maxRecDepth 100000 in
set_option maxHeartbeats 4000000 in
theorem fJoin7_any (n c B : Nat) (A : Option Addr) (ls : List (List Nat)) (w : World) (h : RowsOf w B A n ls) (hB : B ≤ w.heap.size) (hn : n ≤ 1000) : Calls Try.prog 11 #[.slice A n c] w (PutB w (Fr.allB ls) (Fr.allE ls)) := by
  obtain ⟨i0, hi, hz0, hz1, hz2⟩ := info_parts Try.info24
  obtain ⟨cs, hz, hnew⟩ := blank_ex
  have HI := Lib.hid (And.intro hi (And.intro hz0 (And.intro hz1 hz2)))
  have hT0 : Tab (w.alloc (.cells cs 75)) w.heap.size := .inl (hnew w)
  have hB0 : Below w.heap.size w (w.alloc (.cells cs 75)) := (Below.refl _ _).alloc (Nat.le_refl _) _
  have HT0 := Lib.hid (And.intro hT0 hB0)
  have HP := Lib.hid (And.intro h (And.intro hB h.all))
  have hlen := h.1
  clear hi hz0 hz1 hz2 h hB hnew hT0 hB0
  go_enter Try.func11, Try.ntmps11
  go_wp2_with fail
  obtain ⟨W0, hW⟩ : ∃ W, w.alloc (.cells cs 75) = W := ⟨_, rfl⟩
  rw [hW] at HT0 ⊢
  clear hW hz
  go_loopw [5, 12] (fun r i wr => ∃ (j : Nat) (V : List Value), j ≤ n ∧ i = .int .i64 (j : Int) ∧ (∀ l ∈ ls.take j, Fr.err l = 0) ∧ wr.ownsRow (w.heap.size + 1) 24 1 r j V ∧ Slcs wr (w.heap.size + 1) V ((ls.take j).map Fr.enc) ∧ Below w.heap.size w wr ∧ Tab wr w.heap.size) (fun _ i _ => n - (intOf i).toNat)
  case atStart => exact ⟨0, [], by omega, rfl, by simp, own_nil _ _ _ _, Slcs.nil _ _, HT0.out.2, HT0.out.1⟩
  case round =>
    obtain ⟨j, V, hj, rfl, hall, hown, hsl, hbel, htab⟩ := hrel
    have HO := Lib.hid (And.intro hown (And.intro hbel (And.intro hall (And.intro hsl htab))))
    clear hown hall hsl htab
    by_cases hlt : j < n
    · obtain ⟨b, off, rfl, hb, hc⟩ := HP.out.1.2 (by omega)
      obtain ⟨a, m, c', hcell, hm, hby⟩ := hc j hlt
      have hz : b < w.heap.size := by have := HP.out.2.1; omega
      have d0 := (hbel.cell (p := ⟨b, off + j, none⟩) hz).trans hcell
      have hst := take_snoc' ls j (by omega)
      have hbl := hby.1
      have hb256 := hby.2.1
      have hby' := hby.below hbel HP.out.2.1
      obtain ⟨l, hl⟩ : ∃ l, ls.getD j [] = l := ⟨_, rfl⟩
      rw [hl] at hst hbl hb256 hby'
      have HS := Lib.hid (And.intro hst (And.intro hl (And.intro hb256 hby')))
      have i1 : (0 : Int) ≤ j := by omega
      have i2 : (j : Int) < n := by omega
      clear hc hcell hby hst hl hb256 hby' hbel
      go_wp2_with fail
      clear d0
      refine (fput7_any w.heap.size m c' B a l wr HO.out.2.2.2.2 HS.out.2.2.2 HP.out.2.1 hm).mono ?_
      rintro e w1 ⟨A1, c1, rfl, ho1, hT1, hg1⟩
      have hwr := HO.out.2.2.2.2.lt
      have HB1 := Lib.hid (And.intro (grow_bel HO.out.2.1 hg1 (fun k hk => by injection hk with hk; omega)) (And.intro (own_tab HO.out.1 hg1 (by omega)) (And.intro (HO.out.2.2.2.1.tab hg1 (by omega)) hT1)))
      have ho1' := own_lower ho1 (b' := w.heap.size + 1) (by omega)
      clear hg1 ho1 hT1
      by_cases hr : Fr.err l = 0
      · have hbo := Fr.bytes_yes hr
        have HEL : Hid ((Fr.enc l).length ≤ 1000000) := Lib.hid (by rw [Fr.enc_len]; have := Fr.err_zero.1 hr; omega)
        rw [hbo] at ho1' ⊢
        rw [hr]
        have HR := Lib.hid (And.intro hr ho1')
        have hz1 : w.heap.size + 1 ≤ w1.heap.size := HB1.out.2.2.2.lt
        clear hr hbo ho1'
        go_wp2_with (at_builtin; refine wpList_append_own _ rfl _ _ 22 rfl (w.heap.size + 1) 24 i0 (.slice none 0 0) 1 24 Try.underlying22 HI.out.1 HI.out.2.1 HI.out.2.2.1 HI.out.2.2.2 rfl (by decide) _ j _ rfl (HB1.out.2.1.alloc _) ⟨w1.heap.size, 0, none⟩ 1 1 [.slice A1 (Fr.enc l).length c1] rfl rfl (one_cell w1 _ _) (by simp [Value.oneCell']) (by unfold maxLen; omega) (by omega) (by simp; omega) ?_; intro v' w2 hown hgrow _)
        have hfar : ∀ g, Value.ownBlock _ = some g → w.heap.size + 1 ≤ g := fun g hg => (HB1.out.2.1.lt g hg).1
        have hb2 := grow_below HB1.out.1 hgrow (fun g hg => by have := hfar g hg; omega)
        have hl2 := ((HB1.out.2.2.1.snoc HR.out.2 HEL.out).below ((Below.refl w1.heap.size w1).alloc (Nat.le_refl _) (.cells #[.slice A1 (Fr.enc l).length c1] 24))).grown (HB1.out.2.1.alloc _) (by decide) hgrow
        have ht1 := HB1.out.2.2.2.below ((Below.refl w1.heap.size w1).alloc (Nat.le_refl _) (.cells #[.slice A1 (Fr.enc l).length c1] 24)) (by omega)
        have ht2 := ht1.keep (hgrow.block w.heap.size ht1.lt (fun e => by have := hfar _ e.symm; omega))
        refine ⟨⟨j + 1, _, by omega, by go_num, ?_, hown, ?_, hb2, ht2⟩, by simp [intOf]; omega⟩
        · intro x hx
          rw [HS.out.1] at hx
          rcases List.mem_append.1 hx with hx | hx
          · exact HO.out.2.2.1 x hx
          · simp at hx; subst hx; exact HR.out.1
        · rw [HS.out.1, List.map_append]
          exact hl2
      · have hE : Fr.allE ls = Fr.err l := by
          have := Fr.allE_first (ls := ls) (j := j) (by omega) HO.out.2.2.1 (by rw [HS.out.2.1]; exact hr)
          rw [this, HS.out.2.1]
        have hBB : Fr.allB ls = [] := if_neg (by rw [hE]; exact hr)
        have HE := Lib.hid (And.intro hE hBB)
        have i3 : (Fr.err l != 0) = true := by rw [bne_iff_ne]; exact hr
        have i4 : (Fr.err l == 0) = false := by rw [beq_eq_false_iff_ne]; exact hr
        clear hE hBB ho1'
        go_wp2_with fail
        go_ret2
        unfold PutB
        rw [HE.out.1, HE.out.2]
        exact ⟨none, 0, rfl, own_nil _ _ _ _, HB1.out.1⟩
    · obtain rfl : n = j := by omega
      obtain ⟨A1, c1, rfl⟩ := own_slice HO.out.1
      have htk : ls.take n = ls := List.take_of_length_le (by omega)
      have hall := HO.out.2.2.1
      have hsl := HO.out.2.2.2.1
      rw [htk] at hall hsl
      have hE : Fr.allE ls = 0 := (Fr.allE_zero ls).2 hall
      have hBB : Fr.allB ls = Fr.flat ls := if_pos hE
      have hfl := Fr.flat_len hall
      rw [hlen] at hfl
      have hrw := hsl.rows HO.out.1 (by
        intro x hx y hy
        obtain ⟨o, ho, rfl⟩ := List.mem_map.1 hx
        exact fenc_lt (hall o ho) (HP.out.2.2 o ho) y hy)
      have HF := Lib.hid (And.intro hE (And.intro hBB (And.intro hrw (Fr.flat_eq ls))))
      have HB1 := Lib.hid hbel
      clear hE hBB hrw hall hsl htk hbel
      go_wp2_with fail
      refine (join_as HF.out.2.2.2.symm rfl (by omega) HF.out.2.2.1 (Nat.le_refl _) (by omega)).mono ?_
      rintro e w2 ⟨A2, c2, rfl, ho2, b2⟩
      have HO2 := Lib.hid (And.intro (own_lower ho2 HB1.out.size) (below_next HB1.out b2))
      clear ho2 b2
      go_wp2_with fail
      go_ret2
      unfold PutB
      rw [HF.out.1, HF.out.2.1]
      exact ⟨A2, c2, rfl, HO2.out.1, HO2.out.2⟩
end Go.Proofs.Ytnokbnobnhkmgaa
