/- Layer 6, the program: operations in a row, packed. -/
import Derived.Test.YtbcdacfmhjgfiaaEvX
import Derived.Test.YtbcdacfmhjgfiaaSlcs
namespace Go.Proofs.Ytbcdacfmhjgfiaa
open Go.ChangeShapes Go.WideShapes Go.ChangeAt Go.RowKit

theorem Try.info29 : (Try.prog.info? 29).map (fun i => (i.zero, i.size, i.bytes)) = some (some (.slice none 0 0), 1, 24) := by kernel_rfl
theorem Ev.enc_lt {o : Evo} (h : Ev.right o = 0) : ∀ x ∈ Ev.enc o, x < 256 := by
  have hz := (Ev.right_zero h).1
  obtain ⟨k, s, t, v⟩ := o
  dsimp only at hz
  rcases hz with ⟨rfl, -, -⟩ | ⟨rfl, -, -⟩
  · rw [Ev.enc_one]
    intro x hx
    rcases List.mem_cons.1 hx with rfl | hx
    · decide
    · exact enc_lt_one s t v x hx
  · intro x hx
    have e : Ev.enc ⟨2, s, t, v⟩ = 2 :: Pk.be 8 (Ev.u64 t) := rfl
    rw [e] at hx
    rcases List.mem_cons.1 hx with rfl | hx
    · decide
    · exact Pk.be_lt 8 _ x hx
theorem Ev.flat_map (l : List Evo) : (l.map Ev.enc).flatten = Ev.flat l := by
  unfold Ev.flat
  rw [List.flatMap_def]
set_option maxRecDepth 100000 in
set_option maxHeartbeats 4000000 in
theorem pPutAll_any (n c B : Nat) (A : Option Addr) (l : List Evo) (w : World) (h : EvIn w B A n l) (hB : B ≤ w.heap.size) (hn : n ≤ 1000) : Calls Try.prog 10 #[.slice A n c] w (PutB w (Ev.allB l) (Ev.allE l)) := by
  obtain ⟨i0, hi, hz0, hz1, hz2⟩ := info_parts Try.info29
  have HI := Lib.hid (And.intro hi (And.intro hz0 (And.intro hz1 hz2)))
  have HP := Lib.hid (And.intro h hB)
  clear hi hz0 hz1 hz2 h hB
  go_enter Try.func10, Try.ntmps10
  go_wp2_with fail
  go_loopw [4, 11] (fun r i wr => ∃ (j : Nat) (V : List Value), j ≤ n ∧ i = .int .i64 (j : Int) ∧ (∀ o ∈ l.take j, Ev.right o = 0) ∧ wr.ownsRow w.heap.size 29 1 r j V ∧ Slcs wr w.heap.size V ((l.take j).map Ev.enc) ∧ Below w.heap.size w wr) (fun _ i _ => n - (intOf i).toNat)
  case atStart => exact ⟨0, [], by omega, rfl, by simp, own_nil _ _ _ _, Slcs.nil _ _, Below.refl _ _⟩
  case round =>
    obtain ⟨j, V, hj, rfl, hall, hown, hsl, hbel⟩ := hrel
    have HO := Lib.hid (And.intro hown (And.intro hbel (And.intro hall hsl)))
    clear hown hall hsl
    by_cases hlt : j < n
    · obtain ⟨b, off, rfl, hb, hc⟩ := HP.out.1.at_ hlt
      obtain ⟨o, ho⟩ : ∃ o, l.getD j default = o := ⟨_, rfl⟩
      obtain ⟨c0, c1, c2, c3⟩ := hc o ho
      have hz : b < w.heap.size := by have := HP.out.2; omega
      have d0 := (hbel.cell (p := ⟨b, _, none⟩) hz).trans c0
      have d1 := (hbel.cell (p := ⟨b, _, none⟩) hz).trans c1
      have d2 := (hbel.cell (p := ⟨b, _, none⟩) hz).trans c2
      have d3 := (hbel.cell (p := ⟨b, _, none⟩) hz).trans c3
      have hst := esnoc_at l j (by rw [HP.out.1.1]; exact hlt)
      rw [ho] at hst
      have HS := Lib.hid (And.intro hst ho)
      have i1 : (0 : Int) ≤ j := by omega
      have i2 : (j : Int) < n := by omega
      have O0 := Lib.hid (HO.out.1.alloc (.cells #[.int .u8 (o.k : Int), .string o.s, .int .i64 o.t, .int .i64 o.v] 26))
      have L0 := Lib.hid (HO.out.2.2.2.below ((Below.refl wr.heap.size wr).alloc (Nat.le_refl _) (.cells #[.int .u8 (o.k : Int), .string o.s, .int .i64 o.t, .int .i64 o.v] 26)))
      have B0 := Lib.hid (hbel.alloc hbel.size (.cells #[.int .u8 (o.k : Int), .string o.s, .int .i64 o.t, .int .i64 o.v] 26))
      clear hc c0 c1 c2 c3 hst ho hbel
      go_wp2_with fail
      clear d0 d1 d2 d3
      refine (pPut6_any o _).mono ?_
      rintro e w1 ⟨A1, c1, rfl, ho1, b1⟩
      have HB1 := Lib.hid (And.intro (below_next B0.out b1) (And.intro (own_below O0.out b1) (L0.out.below b1)))
      have ho1' := own_lower ho1 (b' := w.heap.size) B0.out.size
      clear b1 ho1
      by_cases hr : Ev.right o = 0
      · have hbo : Ev.bytes o = Ev.enc o := if_pos hr
        have hel := Ev.enc_len hr
        rw [hbo] at ho1' ⊢
        rw [hr]
        have HR := Lib.hid (And.intro hr ho1')
        have hz1 : w.heap.size ≤ w1.heap.size := HB1.out.1.size
        clear hr hbo ho1'
        go_wp2_with (at_builtin; refine wpList_append_own _ rfl _ _ 54 rfl w.heap.size 29 i0 (.slice none 0 0) 1 24 Try.underlying54 HI.out.1 HI.out.2.1 HI.out.2.2.1 HI.out.2.2.2 rfl (by decide) _ j _ rfl (HB1.out.2.1.alloc _) ⟨w1.heap.size, 0, none⟩ 1 1 [.slice A1 (Ev.enc o).length c1] rfl rfl (one_cell w1 _ _) (by simp [Value.oneCell']) (by unfold maxLen; omega) (by omega) (by simp; omega) ?_; intro v' w2 hown hgrow _)
        have hb2 := grow_below HB1.out.1 hgrow (fun g hg => (HB1.out.2.1.lt g hg).1)
        have hl2 := ((HB1.out.2.2.snoc HR.out.2 (by omega)).below ((Below.refl w1.heap.size w1).alloc (Nat.le_refl _) (.cells #[.slice A1 (Ev.enc o).length c1] 29))).grown (HB1.out.2.1.alloc _) (by decide) hgrow
        refine ⟨⟨j + 1, _, by omega, by go_num, ?_, hown, ?_, hb2⟩, by simp [intOf]; omega⟩
        · intro x hx
          rw [HS.out.1] at hx
          rcases List.mem_append.1 hx with hx | hx
          · exact HO.out.2.2.1 x hx
          · simp at hx; subst hx; exact HR.out.1
        · rw [HS.out.1, List.map_append]
          exact hl2
      · have hE : Ev.allE l = Ev.right o := by
          have := Ev.allE_first (l := l) (j := j) (by rw [HP.out.1.1]; exact hlt) HO.out.2.2.1 (by rw [HS.out.2]; exact hr)
          rw [this, HS.out.2]
        have hB : Ev.allB l = [] := if_neg (by rw [hE]; exact hr)
        have HE := Lib.hid (And.intro hE hB)
        have i3 : (Ev.right o != 0) = true := by rw [bne_iff_ne]; exact hr
        have i4 : (Ev.right o == 0) = false := by rw [beq_eq_false_iff_ne]; exact hr
        clear hE hB ho1'
        go_wp2_with fail
        go_ret2
        unfold PutB
        rw [HE.out.1, HE.out.2]
        exact ⟨none, 0, rfl, own_nil _ _ _ _, HB1.out.1⟩
    · obtain rfl : n = j := by omega
      obtain ⟨A1, c1, rfl⟩ := own_slice HO.out.1
      have htk : l.take n = l := List.take_of_length_le (by rw [HP.out.1.1]; omega)
      have hall := HO.out.2.2.1
      have hsl := HO.out.2.2.2
      rw [htk] at hall hsl
      have hE : Ev.allE l = 0 := (Ev.allE_zero l).2 hall
      have hB : Ev.allB l = Ev.flat l := if_pos hE
      have hfl := Ev.flat_len hall
      rw [HP.out.1.1] at hfl
      have hrw := hsl.rows HO.out.1 (by
        intro x hx y hy
        obtain ⟨o, ho, rfl⟩ := List.mem_map.1 hx
        exact Ev.enc_lt (hall o ho) y hy)
      have HF := Lib.hid (And.intro hE (And.intro hB (And.intro hrw (Ev.flat_map l))))
      have HB1 := Lib.hid hbel
      clear hE hB hrw hall hsl htk hbel
      go_wp2_with fail
      refine (join_as HF.out.2.2.2 rfl (by omega) HF.out.2.2.1 (Nat.le_refl _) (by omega)).mono ?_
      rintro e w2 ⟨A2, c2, rfl, ho2, b2⟩
      have HO2 := Lib.hid (And.intro (own_lower ho2 HB1.out.size) (below_next HB1.out b2))
      clear ho2 b2
      go_wp2_with fail
      go_ret2
      unfold PutB
      rw [HF.out.1, HF.out.2.1]
      exact ⟨A2, c2, rfl, HO2.out.1, HO2.out.2⟩
end Go.Proofs.Ytbcdacfmhjgfiaa
