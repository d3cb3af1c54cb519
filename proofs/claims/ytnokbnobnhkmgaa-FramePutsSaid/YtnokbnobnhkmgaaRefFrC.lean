/- Layer 7's reference: what stands at a place. -/
import Derived.Test.YtnokbnobnhkmgaaRefFrA
import Derived.Test.YtnokbnobnhkmgaaFrT
import Derived.Deep.DeepCutAuto
namespace Go.Proofs.Ytnokbnobnhkmgaa
open Go.ChangeShapes Go.WideShapes Go.ChangeAt Go.RowKit

def TakeP (w : World) (r : List Nat × Int × Int) (e : Ending) (w' : World) : Prop := ∃ (A : Option Addr) (c : Nat), e = .returned (.tuple #[.slice A r.1.length c, .int .i64 r.2.1, .int .i64 r.2.2]) ∧ w'.ownsRow w.heap.size 5 1 (.slice A r.1.length c) r.1.length (u8s r.1) ∧ Below w.heap.size w w'
theorem cut_uv {P : Program} (t e : TypeId) (i : TypeInfo) (ht : P.underlying t = some (.slice e)) (hi : P.info? e = some i) (hz : i.size = 1) (A : Option Addr) (len cap l h : Nat) (u v : Int) (hu : u = l) (hv : v = h) (h1 : l ≤ h) (h2 : h ≤ cap) :
    ∀ W : World, (Instr.sliceAt t (.slice A len cap) (some (.int .i64 u)) (some (.int .i64 v)) none).run P W = .ok (.slice (if cap = l then A else A.map (·.add l)) (h - l) (cap - l)) W := by
  subst hu
  intro W
  exact run_cut_lh t e i ht hi hz A len cap l h v hv h1 h2 W
set_option maxRecDepth 100000 in
set_option maxHeartbeats 4000000 in
theorem refTake7_any (n c B : Nat) (A : Option Addr) (b : List Nat) (at_ : Int) (w : World) (hb : Bytes w B A n b) (hB : B ≤ w.heap.size) (hn : n ≤ 1000000) (hc : n ≤ c) (hat : -9223372036854775808 ≤ at_ ∧ at_ ≤ 9223372036854775807) : Calls Try.prog 19 #[.slice A n c, .int .i64 at_] w (TakeP w (Fr.tk b at_)) := by
  have hlen := hb.1
  by_cases h0 : at_ < 0
  · rw [Fr.tk_more (.inl h0)]
    clear hb
    go_enter Try.func19, Try.ntmps19
    go_wp2_with fail
    go_ret3
    exact ⟨none, 0, rfl, own_nil _ _ _ _, Below.refl _ _⟩
  · obtain ⟨a, rfl⟩ := Int.eq_ofNat_of_zero_le (by omega : 0 ≤ at_)
    by_cases h4 : n < a + 4
    · rw [Fr.tk_more (.inr (by omega))]
      have x0 : ¬ (a : Int) < 0 := by omega
      clear hb
      by_cases hw : a + 4 ≤ 9223372036854775807
      · have w4 : IntKind.i64.wrap ((a : Int) + 4) = (a : Int) + 4 := IntWalk.i64_in _ (by omega)
        have x1 : (n : Int) < (a : Int) + 4 := by omega
        go_enter Try.func19, Try.ntmps19
        go_wp2_with fail
        go_ret3
        exact ⟨none, 0, rfl, own_nil _ _ _ _, Below.refl _ _⟩
      · have w4 : IntKind.i64.wrap ((a : Int) + 4) = (a : Int) + 4 - 18446744073709551616 := by
          simp only [IntKind.wrap, IntKind.bits, IntKind.signed]
          simp
          omega
        have x1 : ¬ (n : Int) < (a : Int) + 4 - 18446744073709551616 := by omega
        have x2 : (n : Int) < (a : Int) := by omega
        go_enter Try.func19, Try.ntmps19
        go_wp2_with fail
        go_ret3
        exact ⟨none, 0, rfl, own_nil _ _ _ _, Below.refl _ _⟩
    · obtain ⟨i0, hi, hz0, hz1, hz2⟩ := info_parts Try.info5
      have HI := Lib.hid (And.intro hi (And.intro hz0 (And.intro hz1 hz2)))
      obtain ⟨bk, off, rfl, hbk, hcl⟩ := hb.2.2 (by omega)
      have h256 : ∀ x ∈ b, x < 256 := hb.2.1
      have hd256 : ∀ x ∈ b.drop a, x < 256 := fun x hx => h256 x (List.mem_of_mem_drop hx)
      have hdl : (b.drop a).length = n - a := by rw [List.length_drop, hlen]
      have hcell : ∀ k, a + k < n → w.cell? ⟨bk, off + (a + k), none⟩ = some (.int .u8 (((b.drop a).getD k 0 : Nat) : Int)) := fun k hk => by
        rw [hcl (a + k) hk]
        congr 2
        rw [List.getD_eq_getElem?_getD, List.getD_eq_getElem?_getD, List.getElem?_drop]
      have HB := Lib.hid (And.intro hb (And.intro hB (And.intro hcell (And.intro hbk (And.intro hd256 hdl)))))
      have x0 : ¬ (a : Int) < 0 := by omega
      have w4 : IntKind.i64.wrap ((a : Int) + 4) = (a : Int) + 4 := IntWalk.i64_in _ (by omega)
      have x1 : ¬ (n : Int) < (a : Int) + 4 := by omega
      have x2 : ¬ (n : Int) < (a : Int) := by omega
      have x3 : (0 : Int) ≤ (a : Int) := by omega
      clear hi hz1 hz2 hz0 hb hcl hcell h256 hd256 hdl hB hbk
      go_enter Try.func19, Try.ntmps19
      go_wp2_with fail
      go_loopw [7, 8] (fun v i wr => ∃ j : Nat, j ≤ 4 ∧ i = .int .i64 (j : Int) ∧ v = .int .i64 ((Pk.num ((b.drop a).take j) : Nat) : Int) ∧ wr = w) (fun _ i _ => 4 - (intOf i).toNat)
      case atStart => exact ⟨0, by omega, rfl, rfl, rfl⟩
      case round =>
        obtain ⟨j, hj, rfl, rfl, rfl⟩ := hrel
        by_cases hlt : j < 4
        · have hc1 := HB.out.2.2.1 j (by omega)
          have hst := Fr.num_step' (b.drop a) j (by rw [HB.out.2.2.2.2.2]; omega)
          have hnl := Fr.num_lt' HB.out.2.2.2.2.1 (j + 1) (by omega)
          have hnl0 := Fr.num_lt' HB.out.2.2.2.2.1 j (by omega)
          have hx256 : (b.drop a).getD j 0 < 256 := by
            rw [List.getD_eq_getElem?_getD, List.getElem?_eq_getElem (by rw [HB.out.2.2.2.2.2]; omega)]
            exact HB.out.2.2.2.2.1 _ (List.getElem_mem _)
          rw [hst] at hnl
          obtain ⟨x, hx⟩ : ∃ x, (b.drop a).getD j 0 = x := ⟨_, rfl⟩
          obtain ⟨y, hy⟩ : ∃ y, Pk.num ((b.drop a).take j) = y := ⟨_, rfl⟩
          rw [hx] at hc1 hst hnl hx256
          rw [hy] at hst hnl hnl0 ⊢
          have HS := Lib.hid hst
          have y1 : (j : Int) < 4 := by omega
          have y2 : (0 : Int) ≤ (a : Int) + j := by omega
          have y3 : (a : Int) + j < n := by omega
          have y4 : IntKind.i64.wrap ((a : Int) + j) = (a : Int) + j := IntWalk.i64_in _ (by omega)
          have y5 : IntKind.i64.wrap ((y : Int) * 256) = (y : Int) * 256 := IntWalk.i64_in _ (by omega)
          have y6 : IntKind.i64.wrap ((y : Int) * 256 + x) = (y : Int) * 256 + x := IntWalk.i64_in _ (by omega)
          have y7 : IntKind.i64.wrap (x : Int) = x := IntWalk.i64_in _ (by omega)
          have y8 : ((a : Int) + j).toNat = a + j := by omega
          clear hst hx hy
          go_wp2_with fail
          refine ⟨⟨j + 1, by omega, by go_num, ?_, trivial⟩, by simp [intOf]; omega⟩
          rw [HS.out]
          exact int_eq (by omega)
        · obtain rfl : j = 4 := by omega
          have hm := Fr.num_4 HB.out.2.2.2.2.1
          obtain ⟨m, hm0⟩ : ∃ m, Pk.num ((b.drop a).take 4) = m := ⟨_, rfl⟩
          rw [hm0] at hm ⊢
          have htk : Fr.tkN b a = if 8192 < m then ([], a, 71) else if b.length < a + 8 + m then ([], a, 70) else if (b.drop a).take (8 + m) = Fr.enc (((b.drop a).drop 4).take m) then (((b.drop a).drop 4).take m, a + 8 + m, 0) else ([], a + 8 + m, 72) := by
            unfold Fr.tkN
            rw [hm0]
          rw [hlen] at htk
          have HTK := Lib.hid htk
          have w8 : IntKind.i64.wrap ((a : Int) + 8) = (a : Int) + 8 := IntWalk.i64_in _ (by omega)
          have w9 : IntKind.i64.wrap ((a : Int) + 8 + m) = (a : Int) + 8 + m := IntWalk.i64_in _ (by omega)
          have w5 : IntKind.i64.wrap ((a : Int) + 4 + m) = (a : Int) + 4 + m := IntWalk.i64_in _ (by omega)
          clear htk hm0
          by_cases h81 : 8192 < m
          · have z1 : (8192 : Int) < m := by omega
            have e := Fr.tk_at (b := b) (a := a) (by omega) (by rw [HTK.out, if_pos h81])
            have HE := Lib.hid e
            clear e
            go_wp2_with fail
            go_ret3
            rw [HE.out]
            exact ⟨none, 0, rfl, own_nil _ _ _ _, Below.refl _ _⟩
          · have z1 : ¬ (8192 : Int) < m := by omega
            by_cases h82 : n < a + 8 + m
            · have z2 : (n : Int) < (a : Int) + 8 + m := by omega
              have e := Fr.tk_at (b := b) (a := a) (by omega) (by rw [HTK.out, if_neg h81, if_pos h82])
              have HE := Lib.hid e
              clear e
              go_wp2_with fail
              go_ret3
              rw [HE.out]
              exact ⟨none, 0, rfl, own_nil _ _ _ _, Below.refl _ _⟩
            · have z2 : ¬ (n : Int) < (a : Int) + 8 + m := by omega
              obtain ⟨body, hbody⟩ : ∃ l, ((b.drop a).drop 4).take m = l := ⟨_, rfl⟩
              have hbl : body.length = m := by rw [← hbody, List.length_take, List.length_drop, HB.out.2.2.2.2.2]; omega
              obtain ⟨ad2, c2, r2, hb2⟩ : ∃ ad2 c2, (∀ W, (Instr.sliceAt 24 (.slice (some ⟨bk, off, none⟩) n c) (some (.int .i64 ((a : Int) + 4))) (some (.int .i64 ((a : Int) + 4 + m))) none).run Try.prog W = .ok (.slice (some ad2) m c2) W) ∧ Bytes wr B (some ad2) m body := by
                have r := cut_uv (P := Try.prog) 24 5 i0 Try.underlying24 HI.out.1 HI.out.2.2.1 (some ⟨bk, off, none⟩) n c (a + 4) (a + 4 + m) ((a : Int) + 4) ((a : Int) + 4 + m) (by omega) (by omega) (by omega) (by omega)
                have hby := (HB.out.1.head (j := a + 4 + m) (by omega)).cut (i := a + 4) (c := c) (by omega) (by omega)
                have hl : (b.take (a + 4 + m)).drop (a + 4) = body := by
                  rw [← hbody, List.drop_drop, List.drop_take]
                  congr 1
                  omega
                rw [hl, show a + 4 + m - (a + 4) = m by omega] at hby
                rw [show a + 4 + m - (a + 4) = m by omega] at r
                by_cases hcc : c = a + 4
                · rw [if_pos hcc] at hby r
                  exact ⟨_, _, r, hby⟩
                · rw [if_neg hcc] at hby r
                  exact ⟨_, _, r, hby⟩
              have hcells := hb2.cells
              have hl2 : (u8s body).length = m * 1 := by rw [u8s_len]; omega
              have HB2 := Lib.hid (And.intro hbody hbl)
              clear hbody hbl hb2
              go_upto_region 14 with (at_builtin; refine wpList_append_own _ rfl _ _ 24 rfl wr.heap.size 5 i0 (.int .u8 0) 1 1 Try.underlying24 HI.out.1 HI.out.2.1 HI.out.2.2.1 HI.out.2.2.2 rfl (by decide) _ 0 [] rfl (own_nil _ _ _ _) ad2 m c2 (u8s body) rfl hl2 hcells (u8s_one _) (by unfold maxLen; omega) (by omega) (Nat.le_refl _) ?_; intro v' w2 hown hgrow _)
              rw [Nat.zero_add, List.nil_append] at hown
              obtain ⟨A3, c3, rfl⟩ := own_slice hown
              have hbel2 := grow_bel (Below.refl wr.heap.size wr) hgrow (fun g hg => by cases hg)
              have hby3 := Bytes.of_own hown (fun x hx => by rw [← HB2.out.1] at hx; exact HB.out.2.2.2.2.1 x (List.mem_of_mem_drop (List.mem_of_mem_take hx)))
              have O2 := Lib.hid (And.intro hown (And.intro hbel2 hby3))
              have e1 : Fr.bytes body = Fr.enc body := by unfold Fr.bytes; rw [if_neg (by rw [HB2.out.2]; exact h81)]
              have e2 : Fr.err body = 0 := by unfold Fr.err; rw [if_neg (by rw [HB2.out.2]; exact h81)]
              have hput := refPut7_any m c3 w2.heap.size A3 body w2 hby3 (Nat.le_refl _) (by omega)
              rw [e1, e2] at hput
              have HPut := Lib.hid hput
              clear hown hgrow hbel2 hby3 hput e1 e2 hcells hl2 r2
              go_wp2_with fail
              refine HPut.out.mono ?_
              rintro e w3 ⟨A4, c4, rfl, ho4, b4⟩
              obtain ⟨want, hwant⟩ : ∃ x, Fr.enc body = x := ⟨_, rfl⟩
              rw [hwant] at ho4 ⊢
              have hwl : want.length = m + 8 := by rw [← hwant, Fr.enc_len, HB2.out.2]
              rw [hwl] at ho4 ⊢
              obtain ⟨g4, rfl, hc4⟩ := own_some ho4 (by omega)
              have h4cells : ∀ k, k < m + 8 → w3.cell? ⟨g4, k, none⟩ = some (.int .u8 ((want.getD k 0 : Nat) : Int)) := fun k hk => by
                have := hc4 k _ (u8s_at (by omega))
                rwa [add_at, Nat.zero_add] at this
              have hg4 : g4 < w3.heap.size := (ho4.lt g4 rfl).2
              have HW := Lib.hid (And.intro hwant (And.intro hwl (And.intro h4cells hg4)))
              have O3 := Lib.hid (And.intro (own_below O2.out.1 b4) (below_next O2.out.2.1 b4))
              clear hwant hwl h4cells hg4 ho4 hc4 b4 HPut
              go_wp2_with fail
              go_loopw [12] (fun i wx => ∃ j : Nat, j ≤ m + 8 ∧ i = .int .i64 (j : Int) ∧ (∀ k, k < j → (b.drop a).getD k 0 = want.getD k 0) ∧ Below w3.heap.size w3 wx) (fun i _ => m + 8 - (intOf i).toNat)
              case atStart => exact ⟨0, by omega, rfl, fun k hk => absurd hk (by omega), Below.refl _ _⟩
              case round =>
                obtain ⟨j, hj, rfl, hsame, hbx⟩ := hrel
                rename World => wx
                have HX := Lib.hid (And.intro hsame hbx)
                have hlt8 : ((b.drop a).take (8 + m)).length = m + 8 := by rw [List.length_take, HB.out.2.2.2.2.2]; omega
                have HT8 := Lib.hid hlt8
                clear hsame hlt8
                by_cases hlt : j < m + 8
                · have z3 := (O3.out.2.trans (hbx.mono O3.out.2.size)).cell (p := ⟨bk, off + (a + j), none⟩) (by have := HB.out.2.1; have := HB.out.2.2.2.1; show bk < _; omega)
                  rw [HB.out.2.2.1 j (by omega)] at z3
                  have z4 := (hbx.cell (p := ⟨g4, j, none⟩) HW.out.2.2.2).trans (HW.out.2.2.1 j hlt)
                  obtain ⟨x, hx⟩ : ∃ x, (b.drop a).getD j 0 = x := ⟨_, rfl⟩
                  obtain ⟨y, hy⟩ : ∃ x, want.getD j 0 = x := ⟨_, rfl⟩
                  rw [hx] at z3
                  rw [hy] at z4
                  have HXY := Lib.hid (And.intro hx hy)
                  have y1 : (j : Int) < (m : Int) + 8 := by omega
                  have y2 : (0 : Int) ≤ (a : Int) + j := by omega
                  have y3 : (a : Int) + j < n := by omega
                  have y4 : IntKind.i64.wrap ((a : Int) + j) = (a : Int) + j := IntWalk.i64_in _ (by omega)
                  have y8 : ((a : Int) + j).toNat = a + j := by omega
                  have y9 : (0 : Int) ≤ (j : Int) := by omega
                  clear hx hy hbx
                  by_cases hxy : x = y
                  · have hxy2 : ((x : Int) != (y : Int)) = false := by rw [hxy]; simp
                    subst hxy
                    go_wp2_with fail
                    go_quiet (fail)
                    go_wp2_with fail
                    go_roundw
                    case measure => simp [intOf]; omega
                    case rel =>
                      refine ⟨j + 1, by omega, by go_num, fun k hk => ?_, below_drewN HX.out.2 _⟩
                      rcases Nat.lt_or_ge k j with h1 | h1
                      · exact HX.out.1 k h1
                      · obtain rfl : k = j := by omega
                        rw [HXY.out.1, HXY.out.2]
                  · have hxy2 : ((x : Int) != (y : Int)) = true := by rw [bne_iff_ne]; omega
                    have hxy3 : ((x : Int) == (y : Int)) = false := by rw [beq_eq_false_iff_ne]; omega
                    have hxy4 : ¬ (x : Int) = (y : Int) := by omega
                    have e := Fr.tk_at (b := b) (a := a) (by omega) (by
                      rw [HTK.out, if_neg h81, if_neg h82, if_neg ?_]
                      rw [HB2.out.1, HW.out.1]
                      intro e
                      apply hxy
                      rw [← HXY.out.1, ← HXY.out.2, ← e]
                      rw [List.getD_eq_getElem?_getD, List.getD_eq_getElem?_getD, List.getElem?_take_of_lt (by omega)])
                    have HE := Lib.hid e
                    clear e
                    go_wp2_with fail
                    go_quiet (fail)
                    go_wp2_with fail
                    go_ret3
                    rw [HE.out]
                    exact ⟨none, 0, by simp, own_nil _ _ _ _, O3.out.2.trans ((below_drewN HX.out.2 _).mono O3.out.2.size)⟩
                · obtain rfl : j = m + 8 := by omega
                  have e : (b.drop a).take (8 + m) = want := by
                    apply getD_eq_all
                    · rw [HT8.out, HW.out.2.1]
                    · intro k hk
                      rw [HT8.out] at hk
                      rw [← HX.out.1 k hk]
                      rw [List.getD_eq_getElem?_getD, List.getD_eq_getElem?_getD, List.getElem?_take_of_lt (by omega)]
                  have e2 := Fr.tk_at (b := b) (a := a) (by omega) (by rw [HTK.out, if_neg h81, if_neg h82, HB2.out.1, if_pos (by rw [HW.out.1]; exact e)])
                  have HE := Lib.hid e2
                  have y1 : ¬ (((m + 8 : Nat) : Int) < (m : Int) + 8) := by omega
                  clear e e2 hbx
                  go_wp2_with fail
                  go_ret3
                  rw [HE.out]
                  have ho := own_below O3.out.1 HX.out.2
                  rw [← HB2.out.2] at ho
                  refine ⟨A3, c3, ?_, ho, O3.out.2.trans (HX.out.2.mono O3.out.2.size)⟩
                  simp [HB2.out.2]
end Go.Proofs.Ytnokbnobnhkmgaa
