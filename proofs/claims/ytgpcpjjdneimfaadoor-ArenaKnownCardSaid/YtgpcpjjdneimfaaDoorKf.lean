/- ArenaKnown, walked. -/
import Derived.Test.YtgpcpjjdneimfaaDoorM11G
namespace Go.Proofs.YtgpcpjjdneimfaaDoor
open Go.ChangeShapes Go.WideShapes Go.ChangeAt Go.RowKit

set_option maxRecDepth 100000 in
set_option maxHeartbeats 4000000 in
theorem lawKnown_any (w : World) (hv : Vars w) : Calls Tryd.prog 7 #[] w (WorksP w) := by
  have HV := Lib.hid hv
  clear hv
  go_enter Tryd.func7, Tryd.ntmps7
  go_wp2_with fail
  go_loopw [1] (fun n wr => ∃ j : Nat, j ≤ 1026 ∧ n = .int .i64 (j : Int) ∧ Below w.heap.size w wr) (fun n _ => 1026 - (intOf n).toNat)
  case atStart => exact ⟨0, by omega, rfl, Below.refl _ _⟩
  case round =>
    obtain ⟨n, hn, rfl, hbel⟩ := hrel
    have HB := Lib.hid hbel
    clear hbel
    by_cases hlt : n < 1024
    · have i1 : (0 : Int) ≤ (n : Int) := by omega
      have i2 : (n : Int) < 1024 := by omega
      go_wp2_with fail
      go_loopw [2, 3, 4, 5] (fun lv tv kv iv wx => ∃ (i k : Nat) (q : List Ac) (u : List Int), i ≤ 5 ∧ k ≤ 1100 ∧ iv = .int .i64 (i : Int) ∧ kv = .int .i64 (k : Int) ∧ Kn w wx lv tv i i q u ∧ ∀ y ∈ u, -10 ≤ y ∧ y ≤ 10) (fun _ _ _ iv _ => 5 - (intOf iv).toNat)
      case atStart => exact ⟨0, n, [], [], by omega, by omega, rfl, rfl, ⟨HB.out, own_nil _ _ _ _, rfl, fun j a h => by simp at h, own_nil _ _ _ _, rfl⟩, fun y hy => by simp at hy⟩
      case round =>
        obtain ⟨i, k, q, u, hi, hk, rfl, rfl, hK, hub⟩ := hrel
        have HK := Lib.hid hK
        have HUB := Lib.hid hub
        clear hK hub
        by_cases hl5 : i < 5
        · have j1 : (0 : Int) ≤ (i : Int) := by omega
          have j2 : (i : Int) < 5 := by omega
          obtain ⟨k3, s1, s2, s3⟩ := tmA k 3 3 rfl (by omega)
          obtain ⟨kd, s4, s5, s6⟩ := tdA k 3 3 rfl
          obtain ⟨k32, s7, s8, s9⟩ := tmA kd 2 2 rfl (by omega)
          go_upto_region 11 with fail
          obtain ⟨hb, hhb⟩ : ∃ hb, wr.heap.size = hb := ⟨_, rfl⟩
          obtain ⟨Y, hY⟩ : ∃ Y, wr.alloc (.cells #[.int .i64 (k3 : Int), .int .i64 (1 + (k32 : Int))] 42) = Y := ⟨_, rfl⟩
          have bY : Below wr.heap.size wr Y := hY ▸ (Below.refl _ _).alloc (Nat.le_refl _) _
          have hbox : Blk Y hb 42 #[.int .i64 (k3 : Int), .int .i64 (1 + (k32 : Int))] := by
            rw [← hY, ← hhb]
            exact Blk.new _ _ _
          have HY := Lib.hid (And.intro hY (And.intro hhb (And.intro (HK.out.below bY) hbox)))
          clear hY hhb bY hbox s1 s2 s3 s4 s5 s6 s7 s8 s9
          change Code.wp _ _ _ _ (wr.alloc (.cells #[.int .i64 (k3 : Int), .int .i64 (1 + (k32 : Int))] 42))
          rw [HY.out.1, HY.out.2.1]
          obtain ⟨k4, s1, s2, s3⟩ := tmA k 4 4 rfl (by omega)
          obtain ⟨k2, s4, s5, s6⟩ := tmA k 2 2 rfl (by omega)
          obtain ⟨kh, s7, s8, s9⟩ := tdA k 2 2 rfl
          obtain ⟨k6, s10, s11, s12⟩ := tmA kh 3 3 rfl (by omega)
          obtain ⟨is, his, hsz0, hsz1, hsz2⟩ := info_parts Tryd.info9
          obtain ⟨ih, hih, hhz0, hhz1, hhz2⟩ := info_parts Tryd.info42
          have r1 : ∀ W b, (Instr.sliceAt 32 (.slice (some ⟨b, 0, none⟩) 1 1) none (some (.int .i64 (k2 : Int))) none).run Tryd.prog W = .ok (.slice (some ⟨b, 0, none⟩) k2 1) W := fun W b => run_cut_h (P := Tryd.prog) 32 9 is Tryd.underlying32 his (some ⟨b, 0, none⟩) 1 1 k2 (by omega) W
          have r2 : ∀ W b, (Instr.sliceAt 33 (.slice (some ⟨b, 0, none⟩) 2 2) none (some (.int .i64 (k6 : Int))) none).run Tryd.prog W = .ok (.slice (some ⟨b, 0, none⟩) k6 2) W := fun W b => run_cut_h (P := Tryd.prog) 33 42 ih Tryd.underlying33 hih (some ⟨b, 0, none⟩) 2 2 k6 (by omega) W
          have hwk : IntKind.i64.wrap (kh : Int) = (kh : Int) := by rw [IntKind.wrap_i64]; omega
          have HS := Lib.hid (And.intro s3 (And.intro s6 s12))
          clear his hsz0 hsz1 hsz2 hih hhz0 hhz1 hhz2
          have PA : Hid (∀ X', Below Y.heap.size Y X' → X'.cell? ⟨hb, 0, none⟩ = some (.int .i64 (k3 : Int)) ∧ X'.cell? ⟨hb, 1, none⟩ = some (.int .i64 (1 + (k32 : Int)))) := Lib.hid fun X' hX =>
            have h1 := HY.out.2.2.2.below hX HY.out.2.2.2.lt
            ⟨h1.cell 0, h1.cell 1⟩
          have E0 : Hid (Below Y.heap.size Y Y.drew) := Lib.hid (Below.refl _ _).drew
          have E1 : Hid (∀ a, Below Y.heap.size Y (Y.alloc a).drew) := Lib.hid fun a => ((Below.refl _ _).alloc (Nat.le_refl _) a).drew
          have E2 : Hid (∀ a b, Below Y.heap.size Y ((Y.alloc a).alloc b).drew) := Lib.hid fun a b => (((Below.refl _ _).alloc (Nat.le_refl _) a).alloc (by simp) b).drew
          have E3 : Hid (∀ a b c, Below Y.heap.size Y (((Y.alloc a).alloc b).alloc c).drew) := Lib.hid fun a b c => ((((Below.refl _ _).alloc (Nat.le_refl _) a).alloc (by simp) b).alloc (by simp; omega) c).drew
          have E4 : Hid (∀ a b c d, Below Y.heap.size Y ((((Y.alloc a).alloc b).alloc c).alloc d).drew) := Lib.hid fun a b c d => (((((Below.refl _ _).alloc (Nat.le_refl _) a).alloc (by simp) b).alloc (by simp; omega) c).alloc (by simp; omega) d).drew
          have E5 : Hid (∀ a b c d e, Below Y.heap.size Y (((((Y.alloc a).alloc b).alloc c).alloc d).alloc e).drew) := Lib.hid fun a b c d e => nest_below a b c d e
          have P6 : Hid (∀ w' a b c d e, (nest Y a b c d e).grownBy w' u2.ownBlock → w'.cell? ⟨hb, 0, none⟩ = some (.int .i64 (k3 : Int)) ∧ w'.cell? ⟨hb, 1, none⟩ = some (.int .i64 (1 + (k32 : Int)))) := Lib.hid fun w' a b c d e hg => by
            have h1 := HY.out.2.2.2.below (nest_below a b c d e) HY.out.2.2.2.lt
            have h2 := (Turns.of_grown hg).blk h1 (fun e => by have h3 := (HK.out.acts.lt hb e).2; have h4 := HY.out.2.1; omega)
            exact ⟨h2.cell 0, h2.cell 1⟩
          go_cut [2] (fun lv' wc => ∃ a : Ac, Kn w wc lv' u3 (i + 1) i (q ++ [a]) u)
          case first =>
            go_region_held3 (fun X' => X'.cell? ⟨hb, 0, none⟩ = some (.int .i64 (k3 : Int)) ∧ X'.cell? ⟨hb, 1, none⟩ = some (.int .i64 (1 + (k32 : Int)))) (first | with_reducible exact PA.out _ E0.out | with_reducible exact PA.out _ (E1.out _) | with_reducible exact PA.out _ (E2.out _ _) | with_reducible exact PA.out _ (E3.out _ _ _) | with_reducible exact PA.out _ (E4.out _ _ _ _) | with_reducible exact PA.out _ (E5.out _ _ _ _ _) | with_reducible exact S6.out | fail) (first
              | (refine act_append HY.out.2.2.1 hl5 rfl (.tmp 23) (.tmp 48) rfl rfl rfl rfl (by simp [Value.oneCell']) ?_; intro g cap w' ho hg hlie; have S6 := Lib.hid (P6.out _ _ _ _ _ _ hg); have O6 := Lib.hid (And.intro ho (And.intro hg hlie)); clear ho hg hlie))
            all_goals go_wp2_with fail
            all_goals go_meet
            all_goals (case rel => exact ⟨mkAc _ _ _ _ _ _ _ _ _ _ _ _, HY.out.2.2.1.act (nest_below _ _ _ _ _) rfl (mk_raw (by first | exact nest0 _ _ _ _ _ _ | exact nest1 _ _ _ _ _ _ | exact nest2 _ _ _ _ _ _ | exact nest3 _ _ _ _ _ _) (by first | exact nest0 _ _ _ _ _ _ | exact nest1 _ _ _ _ _ _ | exact nest2 _ _ _ _ _ _ | exact nest3 _ _ _ _ _ _) (by first | exact nest0 _ _ _ _ _ _ | exact nest1 _ _ _ _ _ _ | exact nest2 _ _ _ _ _ _ | exact nest3 _ _ _ _ _ _) (by first | exact nest0 _ _ _ _ _ _ | exact nest1 _ _ _ _ _ _ | exact nest2 _ _ _ _ _ _ | exact nest3 _ _ _ _ _ _) (by omega) (by omega) (by omega) (by omega) HS.out.2.1 HS.out.2.2) O6.out.1 O6.out.2.1 O6.out.2.2⟩)
          case rest =>
            obtain ⟨a, hKa⟩ := hcut
            have HA := Lib.hid hKa
            obtain ⟨ii, hii, hiz0, hiz1, hiz2⟩ := info_parts Tryd.info3
            have HI := Lib.hid (And.intro hii (And.intro hiz0 (And.intro hiz1 hiz2)))
            obtain ⟨k5, t1, t2, t3⟩ := tmA k 5 5 rfl (by omega)
            obtain ⟨kq, t4, t5, t6⟩ := tdA k 4 4 rfl
            have hib : i ≤ 4 := by omega
            have hkq : kq ≤ 275 := by omega
            clear hKa hii hiz0 hiz1 hiz2 s1 s2 s3 s4 s5 s6 s7 s8 s9 s10 s11 s12 r1 r2 hwk PA E0 E1 E2 E3 E4 E5 P6
            have hH : (wc.alloc (.cells #[.int .i64 ((k5 : Int) - 2)] 3)).heap.size = wc.heap.size + 1 := by simp
            have hbs : w.heap.size ≤ (wc.alloc (.cells #[.int .i64 ((k5 : Int) - 2)] 3)).heap.size := by have := HA.out.bel.size; omega
            clear hH
            go_wp2_with (at_builtin; refine wpList_append_own_at _ rfl _ _ 34 rfl w.heap.size 3 ii _ 1 8 Tryd.underlying34 HI.out.1 HI.out.2.1 HI.out.2.2.1 HI.out.2.2.2 rfl (by decide) u3 i _ rfl (HA.out.turns.alloc _) ⟨wc.heap.size, 0, none⟩ 1 1 [.int .i64 ((k5 : Int) - 2)] rfl rfl (cell_one_new _ _ _) (by simp [Value.oneCell']) (by unfold maxLen; omega) (by omega) hbs ?_)
            intro tv' w3 ho3 hg3 _ hl3
            have HK3 := Lib.hid (HA.out.num ho3 hg3 hl3)
            have HU3 : Hid (∀ y ∈ u ++ [(k5 : Int) - 2], -10 ≤ y ∧ y ≤ 10) := Lib.hid fun y hy => by
              rcases List.mem_append.1 hy with h | h
              · exact HUB.out y h
              · simp at h
                omega
            clear ho3 hg3 hl3
            go_wp2_with fail
            exact ⟨⟨i + 1, kq + 5 * i, q ++ [a], u ++ [(k5 : Int) - 2], by omega, by omega, by go_num, by go_num, HK3.out, HU3.out⟩, by simp [intOf]; omega⟩
        · obtain rfl : i = 5 := by omega
          obtain ⟨A, c, hA⟩ := own_slice HK.out.acts
          obtain ⟨A', c', hA'⟩ := own_slice HK.out.turns
          subst hA hA'
          have hin := HK.out.actIn
          obtain ⟨b, off, rfl, hb, -, hcell⟩ := hin.row (by omega)
          obtain ⟨m4, s1, s2, s3⟩ := tmA n 4 4 rfl (by omega)
          obtain ⟨m3, s4, s5, s6⟩ := tmA n 3 3 rfl (by omega)
          obtain ⟨m5, s7, s8, s9⟩ := tmA n 5 5 rfl (by omega)
          obtain ⟨a0, ha0⟩ : ∃ a0, q[0]? = some a0 := ⟨_, List.getElem?_eq_getElem (by rw [hin.len]; omega)⟩
          obtain ⟨a5, ha5⟩ : ∃ a5, q[m5]? = some a5 := ⟨_, List.getElem?_eq_getElem (by rw [hin.len]; omega)⟩
          have c0 := hcell 0 a0 ha0
          have c5 := hcell m5 a5 ha5
          simp only [Nat.zero_mul, Nat.add_zero] at c0
          have PA : Hid (∀ X', Below wr.heap.size wr X' → X'.cell? ⟨b, off + 1, none⟩ = some (.bool a0.d.leaf) ∧ X'.cell? ⟨b, off + 2, none⟩ = some (.slice a0.v.A1 a0.v.n1 a0.v.c1) ∧ X'.cell? ⟨b, off + 3, none⟩ = some (.slice a0.v.A2 a0.v.n2 a0.v.c2) ∧ X'.cell? ⟨b, off + 4, none⟩ = some (.slice a0.v.A3 a0.v.n3 a0.v.c3) ∧ X'.cell? ⟨b, off + m5 * 6 + 1, none⟩ = some (.bool a5.d.leaf) ∧ X'.cell? ⟨b, off + m5 * 6 + 2, none⟩ = some (.slice a5.v.A1 a5.v.n1 a5.v.c1) ∧ X'.cell? ⟨b, off + m5 * 6 + 3, none⟩ = some (.slice a5.v.A2 a5.v.n2 a5.v.c2) ∧ X'.cell? ⟨b, off + m5 * 6 + 4, none⟩ = some (.slice a5.v.A3 a5.v.n3 a5.v.c3)) := Lib.hid fun X' hX =>
            ⟨(hX.cell (p := ⟨b, off + 1, none⟩) hb).trans (c0 1 (by omega)), (hX.cell (p := ⟨b, off + 2, none⟩) hb).trans (c0 2 (by omega)), (hX.cell (p := ⟨b, off + 3, none⟩) hb).trans (c0 3 (by omega)), (hX.cell (p := ⟨b, off + 4, none⟩) hb).trans (c0 4 (by omega)), (hX.cell (p := ⟨b, off + m5 * 6 + 1, none⟩) hb).trans (c5 1 (by omega)), (hX.cell (p := ⟨b, off + m5 * 6 + 2, none⟩) hb).trans (c5 2 (by omega)), (hX.cell (p := ⟨b, off + m5 * 6 + 3, none⟩) hb).trans (c5 3 (by omega)), (hX.cell (p := ⟨b, off + m5 * 6 + 4, none⟩) hb).trans (c5 4 (by omega))⟩
          have E : Hid (Below wr.heap.size wr wr.drew) := Lib.hid (Below.refl _ _).drew
          have hVr := HV.out.next HK.out.bel
          have HPl : Hid (∀ X', Below wr.heap.size wr X' → Calls Tryd.prog 3 #[.slice (some ⟨b, off, none⟩) 5 c] X' (WorksP X')) := Lib.hid fun X' h => lawPlays_any X' (hVr.next h) _ 5 c q (HK.out.below h).actIn (by omega)
          have HTu : Hid (∀ X', Below wr.heap.size wr X' → Calls Tryd.prog 5 #[.slice A' 5 c'] X' (WorksP X')) := Lib.hid fun X' h => lawTurns_any X' (hVr.next h) A' 5 c' u ((HK.out.below h).intsIn (fun y hy => by have := HUB.out y hy; omega)) (by omega)
          have HTe : Hid (∀ X', Below wr.heap.size wr X' → Calls Tryd.prog 4 #[.slice (some ⟨b, off, none⟩) 5 c, .agg #[.int .i64 ((m4 : Int) - 1), .int .i64 (m3 : Int)], .agg #[.bool a0.d.leaf, .slice a0.v.A1 a0.v.n1 a0.v.c1, .slice a0.v.A2 a0.v.n2 a0.v.c2, .slice a0.v.A3 a0.v.n3 a0.v.c3], .agg #[.bool a5.d.leaf, .slice a5.v.A1 a5.v.n1 a5.v.c1, .slice a5.v.A2 a5.v.n2 a5.v.c2, .slice a5.v.A3 a5.v.n3 a5.v.c3]] X' (WorksP X')) := Lib.hid fun X' h =>
            have hi := (HK.out.below h).actIn
            lawTells_any X' (hVr.next h) _ 5 c q hi (by omega) _ _ a0.v a5.v a0.d a5.d (hi.raw 0 a0 ha0).alone (hi.raw m5 a5 ha5).alone
          have hw4 : IntKind.i64.wrap ((m4 : Int) - 1) = (m4 : Int) - 1 := by rw [IntKind.wrap_i64]; omega
          have m5a : (0 : Int) ≤ (m5 : Int) := by omega
          have m5b : (m5 : Int) < 5 := by omega
          have HBd := Lib.hid (And.intro s3 (And.intro s6 s9))
          clear hin hcell c0 c5 ha0 ha5 hb hVr
          go_upto_region 14 with fail
          go_region_held3 (fun X' => X'.cell? ⟨b, off + 1, none⟩ = some (.bool a0.d.leaf) ∧ X'.cell? ⟨b, off + 2, none⟩ = some (.slice a0.v.A1 a0.v.n1 a0.v.c1) ∧ X'.cell? ⟨b, off + 3, none⟩ = some (.slice a0.v.A2 a0.v.n2 a0.v.c2) ∧ X'.cell? ⟨b, off + 4, none⟩ = some (.slice a0.v.A3 a0.v.n3 a0.v.c3) ∧ X'.cell? ⟨b, off + m5 * 6 + 1, none⟩ = some (.bool a5.d.leaf) ∧ X'.cell? ⟨b, off + m5 * 6 + 2, none⟩ = some (.slice a5.v.A1 a5.v.n1 a5.v.c1) ∧ X'.cell? ⟨b, off + m5 * 6 + 3, none⟩ = some (.slice a5.v.A2 a5.v.n2 a5.v.c2) ∧ X'.cell? ⟨b, off + m5 * 6 + 4, none⟩ = some (.slice a5.v.A3 a5.v.n3 a5.v.c3)) (first | with_reducible exact PA.out _ E.out | fail) (first
            | (go_at_call 3; (with_reducible refine (HPl.out _ E.out).mono ?_); rintro e X1 ⟨rfl, bb⟩; have E := Lib.hid (below_next E.out bb); clear bb)
            | (go_at_call 5; (with_reducible refine (HTu.out _ E.out).mono ?_); rintro e X1 ⟨rfl, bb⟩; have E := Lib.hid (below_next E.out bb); clear bb)
            | (go_at_call 4; (with_reducible refine (HTe.out _ E.out).mono ?_); rintro e X1 ⟨rfl, bb⟩; have E := Lib.hid (below_next E.out bb); clear bb))
          have HZ := Lib.hid (HK.out.bel.trans (E.out.mono HK.out.bel.size))
          clear s1 s2 s3 s4 s5 s6 s7 s8 s9 m5a m5b hw4
          go_wp2_with fail
          exact ⟨⟨n + 3, by omega, by go_num, HZ.out⟩, by simp [intOf]; omega⟩
    · have i2 : ¬ (n : Int) < 1024 := by omega
      as_aux_lemma =>
      have HN := Lib.hid (lawNone_any wr (HV.out.next HB.out) 1 1 (.bool false) (.slice none 0 0) (.slice none 0 0) (.slice none 0 0))
      go_wp2_with fail
      refine HN.out.mono ?_
      clear HN
      rintro e w2 ⟨rfl, b2⟩
      have HB2 := Lib.hid (below_next HB.out b2)
      have HP := Lib.hid (lawPlays_any w2 (HV.out.next HB2.out) none 0 0 [] (ActIn.nil w2) (by omega))
      clear b2
      go_wp2_with fail
      refine HP.out.mono ?_
      clear HP
      rintro e w3 ⟨rfl, b3⟩
      have HB3 := Lib.hid (below_next HB2.out b3)
      have HW := Lib.hid (works_any w3 (HV.out.next HB3.out))
      clear b3
      go_wp2_with fail
      refine HW.out.mono ?_
      clear HW
      rintro e w4 ⟨rfl, b4⟩
      have HB4 := Lib.hid (below_next HB3.out b4)
      clear b4
      go_wp2_with fail
      go_ret
      exact ⟨rfl, HB4.out⟩
end Go.Proofs.YtgpcpjjdneimfaaDoor
