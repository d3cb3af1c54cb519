/- FrameSpoilt, walked. -/
import Derived.Test.YtnokbnobnhkmgaaLaw7B
import Derived.Test.YtnokbnobnhkmgaaPick
namespace Go.Proofs.Ytnokbnobnhkmgaa
open Go.ChangeShapes Go.WideShapes Go.ChangeAt Go.RowKit

theorem u8s_turn {l : List Nat} (h : ∀ x ∈ l, x < 256) (q d : Nat) : (u8s l).set q (.int .u8 (bits .xor .u8 ((l.getD q 0 : Nat) : Int) (2 ^ (d % 8) % 256))) = u8s (l.set q (l.getD q 0 ^^^ 2 ^ (d % 8))) := by
  have hx : l.getD q 0 < 256 := by
    rw [List.getD_eq_getElem?_getD]
    rcases hy : l[q]? with _ | y
    · simp
    · exact h y (List.mem_of_getElem? hy)
  have h2 : 2 ^ (d % 8) < 256 := Nat.lt_of_lt_of_le (Nat.pow_lt_pow_right (by omega) (Nat.mod_lt d (by omega))) (by omega)
  have e : ((2 : Int) ^ (d % 8) % 256) = ((2 ^ (d % 8) : Nat) : Int) := by
    rw [show ((2 : Int) ^ (d % 8)) = ((2 ^ (d % 8) : Nat) : Int) from by rw [Int.natCast_pow]; rfl]
    exact Int.emod_eq_of_lt (Int.natCast_nonneg _) (by omega)
  rw [e, u8_xor_nat _ _ hx h2]
  simp only [u8s, List.map_set]
theorem few_err {ls : List (List Nat)} (h : ∀ l ∈ ls, l.length ≤ 400) : ∀ l ∈ ls, Fr.err l = 0 := fun l hl => Fr.err_zero.2 (by have := h l hl; omega)
theorem Fr.flat_take_step {ls : List (List Nat)} {i : Nat} (h : i < ls.length) : (Fr.flat (ls.take (i + 1))).length = (Fr.flat (ls.take i)).length + (ls.getD i []).length + 8 := by
  rw [take_snoc' ls i h, Fr.flat_snoc, List.length_append, Fr.enc_len]
  omega
theorem Fr.flat_all {ls : List (List Nat)} {k : Nat} (h : k < ls.length) : (Fr.flat (ls.take k)).length + (ls.getD k []).length + 8 ≤ (Fr.flat ls).length := by
  have h1 := Fr.flat_take_step h
  have h2 : Fr.flat ls = Fr.flat (ls.take (k + 1)) ++ Fr.flat (ls.drop (k + 1)) := by
    conv => lhs; rw [← List.take_append_drop (k + 1) ls]
    unfold Fr.flat
    rw [List.flatMap_append]
  rw [h2, List.length_append]
  omega
theorem Fr.flat_few {ls : List (List Nat)} (h : ls.length ≤ 8) (h2 : ∀ l ∈ ls, l.length ≤ 400) : (Fr.flat ls).length ≤ 3264 := by
  have key : ∀ ls : List (List Nat), (∀ l ∈ ls, l.length ≤ 400) → (Fr.flat ls).length ≤ ls.length * 408 := by
    intro ls
    induction ls with
    | nil => intro _; simp [Fr.flat]
    | cons l ls ih =>
      intro h
      have h1 := h l (by simp)
      have h3 := ih fun x hx => h x (by simp [hx])
      have e : Fr.flat (l :: ls) = Fr.enc l ++ Fr.flat ls := by simp [Fr.flat]
      rw [e, List.length_append, List.length_cons, Fr.enc_len]
      omega
  have := key ls h2
  omega
theorem all7_let {n c B k en : Nat} {A : Option Addr} {b : List Nat} {L : List (List Nat × Int)} {w : World} (h1 : Fr.from_ b 0 = (L, en)) (h2 : L.length = k) (hb : Bytes w B A n b) (hB : B ≤ w.heap.size) (hn : n ≤ 1000000) (hc : n ≤ c) :
    Calls Try.prog 20 #[.slice A n c] w fun e w' => ∃ A' c' V, e = .returned (.tuple #[.slice A' k c', .int .i64 (en : Int)]) ∧ w'.ownsRow w.heap.size 44 2 (.slice A' k c') k V ∧ Founds w' w.heap.size V L ∧ Below w.heap.size w w' := by
  have := fAll7_any n c B A b w hb hB hn hc
  rw [h1] at this
  subst h2
  exact this
set_option maxRecDepth 100000 in
set_option maxHeartbeats 8000000 in
theorem frameSpoilt_any (n c B : Nat) (A : Option Addr) (ls : List (List Nat)) (which bit : Int) (w : World) (h : RowsOf w B A n ls) (hB : B ≤ w.heap.size) (hn : n ≤ 9223372036854775807) :
    Calls Try.prog 6 #[.slice A n c, .int .i64 which, .int .i64 bit] w (LawP w) := by
  have HP := Lib.hid (And.intro h hB)
  clear h hB
  obtain ⟨fb, hfb⟩ : ∃ b, fewB ls = b := ⟨_, rfl⟩
  have HFW := fun W (hW : W = w) => (few_any n c B A ls W (hW ▸ HP.out.1) hn)
  rw [hfb] at HFW
  have HFW' := Lib.hid HFW
  have HF := Lib.hid hfb
  clear hfb HFW
  go_enter Try.func6, Try.ntmps6
  by_cases hgo : fb = false ∨ n = 0
  · have hend : ∀ W, Calls Try.prog 10 #[] W (LawP W) := works7_any
    have HE := Lib.hid hend
    clear hend
    rcases hgo with rfl | rfl
    · go_wp2_with fail
      refine (HFW'.out _ rfl).mono ?_
      rintro e w' ⟨rfl, rfl⟩
      go_wp2_with fail
      refine (HE.out _).mono ?_
      rintro e w1 ⟨rfl, b1⟩
      have D := Lib.hid b1
      clear b1
      go_wp2_with fail
      go_ret
      exact ⟨rfl, D.out⟩
    · cases fb
      all_goals
        go_wp2_with fail
        refine (HFW'.out _ rfl).mono ?_
        rintro e w' ⟨rfl, rfl⟩
        go_wp2_with fail
        refine (HE.out _).mono ?_
        rintro e w1 ⟨rfl, b1⟩
        have D := Lib.hid b1
        clear b1
        go_wp2_with fail
        go_ret
        exact ⟨rfl, D.out⟩
  · obtain rfl : fb = true := by cases fb <;> simp_all
    have hn0 : 0 < n := by omega
    have i0 : ((n : Int) == 0) = false := by rw [beq_eq_false_iff_ne]; omega
    have i1 : ¬ (n : Int) = 0 := by omega
    have hfw := few_yes HF.out
    have hn8 : n ≤ 8 := by have := hfw.1; rw [HP.out.1.1] at this; exact this
    have herr := few_err hfw.2
    have hall := HP.out.1.all
    have hE : Fr.allE ls = 0 := (Fr.allE_zero ls).2 herr
    have hL : Fr.allB ls = Fr.flat ls := if_pos hE
    have hL256 := Fr.allB_lt hall
    have hml := Fr.flat_few hfw.1 hfw.2
    rw [hL] at hL256
    obtain ⟨m, hm⟩ : ∃ m, (Fr.flat ls).length = m := ⟨_, rfl⟩
    rw [hm] at hml
    obtain ⟨k, hk, HPK⟩ := pick_any which n w hn0 (by omega)
    have HPK' := fun W => (pick_any which n W hn0 (by omega))
    have HLS := Lib.hid (And.intro hE (And.intro hL (And.intro hm (And.intro hL256 (And.intro herr (And.intro hfw.2 hall))))))
    have HPW := Lib.hid HPK'
    clear hgo hfw herr hall hE hL hL256 hm HPK HPK' hk
    go_wp2_with fail
    refine (HFW'.out _ rfl).mono ?_
    rintro e w' ⟨rfl, rfl⟩
    go_wp2_with fail
    refine (fJoin7_any n c B A ls w HP.out.1 HP.out.2 (by omega)).mono ?_
    rintro e w1 ⟨A3, c3, rfl, o3, b1⟩
    rw [HLS.out.2.1, HLS.out.2.2.1] at o3
    rw [HLS.out.1, HLS.out.2.1, HLS.out.2.2.1]
    have D1 := Lib.hid b1
    have O3 := Lib.hid o3
    have hc3 := own_cap o3
    clear o3 b1
    obtain ⟨k, hk, hpk⟩ := HPW.out w1
    go_wp2_with fail
    refine hpk.mono ?_
    rintro e w' ⟨rfl, rfl⟩
    clear hpk
    go_wp2_with fail
    go_loop [10, 11] (fun a i => ∃ j s : Nat, j ≤ k ∧ i = .int .i64 (j : Int) ∧ (Fr.flat (ls.take j)).length = s ∧ a = .int .i64 (s : Int)) (fun _ i => k - (intOf i).toNat)
    case atStart => exact ⟨0, 0, by omega, rfl, by simp [Fr.flat], rfl⟩
    case round =>
      obtain ⟨j, s, hj, rfl, hs, rfl⟩ := hrel
      have HSS := Lib.hid hs
      have hall := Fr.flat_all (ls := ls) (k := k) (by rw [HP.out.1.1]; exact hk)
      rw [HLS.out.2.2.1] at hall
      clear hs
      by_cases hjk : j < k
      · obtain ⟨b, off, rfl, hb, hc⟩ := HP.out.1.2 (by omega)
        obtain ⟨a, q, cq, e1, e2, e3⟩ := hc j (by omega)
        have hbz : b < w.heap.size := by have := HP.out.2; omega
        have d1 := (D1.out.cell (p := ⟨b, _, none⟩) hbz).trans e1
        have hst := Fr.flat_take_step (ls := ls) (i := j) (by rw [HP.out.1.1]; omega)
        have hfa := Fr.flat_all (ls := ls) (k := j) (by rw [HP.out.1.1]; omega)
        rw [HSS.out, e3.1] at hst
        rw [HSS.out, e3.1, HLS.out.2.2.1] at hfa
        have HST := Lib.hid hst
        have i2 : (0 : Int) ≤ j := by omega
        have i3 : (j : Int) < n := by omega
        have i4 : (j : Int) < k := by omega
        clear hc e1 e3 hst hall
        go_wp2_with fail
        go_round
        case rel => exact ⟨j + 1, s + q + 8, by omega, by go_num, by rw [HST.out], by go_num⟩
        case measure => simp [intOf]; omega
      · obtain rfl : k = j := by omega
        obtain ⟨b, off, rfl, hb, hc⟩ := HP.out.1.2 (by omega)
        obtain ⟨a, q, cq, e1, e2, e3⟩ := hc k hk
        have hbz : b < w.heap.size := by have := HP.out.2; omega
        have d1 := (D1.out.cell (p := ⟨b, _, none⟩) hbz).trans e1
        rw [HSS.out, e3.1] at hall
        have HQ := Lib.hid e3.1
        have i2 : (0 : Int) ≤ k := by omega
        have i3 : (k : Int) < n := by omega
        obtain ⟨N8, hN8⟩ : ∃ N8 : Nat, N8 = 8 * (q + 4) := ⟨_, rfl⟩
        obtain ⟨p, hp, hpp⟩ := pick_any bit N8 w1 (by omega) (by omega)
        have hlen3 : (Fr.flat ls).length = m := HLS.out.2.2.1
        have hmem : ls.getD k [] ∈ ls := by
          rw [List.getD_eq_getElem?_getD, List.getElem?_eq_getElem (by rw [HP.out.1.1]; exact hk)]
          exact List.getElem_mem _
        obtain ⟨d, hd⟩ : ∃ d : Nat, d = 32 + p := ⟨_, rfl⟩
        have hd1 : 32 ≤ d := by omega
        have hd2 : d < 8 * (q + 8) := by omega
        have hsd : s + d / 8 < m := by omega
        have hgood := Fr.from_flat HLS.out.2.2.2.2.1
        rw [hlen3] at hgood
        have hodd := Fr.from_odd HLS.out.2.2.2.2.1 HLS.out.2.2.2.2.2.2 (k := k) (d := d) (by rw [HP.out.1.1]; exact hk) hd1 (by rw [e3.1]; exact hd2)
        have hat := Fr.odd_at ls k d (by rw [HP.out.1.1]; exact hk) (by rw [e3.1]; exact hd2)
        rw [HSS.out] at hat
        have holen : (Fr.odd ls k d).flatten.length = m := by rw [hat, List.length_set]; exact hlen3
        rw [holen] at hodd
        have HGO := Lib.hid (And.intro hgood (And.intro hodd (And.intro hat holen)))
        clear hc e1 e3 hgood hodd hat holen hlen3 hmem
        go_wp2_with fail
        clear d1
        rw [show (8 : Int) * ((q : Int) + 4) = ((N8 : Nat) : Int) by omega]
        refine hpp.mono ?_
        rintro e w' ⟨rfl, rfl⟩
        have HN := Lib.hid (And.intro hN8 (And.intro hp hd))
        go_upto_region 14 with (fail)
        rw [show (32 : Int) + (p : Int) = ((d : Nat) : Int) by omega]
        clear hpp hN8 hp hd
        have i5 : (0 : Int) ≤ d := by omega
        go_wp2_with fail
        have hL1 : (ls.map (fun l => (l, (0 : Int)))).length = n := by rw [List.length_map]; exact HP.out.1.1
        have HL1 := Lib.hid hL1
        clear hL1
        refine (all7_let HGO.out.1 HL1.out (Bytes.of_own O3.out HLS.out.2.2.2.1) (Nat.le_refl _) (by omega) hc3).mono ?_
        rintro e v1 ⟨A4, c4, V4, rfl, o4, f4, b4⟩
        have G1 := Lib.hid b4
        have Q1 := Lib.hid (And.intro o4 f4)
        clear o4 f4 b4
        go_wp2_with fail
        refine (own_any m c3 _ A3 (Fr.flat ls) v1 (own_bytes7 O3.out HLS.out.2.2.2.1 G1.out) (by omega)).mono ?_
        rintro e v2 ⟨A6, c6, rfl, o6, b6⟩
        obtain ⟨g6, rfl, hc6⟩ := own_some o6 (by omega)
        have G2 := Lib.hid (And.intro b6 (below_next G1.out b6))
        have hcell : v2.cell? ⟨g6, s + d / 8, none⟩ = some (.int .u8 (((Fr.flat ls).getD (s + d / 8) 0 : Nat) : Int)) := by
          rw [o6.cellAt _ (by omega)]
          exact u8s_at (by rw [HLS.out.2.2.1]; exact hsd)
        have hfz := o6.frozenAt (s + d / 8)
        have hm6 := own_cap o6
        have O6 := Lib.hid o6
        have H256 : Hid (∀ x ∈ Fr.flat ls, x < 256) := Lib.hid HLS.out.2.2.2.1
        obtain ⟨y, hy⟩ : ∃ y, (Fr.flat ls).getD (s + d / 8) 0 = y := ⟨_, rfl⟩
        rw [hy] at hcell
        have HY := Lib.hid hy
        clear o6 b6 hc6 hy
        go_wp2_with fail
        go_region
        have hst := (O6.out.stored (s + d / 8) (.int .u8 (bits .xor .u8 ((y : Nat) : Int) (2 ^ (d % 8) % 256)))).1.drew
        rw [← HY.out, u8s_turn H256.out, ← HGO.out.2.2.1] at hst
        have hbw := (G2.out.2.setCell (p := ⟨g6, s + d / 8, none⟩) (Nat.le_trans G1.out.size (O6.out.lt g6 rfl).1) (.int .u8 (bits .xor .u8 ((y : Nat) : Int) (2 ^ (d % 8) % 256)))).drew
        have hbv := (G2.out.1.setCell (p := ⟨g6, s + d / 8, none⟩) (O6.out.lt g6 rfl).1 (.int .u8 (bits .xor .u8 ((y : Nat) : Int) (2 ^ (d % 8) % 256)))).drew
        rw [← HY.out] at hbw hbv ⊢
        obtain ⟨W3, hW⟩ : ∃ W, (v2.setCell ⟨g6, s + d / 8, none⟩ (.int .u8 (bits .xor .u8 (((Fr.flat ls).getD (s + d / 8) 0 : Nat) : Int) (2 ^ (d % 8) % 256)))).drew = W := ⟨_, rfl⟩
        rw [hW] at hst hbw hbv ⊢
        have O3o := Lib.hid hst
        have G3 := Lib.hid (And.intro hbw hbv)
        have h256o : ∀ x ∈ (Fr.odd ls k d).flatten, x < 256 := by
          rw [HGO.out.2.2.1]
          intro x hx
          rcases List.mem_or_eq_of_mem_set hx with hx | rfl
          · exact H256.out x hx
          · refine Nat.xor_lt_two_pow (n := 8) ?_ (Nat.lt_of_lt_of_le (Nat.pow_lt_pow_right (by omega) (Nat.mod_lt d (by omega))) (by omega))
            rw [List.getD_eq_getElem?_getD]
            rcases hz : (Fr.flat ls)[s + d / 8]? with _ | z
            · simp
            · exact H256.out z (List.mem_of_getElem? hz)
        have HO := Lib.hid h256o
        have hL2 : ((ls.map (fun l => (l, (0 : Int)))).set k ([], 72)).length = n := by rw [List.length_set]; exact HL1.out
        have HL2 := Lib.hid hL2
        clear hst hbw hbv hW h256o hL2 hcell hfz
        go_wp2_with fail
        refine (all7_let HGO.out.2.1 HL2.out (Bytes.of_own O3o.out HO.out) (Nat.le_refl _) (by omega) hm6).mono ?_
        rintro e v4 ⟨A5, c5, V5, rfl, o5, f5, b5⟩
        have G4 := Lib.hid (below_next G3.out.1 b5)
        have Q5 := Lib.hid (And.intro o5 f5)
        have Q4 := Lib.hid (And.intro (own_below (own_below Q1.out.1 G3.out.2) b5) ((Q1.out.2.below G3.out.2).below b5))
        clear o5 f5 b5
        go_wp2_with fail
        go_loopw [19] (fun t wx => ∃ j : Nat, j ≤ n ∧ t = .int .i64 (j : Int) ∧ Below v4.heap.size v4 wx) (fun t _ => n - (intOf t).toNat)
        case atStart => exact ⟨0, by omega, rfl, Below.refl _ _⟩
        case round =>
          obtain ⟨j, hj, rfl, hx⟩ := hrel
          have HZ := Lib.hid hx
          clear hx
          by_cases hjn : j < n
          · obtain ⟨b', off', he, hb', hc⟩ := HP.out.1.2 (by omega)
            injection he with he
            injection he with he1 he2
            subst he1 he2
            obtain ⟨al, ql, cl, e1, e2, e3⟩ := hc j hjn
            obtain ⟨g4, a4, m4, c4', rfl, f0, f1, f2, f3⟩ := Q4.out.2.at_ Q4.out.1 hjn
            obtain ⟨g5, a5, m5, c5', rfl, t0, t1, t2, t3⟩ := Q5.out.2.at_ Q5.out.1 hjn
            have hLg : (ls.map (fun l => (l, (0 : Int)))).getD j ([], 0) = (ls.getD j [], 0) := by
              rw [List.getD_eq_getElem?_getD, List.getElem?_map, List.getD_eq_getElem?_getD, List.getElem?_eq_getElem (by rw [HP.out.1.1]; exact hjn)]
              rfl
            rw [hLg] at f1 f3
            dsimp only at f1 f3
            have hql := e3.1
            obtain rfl : ql = m4 := by have h1 := f3.1; rw [u8s_len] at h1; omega
            have hlx := HLS.out.2.2.2.2.2.2 (ls.getD j []) (by rw [List.getD_eq_getElem?_getD, List.getElem?_eq_getElem (by rw [HP.out.1.1]; exact hjn)]; exact List.getElem_mem _)
            have hl4 := HLS.out.2.2.2.2.2.1 (ls.getD j []) (by rw [List.getD_eq_getElem?_getD, List.getElem?_eq_getElem (by rw [HP.out.1.1]; exact hjn)]; exact List.getElem_mem _)
            have hwz := D1.out.trans ((G4.out.trans (HZ.out.mono G4.out.size)).mono D1.out.size)
            have x0 := (hwz.cell (p := ⟨b, _, none⟩) hbz).trans e1
            have y0 := (HZ.out.cell (p := ⟨g4, _, none⟩) (Q4.out.1.lt g4 rfl).2).trans f0
            have y1 := (HZ.out.cell (p := ⟨g4, _, none⟩) (Q4.out.1.lt g4 rfl).2).trans f1
            have z0 := (HZ.out.cell (p := ⟨g5, _, none⟩) (Q5.out.1.lt g5 rfl).2).trans t0
            have z1 := (HZ.out.cell (p := ⟨g5, _, none⟩) (Q5.out.1.lt g5 rfl).2).trans t1
            have hB1 := (e3.below hwz HP.out.2).more (B' := wr.heap.size) (Nat.le_trans HP.out.2 hwz.size)
            have hB4 := own_bytes7 f3 hlx HZ.out
            have HS1 := Lib.hid (fun N => same_yes ql c4' ql cl wr.heap.size a4 al (ls.getD j []) (wr.drewN N) (hB4.drewN N) (hB1.drewN N) e2)
            have i6 : (0 : Int) ≤ j := by omega
            have i7 : (j : Int) < n := by omega
            by_cases hjk' : j = k
            · subst hjk'
              clear hc e1 e3 f0 f1 f2 f3 t0 t1 t2 t3 hLg hlx hl4 hwz hB1 hB4 hql
              go_wp2_with fail
              go_quiet ((go_at_call 13; with_reducible exact Calls.quiet_of (HS1.out _)))
              go_wp2_with fail
              exact ⟨⟨j + 1, by omega, by go_num, below_drewN HZ.out _⟩, by simp [intOf]; omega⟩
            · have i8 : ((j : Int) != k) = true := by rw [bne_iff_ne]; omega
              have i9 : ((j : Int) == k) = false := by rw [beq_eq_false_iff_ne]; omega
              have hLb : ((ls.map (fun l => (l, (0 : Int)))).set k ([], 72)).getD j ([], 0) = (ls.getD j [], 0) := by
                rw [List.getD_eq_getElem?_getD, List.getElem?_set_ne (fun h => hjk' h.symm), ← List.getD_eq_getElem?_getD, hLg]
              rw [hLb] at t1 t3 z1
              dsimp only at t1 t3 z1
              obtain rfl : ql = m5 := by have h1 := t3.1; rw [u8s_len] at h1; omega
              have hB5 := own_bytes7 t3 hlx HZ.out
              have HS2 := Lib.hid (fun N => same_yes ql c5' ql cl wr.heap.size a5 al (ls.getD j []) (wr.drewN N) (hB5.drewN N) (hB1.drewN N) e2)
              clear hc e1 e3 f0 f1 f2 f3 t0 t1 t2 t3 hLg hlx hl4 hwz hB1 hB4 hB5 hLb hql
              go_wp2_with fail
              go_quiet ((go_at_call 13; first | with_reducible exact Calls.quiet_of (HS1.out _) | with_reducible exact Calls.quiet_of (HS2.out _)))
              go_wp2_with fail
              exact ⟨⟨j + 1, by omega, by go_num, below_drewN HZ.out _⟩, by simp [intOf]; omega⟩
          · have i6 : ¬ (j : Int) < n := by omega
            obtain ⟨g5, a5, m5, c5', rfl, e0, e1, e2', e3⟩ := Q5.out.2.at_ Q5.out.1 hk
            have hLk : ((ls.map (fun l => (l, (0 : Int)))).set k ([], 72)).getD k ([], 0) = ([], 72) := by
              rw [List.getD_eq_getElem?_getD, List.getElem?_set_self (by rw [HL1.out]; exact hk)]
              rfl
            rw [hLk] at e1 e3
            dsimp only at e1 e3
            obtain rfl : m5 = 0 := by have := e3.1; simp [u8s] at this; omega
            have hg5 := (Q5.out.1.lt g5 rfl).2
            have d0 := (HZ.out.cell (p := ⟨g5, _, none⟩) hg5).trans e0
            have d1 := (HZ.out.cell (p := ⟨g5, _, none⟩) hg5).trans e1
            clear e0 e1 e2' e3 hLk
            go_wp2_with fail
            refine (works7_any _).mono ?_
            rintro e v5 ⟨rfl, b6⟩
            have HF5 := Lib.hid (D1.out.trans ((G4.out.trans ((below_next HZ.out b6).mono G4.out.size)).mono D1.out.size))
            clear b6
            go_wp2_with fail
            go_ret
            exact ⟨rfl, HF5.out⟩
end Go.Proofs.Ytnokbnobnhkmgaa
