/- KeyOrder, walked. -/
import Derived.Test.YtbafbhnnonfkpaaLawD
import Derived.Test.YtbafbhnnonfkpaaKReads
namespace Go.Proofs.Ytbafbhnnonfkpaa
open Go.ChangeShapes Go.WideShapes Go.ChangeAt Go.RowKit

theorem Strs.cut {w : World} {B n c : Nat} {A : Option Addr} {l : List ByteArray} (h : Strs w B A n l) {i : Nat} (hi : i ≤ n) (hc : n ≤ c) : Strs w B (if c = i then A else A.map (·.add i)) (n - i) (l.drop i) := by
  refine ⟨by rw [List.length_drop, h.1], fun x hx => h.2.1 x (List.mem_of_mem_drop hx), fun h0 => ?_⟩
  obtain ⟨b, off, rfl, hb, hcl⟩ := h.2.2 (by omega)
  rw [if_neg (by omega)]
  refine ⟨b, off + i, by simp [add_at], hb, fun j hj => ?_⟩
  rw [Nat.add_assoc, hcl (i + j) (by omega), List.getD_eq_getElem?_getD, List.getD_eq_getElem?_getD, List.getElem?_drop]
theorem begin_cut {X Y : ByteArray} (h : ∀ z, nums Y ≠ nums X ++ z) : ((Y.extract 0 X.size).toList == X.toList) = false := by
  refine text_ne fun e => h ((nums Y).drop X.size) ?_
  rw [nums_take] at e
  rw [← e]
  exact (List.take_append_drop _ _).symm
theorem begins_cases (P T N : ByteArray) (hN : nums N = (Ky.after (nums P)).getD []) :
    (P.size ≤ T.size ∧ ((T.extract 0 P.size).toList == P.toList) = true ∧ Op.bytesLess T.toList P.toList = false ∧ ((Ky.after (nums P)).isSome = false ∨ ((Ky.after (nums P)).isSome = true ∧ Op.bytesLess T.toList N.toList = true))) ∨
    ((¬ P.size ≤ T.size ∨ (P.size ≤ T.size ∧ ((T.extract 0 P.size).toList == P.toList) = false)) ∧ (Op.bytesLess T.toList P.toList = true ∨ (Op.bytesLess T.toList P.toList = false ∧ (Ky.after (nums P)).isSome = true ∧ Op.bytesLess T.toList N.toList = false))) := by
  have hb := Ky.begins_after (nums P) (nums T) (nums_byte P) (nums_byte T)
  rw [text_cmp, text_cmp]
  by_cases hbg : ∃ z, nums T = nums P ++ z
  · refine .inl ?_
    obtain ⟨h1, h2⟩ := hb.1 hbg
    obtain ⟨z, hz⟩ := hbg
    have hl := congrArg List.length hz
    rw [List.length_append, nums_len, nums_len] at hl
    have he : T.extract 0 P.size = P := nums_inj (by rw [nums_take, hz, ← nums_len P, List.take_left])
    refine ⟨by omega, by rw [he]; simp, by simpa using h1, ?_⟩
    rcases ha : Ky.after (nums P) with _ | a
    · exact .inl rfl
    · refine .inr ⟨rfl, ?_⟩
      rw [ha] at hN
      have := h2 a ha
      rw [hN]
      simpa using this
  · refine .inr ⟨?_, ?_⟩
    · by_cases hs : P.size ≤ T.size
      · refine .inr ⟨hs, begin_cut fun z hz => hbg ⟨z, hz⟩⟩
      · exact .inl hs
    · by_cases h1 : Ky.cmp (nums T) (nums P) = -1
      · exact .inl (by simpa using h1)
      · refine .inr ⟨by simpa using h1, ?_⟩
        rcases ha : Ky.after (nums P) with _ | a
        · exact absurd (hb.2 ⟨h1, fun a h => by rw [ha] at h; cases h⟩) hbg
        · refine ⟨rfl, ?_⟩
          rw [ha] at hN
          have h3 : Ky.cmp (nums T) a ≠ -1 := fun e => hbg (hb.2 ⟨h1, fun a' h => by rw [ha] at h; injection h with h; rw [← h]; exact e⟩)
          rw [hN]
          simpa using h3

set_option maxRecDepth 100000 in
set_option maxHeartbeats 4000000 in
theorem keyOrder_any (n c m d k f B : Nat) (A A2 A3 : Option Addr) (l : List PT) (ns : List Int) (ss : List ByteArray) (P T : ByteArray) (w : World) (h : PartsR w B A n l) (h2 : Ints w B A2 m ns) (h3 : Strs w B A3 k ss) (hB : B ≤ w.heap.size)
    (hn : n ≤ 9223372036854775807) (hmd : m ≤ d) (hkf : k ≤ f) (hd : d ≤ 9223372036854775807) (hf : f ≤ 9223372036854775807) :
    Calls Try.prog 6 #[.slice A n c, .slice A2 m d, .slice A3 k f, .string P, .string T] w (TrueP w) := by
  have HP := Lib.hid (And.intro h (And.intro h2 h3))
  clear h h2 h3
  go_enter Try.func6, Try.ntmps6
  go_wp2_with fail
  refine (few_any n c B A l w HP.out.1 hn).mono ?_
  rintro e w0 ⟨rfl, rfl⟩
  by_cases hf : fewB n l = true
  · rw [hf]
    by_cases q1 : m ≤ 12
    · have j1 : ¬ (12 : Int) < m := by omega
      by_cases q2 : k ≤ 12
      · have j2 : ¬ (12 : Int) < k := by omega
        by_cases q3 : P.size ≤ 100
        · have j3 : ¬ (100 : Int) < P.size := by omega
          by_cases q4 : T.size ≤ 100
          · have j4 : ¬ (100 : Int) < T.size := by omega
            have HQ := Lib.hid (And.intro (HP.out.1.few hf) (And.intro HP.out.2.1 HP.out.2.2))
            have hn8 := (fewB_true hf).2
            have hn1 : n ≤ 1000 := by omega
            clear HP hf
            go_wp2_with fail
            go_loopw [11] (fun i wr => ∃ j : Nat, j ≤ k ∧ i = .int .i64 (j : Int) ∧ (∀ x ∈ ss.take j, x.size ≤ 100) ∧ wr = w0) (fun i _ => k - (intOf i).toNat)
            case atStart => exact ⟨0, by omega, rfl, by simp, rfl⟩
            case round =>
              obtain ⟨j, hj, rfl, hsm, rfl⟩ := hrel
              by_cases hlt : j < k
              · have HSM := Lib.hid hsm
                obtain ⟨b, off, rfl, hb, hc⟩ := HQ.out.2.2.2.2 (by omega)
                have hcj := hc j hlt
                have hst : ss.take (j + 1) = ss.take j ++ [ss.getD j ByteArray.empty] := by
                  have hl : j < ss.length := by rw [HQ.out.2.2.1]; exact hlt
                  rw [List.take_succ_eq_append_getElem hl, List.getD_eq_getElem?_getD, List.getElem?_eq_getElem hl]; rfl
                generalize ss.getD j ByteArray.empty = x at hcj hst
                have HS := Lib.hid hst
                have i1 : (0 : Int) ≤ j := by omega
                have i2 : (j : Int) < k := by omega
                clear hc hst hsm
                by_cases hx : x.size ≤ 100
                · have i3 : ¬ (100 : Int) < x.size := by omega
                  go_wp2_with fail
                  refine ⟨⟨j + 1, by omega, by go_num, ?_, trivial⟩, by simp [intOf]; omega⟩
                  intro y hy
                  rw [HS.out] at hy
                  rcases List.mem_append.1 hy with h | h
                  · exact HSM.out y h
                  · simp at h
                    subst h
                    exact hx
                · have i3 : (100 : Int) < x.size := by omega
                  go_wp2_with fail
                  refine (works_any _).mono ?_
                  rintro e w9 ⟨rfl, b9⟩
                  go_wp2_with fail
                  go_ret
                  exact ⟨rfl, b9⟩
              · obtain rfl : k = j := by omega
                rw [List.take_of_length_le (by rw [HQ.out.2.2.1]; omega)] at hsm
                obtain ⟨la, hla⟩ : ∃ la, rowL l ns ss = la := ⟨_, rfl⟩
                have hr := row_any n c m d k f B A A2 A3 l ns ss wr HQ.out.1 HQ.out.2.1 HQ.out.2.2 hB hn1 (by omega) (by omega)
                have ha1 := rowL_plain l ns ss HQ.out.2.1.2.1 hsm
                have ha3 := rowL_len l ns ss
                rw [hla] at hr ha1 ha3
                have HR := Lib.hid hr
                have HA := Lib.hid (And.intro ha1 ha3)
                have HLA := Lib.hid hla
                have HSM := Lib.hid hsm
                clear hr ha1 ha3 hla hsm
                go_wp2_with fail
                refine HR.out.mono ?_
                rintro e w2 ⟨Aa, ca, rfl, ho2, b2⟩
                have H2 := Lib.hid (And.intro b2 (Parts.of_own ho2 fun p hp => (HA.out.1 p hp).ok))
                clear b2 ho2 HR
                by_cases hmk : 1 < m ∧ 1 < k
                · have i1 : (1 : Int) < m := by omega
                  have i2 : (1 : Int) < k := by omega
                  have i3 : (1 : Int) ≤ m := by omega
                  have i4 : (1 : Int) ≤ k := by omega
                  have hd1 : (m : Int) ≤ d := by omega
                  have hf1 : (k : Int) ≤ f := by omega
                  have hd2 : (1 : Int) ≤ d := by omega
                  have hf2 : (1 : Int) ≤ f := by omega
                  have D0 : Below w2.heap.size w2 w2.drew := (Below.refl _ _).drew
                  have HC2 := Lib.hid (And.intro ((HQ.out.2.1.below H2.out.1 hB).cut (i := 1) (by omega) hmd) ((HQ.out.2.2.below H2.out.1 hB).cut (i := 1) (by omega) hkf))
                  have hB2 : B ≤ w2.heap.size := by have := H2.out.1.size; omega
                  obtain ⟨lb, hlb⟩ : ∃ lb, rowL l (ns.drop 1) (ss.drop 1) = lb := ⟨_, rfl⟩
                  have hr := row_any n c (m - 1) (d - 1) (k - 1) (f - 1) B A _ _ l (ns.drop 1) (ss.drop 1) w2.drew ((HQ.out.1.below H2.out.1 hB).below D0 hB2) (HC2.out.1.below D0 hB2) (HC2.out.2.below D0 hB2) hB2 hn1 (by omega) (by omega)
                  have hb1 := rowL_plain l (ns.drop 1) (ss.drop 1) (fun x hx => HQ.out.2.1.2.1 x (List.mem_of_mem_drop hx)) (fun x hx => HSM.out x (List.mem_of_mem_drop hx))
                  have hb2 := rowL_kinds l ns (ns.drop 1) ss (ss.drop 1)
                  have hb3 := rowL_len l (ns.drop 1) (ss.drop 1)
                  rw [hlb] at hr hb1 hb2 hb3
                  rw [HLA.out] at hb2
                  have HR := Lib.hid hr
                  have HLB := Lib.hid (And.intro hb1 (And.intro hb2 hb3))
                  clear hr hb1 hb2 hb3 hlb
                  go_wp2_with fail
                  go_region_held3 (fun _ => True) (trivial) (first | (go_at_call 28; (refine HR.out.mono ?_); rintro e w3 ⟨Ab, cb, rfl, ho3, b3'⟩; have b3 := D0.trans b3'; clear b3'))
                  clear HR
                  clear D0 HC2
                  have H3 := Lib.hid (And.intro (H2.out.1.trans (b3.mono H2.out.1.size)) (And.intro ((H2.out.2.below b3 (Nat.le_refl _)).more b3.size) (Parts.of_own ho3 fun p hp => (HLB.out.1 p hp).ok)))
                  clear b3 ho3 H2 HLA HSM
                  have HL := Lib.hid (And.intro HA.out.1 (And.intro HLB.out.1 HLB.out.2.1))
                  have hl9 : la.length ≤ 8 := by have := HA.out.2; have := HQ.out.1.1; omega
                  have hm9 : lb.length ≤ 8 := by have := HLB.out.2.2; have := HQ.out.1.1; omega
                  have hl8 : la.length ≤ 1000 := by omega
                  have hm8 : lb.length ≤ 1000 := by omega
                  clear HLB
                  go_wp2_with fail
                  refine (put_any la.length ca w3.heap.size Aa la w3 H3.out.2.1 (Nat.le_refl _) hl8).mono ?_
                  rintro e w4 ⟨X, rfl, hX, hsX, b4⟩
                  have C4 := Lib.hid b4
                  have HX := Lib.hid hX
                  clear b4 hX hsX
                  go_wp2_with fail
                  refine (put_any lb.length cb w3.heap.size Ab lb w4 (H3.out.2.2.below C4.out (Nat.le_refl _)) C4.out.size hm8).mono ?_
                  rintro e w5 ⟨Y, rfl, hY, hsY, b5⟩
                  have C5 := Lib.hid (below_next C4.out b5)
                  have HY := Lib.hid hY
                  clear b5 hY C4 hsY
                  have hord := plain_order HL.out.1 HL.out.2.1 HL.out.2.2 HX.out HY.out
                  have HO := Lib.hid hord
                  have hXs := plain_len HL.out.1 hl9 HX.out
                  have hYs := plain_len HL.out.2.1 hm9 HY.out
                  clear hord
                  go_wp2_with fail
                  refine (kinds_any la.length ca w3.heap.size Aa la w5 (H3.out.2.1.below C5.out (Nat.le_refl _)) C5.out.size hl8).mono ?_
                  rintro e w6 ⟨Ak, ck, rfl, hby, b6⟩
                  have C6 := Lib.hid (below_next C5.out b6)
                  have HBY := Lib.hid hby
                  clear b6 hby C5
                  have hkl : (kindsL la).length ≤ 1000 := by unfold kindsL; rw [List.length_map]; exact hl8
                  go_wp2_with fail
                  refine (parse_any X (kindsL la).length ck w6.heap.size Ak (kindsL la) w6 HBY.out (Nat.le_refl _) hXs hkl).mono ?_
                  intro e w7 h
                  rw [plain_parse HL.out.1 HX.out] at h
                  obtain ⟨lp, A7, c7, rfl, ht7, hp7, _, b7⟩ := h
                  obtain rfl : lp = la := tos_inj ht7
                  have C7 := Lib.hid (below_next C6.out b7)
                  have HP7 := Lib.hid hp7
                  clear b7 hp7 C6 ht7 HBY hkl
                  go_wp2_with fail
                  refine (ref_any lp.length ca w3.heap.size Aa lp w7 (H3.out.2.1.below C7.out (Nat.le_refl _)) C7.out.size hl8).mono ?_
                  rintro e w8 ⟨A8, c8, rfl, ho8, b8⟩
                  have C8 := Lib.hid (below_next C7.out b8)
                  have HP8 := Lib.hid (And.intro ((HP7.out.below b8 (Nat.le_refl _)).more b8.size) (Parts.of_own ho8 fun p hp => (HL.out.1 p hp).ok))
                  clear b8 ho8 C7 HP7
                  go_wp2_with fail
                  refine (same_true lp.length c7 c8 w8.heap.size A7 A8 lp w8 HP8.out.1 HP8.out.2 (Nat.le_refl _) hl8).mono ?_
                  rintro e w9 ⟨rfl, b9⟩
                  have C9 := Lib.hid (below_next C8.out b9)
                  clear b9 C8 HP8
                  go_wp2_with fail
                  refine (sign_any X Y w9).mono ?_
                  rintro e w9' ⟨rfl, rfl⟩
                  obtain ⟨R, hR⟩ : ∃ R, Ky.cmp (nums X) (nums Y) = R := ⟨_, rfl⟩
                  rw [hR]
                  have HR := Lib.hid hR
                  clear hR
                  go_wp2_with fail
                  refine (compare_any lp.length ca lb.length cb w3.heap.size Aa Ab lp lb w9' (H3.out.2.1.below C9.out (Nat.le_refl _)) (H3.out.2.2.below C9.out (Nat.le_refl _)) C9.out.size hl8 hm8).mono ?_
                  rintro e w10 ⟨rfl, b10⟩
                  rw [← HO.out.1, HR.out]
                  have CA := Lib.hid (H3.out.1.trans ((below_next C9.out b10).mono H3.out.1.size))
                  have HAP := Lib.hid HO.out.2
                  clear b10 C9 H3 HO HX HY HL HR HA
                  have hRR : (R != R) = false := by simp
                  by_cases hXY : X = Y
                  · subst hXY
                    have hXX : (X.toList == X.toList) = true := by simp
                    go_wp2_with fail
                    refine (after_any P w10 (by omega)).mono ?_
                    rintro e w11 ⟨N, rfl, hN, b11⟩
                    have CB := Lib.hid (below_next CA.out b11)
                    clear b11 CA
                    have hcase := begins_cases P T N hN
                    generalize (Ky.after (nums P)).isSome = ok at hcase ⊢
                    clear hN
                    rcases hcase with ⟨z1, z2, z3, z4⟩ | ⟨z1, z2⟩
                    · have z5 : (P.size : Int) ≤ T.size := by omega
                      have z0 : (0 : Int) ≤ P.size := by omega
                      rcases z4 with rfl | ⟨rfl, z6⟩
                      · go_wp2_with fail
                        refine (works_any w11).mono ?_
                        rintro e w12 ⟨rfl, b12⟩
                        have CC := Lib.hid (below_next CB.out b12)
                        clear b12 CB
                        go_wp2_with fail
                        go_ret
                        exact ⟨rfl, CC.out⟩
                      · go_wp2_with fail
                        refine (works_any w11).mono ?_
                        rintro e w12 ⟨rfl, b12⟩
                        have CC := Lib.hid (below_next CB.out b12)
                        clear b12 CB
                        go_wp2_with fail
                        go_ret
                        exact ⟨rfl, CC.out⟩
                    · rcases z1 with z1 | ⟨z1, z3⟩
                      · have z5 : ¬ (P.size : Int) ≤ T.size := by omega
                        rcases z2 with z2 | ⟨z2, rfl, z4⟩
                        · go_wp2_with fail
                          refine (works_any w11).mono ?_
                          rintro e w12 ⟨rfl, b12⟩
                          have CC := Lib.hid (below_next CB.out b12)
                          clear b12 CB
                          go_wp2_with fail
                          go_ret
                          exact ⟨rfl, CC.out⟩
                        · go_wp2_with fail
                          refine (works_any w11).mono ?_
                          rintro e w12 ⟨rfl, b12⟩
                          have CC := Lib.hid (below_next CB.out b12)
                          clear b12 CB
                          go_wp2_with fail
                          go_ret
                          exact ⟨rfl, CC.out⟩
                      · have z5 : (P.size : Int) ≤ T.size := by omega
                        have z0 : (0 : Int) ≤ P.size := by omega
                        rcases z2 with z2 | ⟨z2, rfl, z4⟩
                        · go_wp2_with fail
                          refine (works_any w11).mono ?_
                          rintro e w12 ⟨rfl, b12⟩
                          have CC := Lib.hid (below_next CB.out b12)
                          clear b12 CB
                          go_wp2_with fail
                          go_ret
                          exact ⟨rfl, CC.out⟩
                        · go_wp2_with fail
                          refine (works_any w11).mono ?_
                          rintro e w12 ⟨rfl, b12⟩
                          have CC := Lib.hid (below_next CB.out b12)
                          clear b12 CB
                          go_wp2_with fail
                          go_ret
                          exact ⟨rfl, CC.out⟩
                  · have hne := text_ne (a := X) (b := Y) (fun e => hXY (nums_inj e))
                    have hap := HAP.out.resolve_left hXY
                    have g1 := begin_cut hap.1
                    have g2 := begin_cut hap.2
                    clear hap
                    by_cases hs : X.size ≤ Y.size
                    · have s1 : (X.size : Int) ≤ Y.size := by omega
                      have s2 : ¬ (Y.size : Int) < X.size := by omega
                      have s3 : (0 : Int) ≤ X.size := by omega
                      clear g2
                      go_wp2_with fail
                      refine (after_any P w10 (by omega)).mono ?_
                      rintro e w11 ⟨N, rfl, hN, b11⟩
                      have CB := Lib.hid (below_next CA.out b11)
                      clear b11 CA
                      have hcase := begins_cases P T N hN
                      generalize (Ky.after (nums P)).isSome = ok at hcase ⊢
                      clear hN
                      rcases hcase with ⟨z1, z2, z3, z4⟩ | ⟨z1, z2⟩
                      · have z5 : (P.size : Int) ≤ T.size := by omega
                        have z0 : (0 : Int) ≤ P.size := by omega
                        rcases z4 with rfl | ⟨rfl, z6⟩
                        · go_wp2_with fail
                          refine (works_any w11).mono ?_
                          rintro e w12 ⟨rfl, b12⟩
                          have CC := Lib.hid (below_next CB.out b12)
                          clear b12 CB
                          go_wp2_with fail
                          go_ret
                          exact ⟨rfl, CC.out⟩
                        · go_wp2_with fail
                          refine (works_any w11).mono ?_
                          rintro e w12 ⟨rfl, b12⟩
                          have CC := Lib.hid (below_next CB.out b12)
                          clear b12 CB
                          go_wp2_with fail
                          go_ret
                          exact ⟨rfl, CC.out⟩
                      · rcases z1 with z1 | ⟨z1, z3⟩
                        · have z5 : ¬ (P.size : Int) ≤ T.size := by omega
                          rcases z2 with z2 | ⟨z2, rfl, z4⟩
                          · go_wp2_with fail
                            refine (works_any w11).mono ?_
                            rintro e w12 ⟨rfl, b12⟩
                            have CC := Lib.hid (below_next CB.out b12)
                            clear b12 CB
                            go_wp2_with fail
                            go_ret
                            exact ⟨rfl, CC.out⟩
                          · go_wp2_with fail
                            refine (works_any w11).mono ?_
                            rintro e w12 ⟨rfl, b12⟩
                            have CC := Lib.hid (below_next CB.out b12)
                            clear b12 CB
                            go_wp2_with fail
                            go_ret
                            exact ⟨rfl, CC.out⟩
                        · have z5 : (P.size : Int) ≤ T.size := by omega
                          have z0 : (0 : Int) ≤ P.size := by omega
                          rcases z2 with z2 | ⟨z2, rfl, z4⟩
                          · go_wp2_with fail
                            refine (works_any w11).mono ?_
                            rintro e w12 ⟨rfl, b12⟩
                            have CC := Lib.hid (below_next CB.out b12)
                            clear b12 CB
                            go_wp2_with fail
                            go_ret
                            exact ⟨rfl, CC.out⟩
                          · go_wp2_with fail
                            refine (works_any w11).mono ?_
                            rintro e w12 ⟨rfl, b12⟩
                            have CC := Lib.hid (below_next CB.out b12)
                            clear b12 CB
                            go_wp2_with fail
                            go_ret
                            exact ⟨rfl, CC.out⟩
                    · have s1 : ¬ (X.size : Int) ≤ Y.size := by omega
                      have s2 : (Y.size : Int) < X.size := by omega
                      have s4 : (Y.size : Int) ≤ X.size := by omega
                      have s3 : (0 : Int) ≤ Y.size := by omega
                      clear g1
                      go_wp2_with fail
                      refine (after_any P w10 (by omega)).mono ?_
                      rintro e w11 ⟨N, rfl, hN, b11⟩
                      have CB := Lib.hid (below_next CA.out b11)
                      clear b11 CA
                      have hcase := begins_cases P T N hN
                      generalize (Ky.after (nums P)).isSome = ok at hcase ⊢
                      clear hN
                      rcases hcase with ⟨z1, z2, z3, z4⟩ | ⟨z1, z2⟩
                      · have z5 : (P.size : Int) ≤ T.size := by omega
                        have z0 : (0 : Int) ≤ P.size := by omega
                        rcases z4 with rfl | ⟨rfl, z6⟩
                        · go_wp2_with fail
                          refine (works_any w11).mono ?_
                          rintro e w12 ⟨rfl, b12⟩
                          have CC := Lib.hid (below_next CB.out b12)
                          clear b12 CB
                          go_wp2_with fail
                          go_ret
                          exact ⟨rfl, CC.out⟩
                        · go_wp2_with fail
                          refine (works_any w11).mono ?_
                          rintro e w12 ⟨rfl, b12⟩
                          have CC := Lib.hid (below_next CB.out b12)
                          clear b12 CB
                          go_wp2_with fail
                          go_ret
                          exact ⟨rfl, CC.out⟩
                      · rcases z1 with z1 | ⟨z1, z3⟩
                        · have z5 : ¬ (P.size : Int) ≤ T.size := by omega
                          rcases z2 with z2 | ⟨z2, rfl, z4⟩
                          · go_wp2_with fail
                            refine (works_any w11).mono ?_
                            rintro e w12 ⟨rfl, b12⟩
                            have CC := Lib.hid (below_next CB.out b12)
                            clear b12 CB
                            go_wp2_with fail
                            go_ret
                            exact ⟨rfl, CC.out⟩
                          · go_wp2_with fail
                            refine (works_any w11).mono ?_
                            rintro e w12 ⟨rfl, b12⟩
                            have CC := Lib.hid (below_next CB.out b12)
                            clear b12 CB
                            go_wp2_with fail
                            go_ret
                            exact ⟨rfl, CC.out⟩
                        · have z5 : (P.size : Int) ≤ T.size := by omega
                          have z0 : (0 : Int) ≤ P.size := by omega
                          rcases z2 with z2 | ⟨z2, rfl, z4⟩
                          · go_wp2_with fail
                            refine (works_any w11).mono ?_
                            rintro e w12 ⟨rfl, b12⟩
                            have CC := Lib.hid (below_next CB.out b12)
                            clear b12 CB
                            go_wp2_with fail
                            go_ret
                            exact ⟨rfl, CC.out⟩
                          · go_wp2_with fail
                            refine (works_any w11).mono ?_
                            rintro e w12 ⟨rfl, b12⟩
                            have CC := Lib.hid (below_next CB.out b12)
                            clear b12 CB
                            go_wp2_with fail
                            go_ret
                            exact ⟨rfl, CC.out⟩
                · have i0 : ¬ ((1 : Int) < m ∧ (1 : Int) < k) := by omega
                  by_cases hm1 : 1 < m
                  · have i1 : (1 : Int) < m := by omega
                    have i2 : ¬ (1 : Int) < k := by omega
                    obtain ⟨lb, hlb⟩ : ∃ lb, rowL l [] [] = lb := ⟨_, rfl⟩
                    have hr := row_any n c 0 0 0 0 B A none none l [] [] w2 (HQ.out.1.below H2.out.1 hB) Ints.nil Strs.nil (by have := H2.out.1.size; omega) hn1 (by omega) (by omega)
                    have hb1 := rowL_plain l [] [] (by simp) (by simp)
                    have hb2 := rowL_kinds l ns [] ss []
                    have hb3 := rowL_len l [] []
                    rw [hlb] at hr hb1 hb2 hb3
                    rw [HLA.out] at hb2
                    have HR := Lib.hid hr
                    have HLB := Lib.hid (And.intro hb1 (And.intro hb2 hb3))
                    clear hr hb1 hb2 hb3 hlb
                    go_wp2_with fail
                    refine HR.out.mono ?_
                    rintro e w3 ⟨Ab, cb, rfl, ho3, b3⟩
                    clear HR
                    have H3 := Lib.hid (And.intro (H2.out.1.trans (b3.mono H2.out.1.size)) (And.intro ((H2.out.2.below b3 (Nat.le_refl _)).more b3.size) (Parts.of_own ho3 fun p hp => (HLB.out.1 p hp).ok)))
                    clear b3 ho3 H2 HLA HSM
                    have HL := Lib.hid (And.intro HA.out.1 (And.intro HLB.out.1 HLB.out.2.1))
                    have hl9 : la.length ≤ 8 := by have := HA.out.2; have := HQ.out.1.1; omega
                    have hm9 : lb.length ≤ 8 := by have := HLB.out.2.2; have := HQ.out.1.1; omega
                    have hl8 : la.length ≤ 1000 := by omega
                    have hm8 : lb.length ≤ 1000 := by omega
                    clear HLB
                    go_wp2_with fail
                    refine (put_any la.length ca w3.heap.size Aa la w3 H3.out.2.1 (Nat.le_refl _) hl8).mono ?_
                    rintro e w4 ⟨X, rfl, hX, hsX, b4⟩
                    have C4 := Lib.hid b4
                    have HX := Lib.hid hX
                    clear b4 hX hsX
                    go_wp2_with fail
                    refine (put_any lb.length cb w3.heap.size Ab lb w4 (H3.out.2.2.below C4.out (Nat.le_refl _)) C4.out.size hm8).mono ?_
                    rintro e w5 ⟨Y, rfl, hY, hsY, b5⟩
                    have C5 := Lib.hid (below_next C4.out b5)
                    have HY := Lib.hid hY
                    clear b5 hY C4 hsY
                    have hord := plain_order HL.out.1 HL.out.2.1 HL.out.2.2 HX.out HY.out
                    have HO := Lib.hid hord
                    have hXs := plain_len HL.out.1 hl9 HX.out
                    have hYs := plain_len HL.out.2.1 hm9 HY.out
                    clear hord
                    go_wp2_with fail
                    refine (kinds_any la.length ca w3.heap.size Aa la w5 (H3.out.2.1.below C5.out (Nat.le_refl _)) C5.out.size hl8).mono ?_
                    rintro e w6 ⟨Ak, ck, rfl, hby, b6⟩
                    have C6 := Lib.hid (below_next C5.out b6)
                    have HBY := Lib.hid hby
                    clear b6 hby C5
                    have hkl : (kindsL la).length ≤ 1000 := by unfold kindsL; rw [List.length_map]; exact hl8
                    go_wp2_with fail
                    refine (parse_any X (kindsL la).length ck w6.heap.size Ak (kindsL la) w6 HBY.out (Nat.le_refl _) hXs hkl).mono ?_
                    intro e w7 h
                    rw [plain_parse HL.out.1 HX.out] at h
                    obtain ⟨lp, A7, c7, rfl, ht7, hp7, _, b7⟩ := h
                    obtain rfl : lp = la := tos_inj ht7
                    have C7 := Lib.hid (below_next C6.out b7)
                    have HP7 := Lib.hid hp7
                    clear b7 hp7 C6 ht7 HBY hkl
                    go_wp2_with fail
                    refine (ref_any lp.length ca w3.heap.size Aa lp w7 (H3.out.2.1.below C7.out (Nat.le_refl _)) C7.out.size hl8).mono ?_
                    rintro e w8 ⟨A8, c8, rfl, ho8, b8⟩
                    have C8 := Lib.hid (below_next C7.out b8)
                    have HP8 := Lib.hid (And.intro ((HP7.out.below b8 (Nat.le_refl _)).more b8.size) (Parts.of_own ho8 fun p hp => (HL.out.1 p hp).ok))
                    clear b8 ho8 C7 HP7
                    go_wp2_with fail
                    refine (same_true lp.length c7 c8 w8.heap.size A7 A8 lp w8 HP8.out.1 HP8.out.2 (Nat.le_refl _) hl8).mono ?_
                    rintro e w9 ⟨rfl, b9⟩
                    have C9 := Lib.hid (below_next C8.out b9)
                    clear b9 C8 HP8
                    go_wp2_with fail
                    refine (sign_any X Y w9).mono ?_
                    rintro e w9' ⟨rfl, rfl⟩
                    obtain ⟨R, hR⟩ : ∃ R, Ky.cmp (nums X) (nums Y) = R := ⟨_, rfl⟩
                    rw [hR]
                    have HR := Lib.hid hR
                    clear hR
                    go_wp2_with fail
                    refine (compare_any lp.length ca lb.length cb w3.heap.size Aa Ab lp lb w9' (H3.out.2.1.below C9.out (Nat.le_refl _)) (H3.out.2.2.below C9.out (Nat.le_refl _)) C9.out.size hl8 hm8).mono ?_
                    rintro e w10 ⟨rfl, b10⟩
                    rw [← HO.out.1, HR.out]
                    have CA := Lib.hid (H3.out.1.trans ((below_next C9.out b10).mono H3.out.1.size))
                    have HAP := Lib.hid HO.out.2
                    clear b10 C9 H3 HO HX HY HL HR HA
                    have hRR : (R != R) = false := by simp
                    by_cases hXY : X = Y
                    · subst hXY
                      have hXX : (X.toList == X.toList) = true := by simp
                      go_wp2_with fail
                      refine (after_any P w10 (by omega)).mono ?_
                      rintro e w11 ⟨N, rfl, hN, b11⟩
                      have CB := Lib.hid (below_next CA.out b11)
                      clear b11 CA
                      have hcase := begins_cases P T N hN
                      generalize (Ky.after (nums P)).isSome = ok at hcase ⊢
                      clear hN
                      rcases hcase with ⟨z1, z2, z3, z4⟩ | ⟨z1, z2⟩
                      · have z5 : (P.size : Int) ≤ T.size := by omega
                        have z0 : (0 : Int) ≤ P.size := by omega
                        rcases z4 with rfl | ⟨rfl, z6⟩
                        · go_wp2_with fail
                          refine (works_any w11).mono ?_
                          rintro e w12 ⟨rfl, b12⟩
                          have CC := Lib.hid (below_next CB.out b12)
                          clear b12 CB
                          go_wp2_with fail
                          go_ret
                          exact ⟨rfl, CC.out⟩
                        · go_wp2_with fail
                          refine (works_any w11).mono ?_
                          rintro e w12 ⟨rfl, b12⟩
                          have CC := Lib.hid (below_next CB.out b12)
                          clear b12 CB
                          go_wp2_with fail
                          go_ret
                          exact ⟨rfl, CC.out⟩
                      · rcases z1 with z1 | ⟨z1, z3⟩
                        · have z5 : ¬ (P.size : Int) ≤ T.size := by omega
                          rcases z2 with z2 | ⟨z2, rfl, z4⟩
                          · go_wp2_with fail
                            refine (works_any w11).mono ?_
                            rintro e w12 ⟨rfl, b12⟩
                            have CC := Lib.hid (below_next CB.out b12)
                            clear b12 CB
                            go_wp2_with fail
                            go_ret
                            exact ⟨rfl, CC.out⟩
                          · go_wp2_with fail
                            refine (works_any w11).mono ?_
                            rintro e w12 ⟨rfl, b12⟩
                            have CC := Lib.hid (below_next CB.out b12)
                            clear b12 CB
                            go_wp2_with fail
                            go_ret
                            exact ⟨rfl, CC.out⟩
                        · have z5 : (P.size : Int) ≤ T.size := by omega
                          have z0 : (0 : Int) ≤ P.size := by omega
                          rcases z2 with z2 | ⟨z2, rfl, z4⟩
                          · go_wp2_with fail
                            refine (works_any w11).mono ?_
                            rintro e w12 ⟨rfl, b12⟩
                            have CC := Lib.hid (below_next CB.out b12)
                            clear b12 CB
                            go_wp2_with fail
                            go_ret
                            exact ⟨rfl, CC.out⟩
                          · go_wp2_with fail
                            refine (works_any w11).mono ?_
                            rintro e w12 ⟨rfl, b12⟩
                            have CC := Lib.hid (below_next CB.out b12)
                            clear b12 CB
                            go_wp2_with fail
                            go_ret
                            exact ⟨rfl, CC.out⟩
                    · have hne := text_ne (a := X) (b := Y) (fun e => hXY (nums_inj e))
                      have hap := HAP.out.resolve_left hXY
                      have g1 := begin_cut hap.1
                      have g2 := begin_cut hap.2
                      clear hap
                      by_cases hs : X.size ≤ Y.size
                      · have s1 : (X.size : Int) ≤ Y.size := by omega
                        have s2 : ¬ (Y.size : Int) < X.size := by omega
                        have s3 : (0 : Int) ≤ X.size := by omega
                        clear g2
                        go_wp2_with fail
                        refine (after_any P w10 (by omega)).mono ?_
                        rintro e w11 ⟨N, rfl, hN, b11⟩
                        have CB := Lib.hid (below_next CA.out b11)
                        clear b11 CA
                        have hcase := begins_cases P T N hN
                        generalize (Ky.after (nums P)).isSome = ok at hcase ⊢
                        clear hN
                        rcases hcase with ⟨z1, z2, z3, z4⟩ | ⟨z1, z2⟩
                        · have z5 : (P.size : Int) ≤ T.size := by omega
                          have z0 : (0 : Int) ≤ P.size := by omega
                          rcases z4 with rfl | ⟨rfl, z6⟩
                          · go_wp2_with fail
                            refine (works_any w11).mono ?_
                            rintro e w12 ⟨rfl, b12⟩
                            have CC := Lib.hid (below_next CB.out b12)
                            clear b12 CB
                            go_wp2_with fail
                            go_ret
                            exact ⟨rfl, CC.out⟩
                          · go_wp2_with fail
                            refine (works_any w11).mono ?_
                            rintro e w12 ⟨rfl, b12⟩
                            have CC := Lib.hid (below_next CB.out b12)
                            clear b12 CB
                            go_wp2_with fail
                            go_ret
                            exact ⟨rfl, CC.out⟩
                        · rcases z1 with z1 | ⟨z1, z3⟩
                          · have z5 : ¬ (P.size : Int) ≤ T.size := by omega
                            rcases z2 with z2 | ⟨z2, rfl, z4⟩
                            · go_wp2_with fail
                              refine (works_any w11).mono ?_
                              rintro e w12 ⟨rfl, b12⟩
                              have CC := Lib.hid (below_next CB.out b12)
                              clear b12 CB
                              go_wp2_with fail
                              go_ret
                              exact ⟨rfl, CC.out⟩
                            · go_wp2_with fail
                              refine (works_any w11).mono ?_
                              rintro e w12 ⟨rfl, b12⟩
                              have CC := Lib.hid (below_next CB.out b12)
                              clear b12 CB
                              go_wp2_with fail
                              go_ret
                              exact ⟨rfl, CC.out⟩
                          · have z5 : (P.size : Int) ≤ T.size := by omega
                            have z0 : (0 : Int) ≤ P.size := by omega
                            rcases z2 with z2 | ⟨z2, rfl, z4⟩
                            · go_wp2_with fail
                              refine (works_any w11).mono ?_
                              rintro e w12 ⟨rfl, b12⟩
                              have CC := Lib.hid (below_next CB.out b12)
                              clear b12 CB
                              go_wp2_with fail
                              go_ret
                              exact ⟨rfl, CC.out⟩
                            · go_wp2_with fail
                              refine (works_any w11).mono ?_
                              rintro e w12 ⟨rfl, b12⟩
                              have CC := Lib.hid (below_next CB.out b12)
                              clear b12 CB
                              go_wp2_with fail
                              go_ret
                              exact ⟨rfl, CC.out⟩
                      · have s1 : ¬ (X.size : Int) ≤ Y.size := by omega
                        have s2 : (Y.size : Int) < X.size := by omega
                        have s4 : (Y.size : Int) ≤ X.size := by omega
                        have s3 : (0 : Int) ≤ Y.size := by omega
                        clear g1
                        go_wp2_with fail
                        refine (after_any P w10 (by omega)).mono ?_
                        rintro e w11 ⟨N, rfl, hN, b11⟩
                        have CB := Lib.hid (below_next CA.out b11)
                        clear b11 CA
                        have hcase := begins_cases P T N hN
                        generalize (Ky.after (nums P)).isSome = ok at hcase ⊢
                        clear hN
                        rcases hcase with ⟨z1, z2, z3, z4⟩ | ⟨z1, z2⟩
                        · have z5 : (P.size : Int) ≤ T.size := by omega
                          have z0 : (0 : Int) ≤ P.size := by omega
                          rcases z4 with rfl | ⟨rfl, z6⟩
                          · go_wp2_with fail
                            refine (works_any w11).mono ?_
                            rintro e w12 ⟨rfl, b12⟩
                            have CC := Lib.hid (below_next CB.out b12)
                            clear b12 CB
                            go_wp2_with fail
                            go_ret
                            exact ⟨rfl, CC.out⟩
                          · go_wp2_with fail
                            refine (works_any w11).mono ?_
                            rintro e w12 ⟨rfl, b12⟩
                            have CC := Lib.hid (below_next CB.out b12)
                            clear b12 CB
                            go_wp2_with fail
                            go_ret
                            exact ⟨rfl, CC.out⟩
                        · rcases z1 with z1 | ⟨z1, z3⟩
                          · have z5 : ¬ (P.size : Int) ≤ T.size := by omega
                            rcases z2 with z2 | ⟨z2, rfl, z4⟩
                            · go_wp2_with fail
                              refine (works_any w11).mono ?_
                              rintro e w12 ⟨rfl, b12⟩
                              have CC := Lib.hid (below_next CB.out b12)
                              clear b12 CB
                              go_wp2_with fail
                              go_ret
                              exact ⟨rfl, CC.out⟩
                            · go_wp2_with fail
                              refine (works_any w11).mono ?_
                              rintro e w12 ⟨rfl, b12⟩
                              have CC := Lib.hid (below_next CB.out b12)
                              clear b12 CB
                              go_wp2_with fail
                              go_ret
                              exact ⟨rfl, CC.out⟩
                          · have z5 : (P.size : Int) ≤ T.size := by omega
                            have z0 : (0 : Int) ≤ P.size := by omega
                            rcases z2 with z2 | ⟨z2, rfl, z4⟩
                            · go_wp2_with fail
                              refine (works_any w11).mono ?_
                              rintro e w12 ⟨rfl, b12⟩
                              have CC := Lib.hid (below_next CB.out b12)
                              clear b12 CB
                              go_wp2_with fail
                              go_ret
                              exact ⟨rfl, CC.out⟩
                            · go_wp2_with fail
                              refine (works_any w11).mono ?_
                              rintro e w12 ⟨rfl, b12⟩
                              have CC := Lib.hid (below_next CB.out b12)
                              clear b12 CB
                              go_wp2_with fail
                              go_ret
                              exact ⟨rfl, CC.out⟩
                  · have i1 : ¬ (1 : Int) < m := by omega
                    obtain ⟨lb, hlb⟩ : ∃ lb, rowL l [] [] = lb := ⟨_, rfl⟩
                    have hr := row_any n c 0 0 0 0 B A none none l [] [] w2 (HQ.out.1.below H2.out.1 hB) Ints.nil Strs.nil (by have := H2.out.1.size; omega) hn1 (by omega) (by omega)
                    have hb1 := rowL_plain l [] [] (by simp) (by simp)
                    have hb2 := rowL_kinds l ns [] ss []
                    have hb3 := rowL_len l [] []
                    rw [hlb] at hr hb1 hb2 hb3
                    rw [HLA.out] at hb2
                    have HR := Lib.hid hr
                    have HLB := Lib.hid (And.intro hb1 (And.intro hb2 hb3))
                    clear hr hb1 hb2 hb3 hlb
                    go_wp2_with fail
                    refine HR.out.mono ?_
                    rintro e w3 ⟨Ab, cb, rfl, ho3, b3⟩
                    clear HR
                    have H3 := Lib.hid (And.intro (H2.out.1.trans (b3.mono H2.out.1.size)) (And.intro ((H2.out.2.below b3 (Nat.le_refl _)).more b3.size) (Parts.of_own ho3 fun p hp => (HLB.out.1 p hp).ok)))
                    clear b3 ho3 H2 HLA HSM
                    have HL := Lib.hid (And.intro HA.out.1 (And.intro HLB.out.1 HLB.out.2.1))
                    have hl9 : la.length ≤ 8 := by have := HA.out.2; have := HQ.out.1.1; omega
                    have hm9 : lb.length ≤ 8 := by have := HLB.out.2.2; have := HQ.out.1.1; omega
                    have hl8 : la.length ≤ 1000 := by omega
                    have hm8 : lb.length ≤ 1000 := by omega
                    clear HLB
                    go_wp2_with fail
                    refine (put_any la.length ca w3.heap.size Aa la w3 H3.out.2.1 (Nat.le_refl _) hl8).mono ?_
                    rintro e w4 ⟨X, rfl, hX, hsX, b4⟩
                    have C4 := Lib.hid b4
                    have HX := Lib.hid hX
                    clear b4 hX hsX
                    go_wp2_with fail
                    refine (put_any lb.length cb w3.heap.size Ab lb w4 (H3.out.2.2.below C4.out (Nat.le_refl _)) C4.out.size hm8).mono ?_
                    rintro e w5 ⟨Y, rfl, hY, hsY, b5⟩
                    have C5 := Lib.hid (below_next C4.out b5)
                    have HY := Lib.hid hY
                    clear b5 hY C4 hsY
                    have hord := plain_order HL.out.1 HL.out.2.1 HL.out.2.2 HX.out HY.out
                    have HO := Lib.hid hord
                    have hXs := plain_len HL.out.1 hl9 HX.out
                    have hYs := plain_len HL.out.2.1 hm9 HY.out
                    clear hord
                    go_wp2_with fail
                    refine (kinds_any la.length ca w3.heap.size Aa la w5 (H3.out.2.1.below C5.out (Nat.le_refl _)) C5.out.size hl8).mono ?_
                    rintro e w6 ⟨Ak, ck, rfl, hby, b6⟩
                    have C6 := Lib.hid (below_next C5.out b6)
                    have HBY := Lib.hid hby
                    clear b6 hby C5
                    have hkl : (kindsL la).length ≤ 1000 := by unfold kindsL; rw [List.length_map]; exact hl8
                    go_wp2_with fail
                    refine (parse_any X (kindsL la).length ck w6.heap.size Ak (kindsL la) w6 HBY.out (Nat.le_refl _) hXs hkl).mono ?_
                    intro e w7 h
                    rw [plain_parse HL.out.1 HX.out] at h
                    obtain ⟨lp, A7, c7, rfl, ht7, hp7, _, b7⟩ := h
                    obtain rfl : lp = la := tos_inj ht7
                    have C7 := Lib.hid (below_next C6.out b7)
                    have HP7 := Lib.hid hp7
                    clear b7 hp7 C6 ht7 HBY hkl
                    go_wp2_with fail
                    refine (ref_any lp.length ca w3.heap.size Aa lp w7 (H3.out.2.1.below C7.out (Nat.le_refl _)) C7.out.size hl8).mono ?_
                    rintro e w8 ⟨A8, c8, rfl, ho8, b8⟩
                    have C8 := Lib.hid (below_next C7.out b8)
                    have HP8 := Lib.hid (And.intro ((HP7.out.below b8 (Nat.le_refl _)).more b8.size) (Parts.of_own ho8 fun p hp => (HL.out.1 p hp).ok))
                    clear b8 ho8 C7 HP7
                    go_wp2_with fail
                    refine (same_true lp.length c7 c8 w8.heap.size A7 A8 lp w8 HP8.out.1 HP8.out.2 (Nat.le_refl _) hl8).mono ?_
                    rintro e w9 ⟨rfl, b9⟩
                    have C9 := Lib.hid (below_next C8.out b9)
                    clear b9 C8 HP8
                    go_wp2_with fail
                    refine (sign_any X Y w9).mono ?_
                    rintro e w9' ⟨rfl, rfl⟩
                    obtain ⟨R, hR⟩ : ∃ R, Ky.cmp (nums X) (nums Y) = R := ⟨_, rfl⟩
                    rw [hR]
                    have HR := Lib.hid hR
                    clear hR
                    go_wp2_with fail
                    refine (compare_any lp.length ca lb.length cb w3.heap.size Aa Ab lp lb w9' (H3.out.2.1.below C9.out (Nat.le_refl _)) (H3.out.2.2.below C9.out (Nat.le_refl _)) C9.out.size hl8 hm8).mono ?_
                    rintro e w10 ⟨rfl, b10⟩
                    rw [← HO.out.1, HR.out]
                    have CA := Lib.hid (H3.out.1.trans ((below_next C9.out b10).mono H3.out.1.size))
                    have HAP := Lib.hid HO.out.2
                    clear b10 C9 H3 HO HX HY HL HR HA
                    have hRR : (R != R) = false := by simp
                    by_cases hXY : X = Y
                    · subst hXY
                      have hXX : (X.toList == X.toList) = true := by simp
                      go_wp2_with fail
                      refine (after_any P w10 (by omega)).mono ?_
                      rintro e w11 ⟨N, rfl, hN, b11⟩
                      have CB := Lib.hid (below_next CA.out b11)
                      clear b11 CA
                      have hcase := begins_cases P T N hN
                      generalize (Ky.after (nums P)).isSome = ok at hcase ⊢
                      clear hN
                      rcases hcase with ⟨z1, z2, z3, z4⟩ | ⟨z1, z2⟩
                      · have z5 : (P.size : Int) ≤ T.size := by omega
                        have z0 : (0 : Int) ≤ P.size := by omega
                        rcases z4 with rfl | ⟨rfl, z6⟩
                        · go_wp2_with fail
                          refine (works_any w11).mono ?_
                          rintro e w12 ⟨rfl, b12⟩
                          have CC := Lib.hid (below_next CB.out b12)
                          clear b12 CB
                          go_wp2_with fail
                          go_ret
                          exact ⟨rfl, CC.out⟩
                        · go_wp2_with fail
                          refine (works_any w11).mono ?_
                          rintro e w12 ⟨rfl, b12⟩
                          have CC := Lib.hid (below_next CB.out b12)
                          clear b12 CB
                          go_wp2_with fail
                          go_ret
                          exact ⟨rfl, CC.out⟩
                      · rcases z1 with z1 | ⟨z1, z3⟩
                        · have z5 : ¬ (P.size : Int) ≤ T.size := by omega
                          rcases z2 with z2 | ⟨z2, rfl, z4⟩
                          · go_wp2_with fail
                            refine (works_any w11).mono ?_
                            rintro e w12 ⟨rfl, b12⟩
                            have CC := Lib.hid (below_next CB.out b12)
                            clear b12 CB
                            go_wp2_with fail
                            go_ret
                            exact ⟨rfl, CC.out⟩
                          · go_wp2_with fail
                            refine (works_any w11).mono ?_
                            rintro e w12 ⟨rfl, b12⟩
                            have CC := Lib.hid (below_next CB.out b12)
                            clear b12 CB
                            go_wp2_with fail
                            go_ret
                            exact ⟨rfl, CC.out⟩
                        · have z5 : (P.size : Int) ≤ T.size := by omega
                          have z0 : (0 : Int) ≤ P.size := by omega
                          rcases z2 with z2 | ⟨z2, rfl, z4⟩
                          · go_wp2_with fail
                            refine (works_any w11).mono ?_
                            rintro e w12 ⟨rfl, b12⟩
                            have CC := Lib.hid (below_next CB.out b12)
                            clear b12 CB
                            go_wp2_with fail
                            go_ret
                            exact ⟨rfl, CC.out⟩
                          · go_wp2_with fail
                            refine (works_any w11).mono ?_
                            rintro e w12 ⟨rfl, b12⟩
                            have CC := Lib.hid (below_next CB.out b12)
                            clear b12 CB
                            go_wp2_with fail
                            go_ret
                            exact ⟨rfl, CC.out⟩
                    · have hne := text_ne (a := X) (b := Y) (fun e => hXY (nums_inj e))
                      have hap := HAP.out.resolve_left hXY
                      have g1 := begin_cut hap.1
                      have g2 := begin_cut hap.2
                      clear hap
                      by_cases hs : X.size ≤ Y.size
                      · have s1 : (X.size : Int) ≤ Y.size := by omega
                        have s2 : ¬ (Y.size : Int) < X.size := by omega
                        have s3 : (0 : Int) ≤ X.size := by omega
                        clear g2
                        go_wp2_with fail
                        refine (after_any P w10 (by omega)).mono ?_
                        rintro e w11 ⟨N, rfl, hN, b11⟩
                        have CB := Lib.hid (below_next CA.out b11)
                        clear b11 CA
                        have hcase := begins_cases P T N hN
                        generalize (Ky.after (nums P)).isSome = ok at hcase ⊢
                        clear hN
                        rcases hcase with ⟨z1, z2, z3, z4⟩ | ⟨z1, z2⟩
                        · have z5 : (P.size : Int) ≤ T.size := by omega
                          have z0 : (0 : Int) ≤ P.size := by omega
                          rcases z4 with rfl | ⟨rfl, z6⟩
                          · go_wp2_with fail
                            refine (works_any w11).mono ?_
                            rintro e w12 ⟨rfl, b12⟩
                            have CC := Lib.hid (below_next CB.out b12)
                            clear b12 CB
                            go_wp2_with fail
                            go_ret
                            exact ⟨rfl, CC.out⟩
                          · go_wp2_with fail
                            refine (works_any w11).mono ?_
                            rintro e w12 ⟨rfl, b12⟩
                            have CC := Lib.hid (below_next CB.out b12)
                            clear b12 CB
                            go_wp2_with fail
                            go_ret
                            exact ⟨rfl, CC.out⟩
                        · rcases z1 with z1 | ⟨z1, z3⟩
                          · have z5 : ¬ (P.size : Int) ≤ T.size := by omega
                            rcases z2 with z2 | ⟨z2, rfl, z4⟩
                            · go_wp2_with fail
                              refine (works_any w11).mono ?_
                              rintro e w12 ⟨rfl, b12⟩
                              have CC := Lib.hid (below_next CB.out b12)
                              clear b12 CB
                              go_wp2_with fail
                              go_ret
                              exact ⟨rfl, CC.out⟩
                            · go_wp2_with fail
                              refine (works_any w11).mono ?_
                              rintro e w12 ⟨rfl, b12⟩
                              have CC := Lib.hid (below_next CB.out b12)
                              clear b12 CB
                              go_wp2_with fail
                              go_ret
                              exact ⟨rfl, CC.out⟩
                          · have z5 : (P.size : Int) ≤ T.size := by omega
                            have z0 : (0 : Int) ≤ P.size := by omega
                            rcases z2 with z2 | ⟨z2, rfl, z4⟩
                            · go_wp2_with fail
                              refine (works_any w11).mono ?_
                              rintro e w12 ⟨rfl, b12⟩
                              have CC := Lib.hid (below_next CB.out b12)
                              clear b12 CB
                              go_wp2_with fail
                              go_ret
                              exact ⟨rfl, CC.out⟩
                            · go_wp2_with fail
                              refine (works_any w11).mono ?_
                              rintro e w12 ⟨rfl, b12⟩
                              have CC := Lib.hid (below_next CB.out b12)
                              clear b12 CB
                              go_wp2_with fail
                              go_ret
                              exact ⟨rfl, CC.out⟩
                      · have s1 : ¬ (X.size : Int) ≤ Y.size := by omega
                        have s2 : (Y.size : Int) < X.size := by omega
                        have s4 : (Y.size : Int) ≤ X.size := by omega
                        have s3 : (0 : Int) ≤ Y.size := by omega
                        clear g1
                        go_wp2_with fail
                        refine (after_any P w10 (by omega)).mono ?_
                        rintro e w11 ⟨N, rfl, hN, b11⟩
                        have CB := Lib.hid (below_next CA.out b11)
                        clear b11 CA
                        have hcase := begins_cases P T N hN
                        generalize (Ky.after (nums P)).isSome = ok at hcase ⊢
                        clear hN
                        rcases hcase with ⟨z1, z2, z3, z4⟩ | ⟨z1, z2⟩
                        · have z5 : (P.size : Int) ≤ T.size := by omega
                          have z0 : (0 : Int) ≤ P.size := by omega
                          rcases z4 with rfl | ⟨rfl, z6⟩
                          · go_wp2_with fail
                            refine (works_any w11).mono ?_
                            rintro e w12 ⟨rfl, b12⟩
                            have CC := Lib.hid (below_next CB.out b12)
                            clear b12 CB
                            go_wp2_with fail
                            go_ret
                            exact ⟨rfl, CC.out⟩
                          · go_wp2_with fail
                            refine (works_any w11).mono ?_
                            rintro e w12 ⟨rfl, b12⟩
                            have CC := Lib.hid (below_next CB.out b12)
                            clear b12 CB
                            go_wp2_with fail
                            go_ret
                            exact ⟨rfl, CC.out⟩
                        · rcases z1 with z1 | ⟨z1, z3⟩
                          · have z5 : ¬ (P.size : Int) ≤ T.size := by omega
                            rcases z2 with z2 | ⟨z2, rfl, z4⟩
                            · go_wp2_with fail
                              refine (works_any w11).mono ?_
                              rintro e w12 ⟨rfl, b12⟩
                              have CC := Lib.hid (below_next CB.out b12)
                              clear b12 CB
                              go_wp2_with fail
                              go_ret
                              exact ⟨rfl, CC.out⟩
                            · go_wp2_with fail
                              refine (works_any w11).mono ?_
                              rintro e w12 ⟨rfl, b12⟩
                              have CC := Lib.hid (below_next CB.out b12)
                              clear b12 CB
                              go_wp2_with fail
                              go_ret
                              exact ⟨rfl, CC.out⟩
                          · have z5 : (P.size : Int) ≤ T.size := by omega
                            have z0 : (0 : Int) ≤ P.size := by omega
                            rcases z2 with z2 | ⟨z2, rfl, z4⟩
                            · go_wp2_with fail
                              refine (works_any w11).mono ?_
                              rintro e w12 ⟨rfl, b12⟩
                              have CC := Lib.hid (below_next CB.out b12)
                              clear b12 CB
                              go_wp2_with fail
                              go_ret
                              exact ⟨rfl, CC.out⟩
                            · go_wp2_with fail
                              refine (works_any w11).mono ?_
                              rintro e w12 ⟨rfl, b12⟩
                              have CC := Lib.hid (below_next CB.out b12)
                              clear b12 CB
                              go_wp2_with fail
                              go_ret
                              exact ⟨rfl, CC.out⟩
          · have j4 : (100 : Int) < T.size := by omega
            go_wp2_with fail
            refine (works_any _).mono ?_
            rintro e w9 ⟨rfl, b9⟩
            go_wp2_with fail
            go_ret
            exact ⟨rfl, b9⟩
        · have j3 : (100 : Int) < P.size := by omega
          go_wp2_with fail
          refine (works_any _).mono ?_
          rintro e w9 ⟨rfl, b9⟩
          go_wp2_with fail
          go_ret
          exact ⟨rfl, b9⟩
      · have j2 : (12 : Int) < k := by omega
        go_wp2_with fail
        refine (works_any _).mono ?_
        rintro e w9 ⟨rfl, b9⟩
        go_wp2_with fail
        go_ret
        exact ⟨rfl, b9⟩
    · have j1 : (12 : Int) < m := by omega
      go_wp2_with fail
      refine (works_any _).mono ?_
      rintro e w9 ⟨rfl, b9⟩
      go_wp2_with fail
      go_ret
      exact ⟨rfl, b9⟩
  · rw [Bool.eq_false_iff.2 hf]
    go_wp2_with fail
    refine (works_any _).mono ?_
    rintro e w9 ⟨rfl, b9⟩
    go_wp2_with fail
    go_ret
    exact ⟨rfl, b9⟩
end Go.Proofs.Ytbafbhnnonfkpaa
