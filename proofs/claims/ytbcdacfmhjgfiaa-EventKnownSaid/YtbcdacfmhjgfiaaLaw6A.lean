/- EventPuts, walked: the operations' copies, first. -/
import Derived.Test.YtbcdacfmhjgfiaaEvWk
import Derived.Test.YtbcdacfmhjgfiaaRefEvC
import Derived.Test.YtbcdacfmhjgfiaaKit
namespace Go.Proofs.Ytbcdacfmhjgfiaa
open Go.ChangeShapes Go.WideShapes Go.ChangeAt Go.RowKit

set_option maxHeartbeats 400000 in
theorem ref_any (k : Int) (s : ByteArray) (t v : Int) (w : World) : Calls Try.prog 8 #[opV k s t v] w (OpP w (opV k s t v)) := by
  have hb : ∀ o o', Below w.heap.size w ((w.alloc o).alloc o') := fun o o' => ((Below.refl _ _).alloc (Nat.le_refl _) _).alloc (by simp) _
  have HB := Lib.hid hb
  clear hb
  go_enter Try.func8, Try.ntmps8
  go_wp2_with fail
  refine bodyPost_ret (v := opV k s t v) ?_ rfl ⟨rfl, ?_⟩
  · simp [results, Try.results8, go_sem]
  · exact HB.out _ _
theorem own_dr {w : World} {B e s n : Nat} {v : Value} {xs : List Value} (h : w.ownsRow B e s v n xs) (k : Nat) : (w.drewN k).ownsRow B e s v n xs := h
def LawP (w : World) (e : Ending) (w' : World) : Prop := e = .returned (.bool true) ∧ Below w.heap.size w w'
theorem spoil_below {B b n c : Nat} {w w1 w2 : World} {A : Option Addr} {e : TypeId} {xs : List Value} (h : Below B w w1) (ho : w1.ownsRow b e 1 (.slice A n c) n xs) (hB : B ≤ b) (hs : B ≤ w1.heap.size) (hg : w1.grownBy w2 (Value.slice A n c).ownBlock) : Below B w w2 :=
  h.grown hg hs (fun k hk => by have := (ho.lt k hk).1; omega)
set_option maxRecDepth 100000 in
set_option maxHeartbeats 4000000 in
theorem eventPuts_any (n c B : Nat) (A : Option Addr) (l : List Evo) (w : World) (h : EvIn w B A n l) (hB : B ≤ w.heap.size) (hn : n ≤ 9223372036854775807) :
    Calls Try.prog 3 #[.slice A n c] w (LawP w) := by
  obtain ⟨i0, hi, hz0, hz1, hz2⟩ := info_parts Try.info27
  have HI := Lib.hid (And.intro hi (And.intro hz0 (And.intro hz1 hz2)))
  have HP := Lib.hid (And.intro h hB)
  clear hi hz0 hz1 hz2 h hB
  go_enter Try.func3, Try.ntmps3
  by_cases h20 : 20 < n
  · have i20 : (20 : Int) < n := by omega
    go_wp2_with fail
    refine (works_any _).mono ?_
    rintro e w1 ⟨rfl, b1⟩
    have HB1 := Lib.hid b1
    clear b1
    go_wp2_with fail
    go_ret
    exact ⟨rfl, HB1.out⟩
  · have i20 : ¬ (20 : Int) < n := by omega
    go_wp2_with fail
    go_loopw [3, 4] (fun r i wr => ∃ j : Nat, j ≤ n ∧ i = .int .i64 (j : Int) ∧ wr.ownsRow w.heap.size 27 4 r j (ecells (l.take j)) ∧ Below w.heap.size w wr) (fun _ i _ => n - (intOf i).toNat)
    case atStart => exact ⟨0, by omega, rfl, own_nil _ _ _ _, Below.refl _ _⟩
    case round =>
      obtain ⟨j, hj, rfl, hown, hbel⟩ := hrel
      have HO := Lib.hid (And.intro hown hbel)
      clear hown
      by_cases hlt : j < n
      · obtain ⟨b, off, rfl, hb, hc⟩ := HP.out.1.at_ hlt
        obtain ⟨o, ho⟩ : ∃ o, l.getD j default = o := ⟨_, rfl⟩
        obtain ⟨c0, c1, c2, c3⟩ := hc o ho
        have hz : b < w.heap.size := by have := HP.out.2; omega
        have d0 := (hbel.cell (p := ⟨b, _, none⟩) hz).trans c0
        have d1 := (hbel.cell (p := ⟨b, _, none⟩) hz).trans c1
        have d2 := (hbel.cell (p := ⟨b, _, none⟩) hz).trans c2
        have d3 := (hbel.cell (p := ⟨b, _, none⟩) hz).trans c3
        have hst := esnoc_at l j (by rw [HP.out.1.1]; exact hlt)
        rw [ho] at hst
        have HS := Lib.hid hst
        have i1 : (0 : Int) ≤ j := by omega
        have i2 : (j : Int) < n := by omega
        clear hc c0 c1 c2 c3 hst ho hbel
        by_cases h300 : 300 < o.s.size
        · have i300 : (300 : Int) < o.s.size := by omega
          go_wp2_with fail
          refine (works_any _).mono ?_
          rintro e w1 ⟨rfl, b1⟩
          have HB1 := Lib.hid (below_next HO.out.2 b1)
          clear b1
          go_wp2_with fail
          go_ret
          exact ⟨rfl, HB1.out⟩
        · have i300 : ¬ (300 : Int) < o.s.size := by omega
          go_wp2_with fail
          clear d0 d1 d2 d3
          refine (ref_any (o.k : Int) o.s o.t o.v _).mono ?_
          rintro e w1 ⟨rfl, b1⟩
          have HB1 := Lib.hid (And.intro (below_next HO.out.2 b1) (own_below HO.out.1 b1))
          have HL4 := Lib.hid (ecells4 w1 27 o)
          have hz1 : w.heap.size ≤ w1.heap.size := HB1.out.1.size
          clear b1
          go_wp2_with (at_builtin; refine wpList_append_own _ rfl _ _ 24 rfl w.heap.size 27 i0 (.agg #[.int .u8 0, .string ⟨#[]⟩, .int .i64 0, .int .i64 0]) 4 40 Try.underlying24 HI.out.1 HI.out.2.1 HI.out.2.2.1 HI.out.2.2.2 rfl (by decide) _ j _ rfl (HB1.out.2.alloc _) ⟨w1.heap.size, 0, none⟩ 1 1 [.int .u8 (o.k : Int), .string o.s, .int .i64 o.t, .int .i64 o.v] rfl rfl HL4.out (by simp [Value.oneCell']) (by unfold maxLen; omega) (by omega) (by simp; omega) ?_; intro v' w2 hown hgrow _)
          have hb2 := grow_below HB1.out.1 hgrow (fun k hk => (HB1.out.2.lt k hk).1)
          refine ⟨⟨j + 1, by omega, by go_num, ?_, hb2⟩, by simp [intOf]; omega⟩
          rw [HS.out, ecells_snoc]
          exact hown
      · obtain rfl : n = j := by omega
        obtain ⟨A3, c3, rfl⟩ := own_slice HO.out.1
        have hfull := HO.out.1
        rw [List.take_of_length_le (by rw [HP.out.1.1]; omega)] at hfull
        have hin := EvIn.of_own hfull
        have HR := Lib.hid (And.intro hin HO.out.2)
        clear hfull hin hbel
        go_wp2_with fail
        refine (refPutAll6_any n c3 _ A3 l wr HR.out.1 (Nat.le_refl _) (by omega)).mono ?_
        rintro e w2 ⟨A5, c5, rfl, ho5, b2⟩
        have hfb : (Ev.allB l).length ≤ 2000 := by
          unfold Ev.allB
          split
          · rename_i hE
            have := Ev.flat_len ((Ev.allE_zero l).1 hE)
            rw [HP.out.1.1] at this
            omega
          · simp
        have hlt256 : ∀ x ∈ Ev.allB l, x < 256 := by
          unfold Ev.allB
          split
          · rename_i hE
            intro x hx
            unfold Ev.flat at hx
            obtain ⟨o, ho, hx⟩ := List.mem_flatMap.1 hx
            exact Ev.enc_lt ((Ev.allE_zero l).1 hE o ho) x hx
          · simp
        have D2 := Lib.hid (And.intro (below_next HR.out.2 b2) (And.intro (Bytes.of_own ho5 hlt256) (And.intro (HR.out.1.below b2 (Nat.le_refl _)) (HP.out.1.below (below_next HR.out.2 b2) HP.out.2))))
        obtain ⟨L, hL⟩ : ∃ L, Ev.allB l = L := ⟨_, rfl⟩
        obtain ⟨E, hE⟩ : ∃ E, Ev.allE l = E := ⟨_, rfl⟩
        rw [hL] at hfb hlt256 D2 ⊢
        rw [hE]
        have HLE := Lib.hid (And.intro hL hE)
        have HR2 := Lib.hid b2.size
        have H256 := Lib.hid hlt256
        obtain ⟨m, hm⟩ : ∃ m, L.length = m := ⟨_, rfl⟩
        rw [hm] at D2 hfb ⊢
        have HM := Lib.hid hm
        clear ho5 b2 hL hE hlt256 hm
        go_wp2_with fail
        go_loopw [7] (fun t wx => ∃ k : Nat, k ≤ 2 ∧ t = .int .i64 (k : Int) ∧ Below w2.heap.size w2 wx) (fun t _ => 2 - (intOf t).toNat)
        case atStart => exact ⟨0, by omega, rfl, Below.refl _ _⟩
        case round =>
          obtain ⟨k, hk, rfl, hx⟩ := hrel
          have HX := Lib.hid hx
          clear hx
          by_cases hk2 : k < 2
          · have i1 : (k : Int) < 2 := by omega
            go_wp2_with fail
            refine (pPutAll_any n c _ A l wr (D2.out.2.2.2.below HX.out (Nat.le_trans HP.out.2 D2.out.1.size)) (Nat.le_trans HP.out.2 (Nat.le_trans D2.out.1.size HX.out.size)) (by omega)).mono ?_
            rintro e w3 ⟨A6, c6, rfl, ho6, b6⟩
            rw [HLE.out.1, HM.out] at ho6
            rw [HLE.out.1, HLE.out.2, HM.out]
            have H3 := Lib.hid (below_next HX.out b6)
            have HO6 := Lib.hid (own_lower ho6 HX.out.size)
            clear ho6 b6
            go_wp2_with fail
            refine (same_yes m c6 m c5 w3.heap.size A6 A5 L w3 (Bytes.of_own HO6.out H256.out) ((D2.out.2.1.below H3.out (Nat.le_refl _)).more H3.out.size) (by omega)).mono ?_
            rintro e w4 ⟨rfl, m4, rfl⟩
            go_wp2_with fail
            refine (spoil_any w2.heap.size m c6 A6 (u8s L) _ (own_dr HO6.out m4) (by omega)).mono ?_
            rintro e w5 ⟨rfl, hg5⟩
            have H5 := Lib.hid (spoil_below (below_drewN H3.out m4) (own_dr HO6.out m4) (Nat.le_refl _) H3.out.size hg5)
            clear hg5
            go_wp2_with fail
            go_loopw [10] (fun i wx => ∃ j : Nat, j ≤ n ∧ i = .int .i64 (j : Int) ∧ Below w2.heap.size w2 wx) (fun i _ => n - (intOf i).toNat)
            case atStart => exact ⟨0, by omega, rfl, H5.out⟩
            case round =>
              obtain ⟨j, hj, rfl, hx⟩ := hrel
              have HY := Lib.hid hx
              clear hx H5 H3 HO6 HX
              by_cases hjn : j < n
              · obtain ⟨b, off, rfl, hb, hc⟩ := D2.out.2.2.2.at_ hjn
                obtain ⟨b', off', rfl, hb', hc'⟩ := D2.out.2.2.1.at_ hjn
                obtain ⟨o, ho⟩ : ∃ o, l.getD j default = o := ⟨_, rfl⟩
                have cx := hc o ho
                have cy := hc' o ho
                have hz : b < w2.heap.size := by have := HP.out.2; have := D2.out.1.size; omega
                have hz' : b' < w2.heap.size := Nat.lt_of_lt_of_le hb' (by have := HR2.out; omega)
                have P : Hid (∀ W, Below w2.heap.size w2 W → (W.cell? ⟨b, off + j * 4, none⟩ = some (.int .u8 (o.k : Int)) ∧ W.cell? ⟨b, off + j * 4 + 1, none⟩ = some (.string o.s) ∧ W.cell? ⟨b, off + j * 4 + 2, none⟩ = some (.int .i64 o.t) ∧ W.cell? ⟨b, off + j * 4 + 3, none⟩ = some (.int .i64 o.v)) ∧ W.cell? ⟨b', off' + j * 4, none⟩ = some (.int .u8 (o.k : Int)) ∧ W.cell? ⟨b', off' + j * 4 + 1, none⟩ = some (.string o.s) ∧ W.cell? ⟨b', off' + j * 4 + 2, none⟩ = some (.int .i64 o.t) ∧ W.cell? ⟨b', off' + j * 4 + 3, none⟩ = some (.int .i64 o.v)) := Lib.hid fun W hW =>
                  ⟨⟨(hW.cell (p := ⟨b, _, none⟩) hz).trans cx.1, (hW.cell (p := ⟨b, _, none⟩) hz).trans cx.2.1, (hW.cell (p := ⟨b, _, none⟩) hz).trans cx.2.2.1, (hW.cell (p := ⟨b, _, none⟩) hz).trans cx.2.2.2⟩, (hW.cell (p := ⟨b', _, none⟩) hz').trans cy.1, (hW.cell (p := ⟨b', _, none⟩) hz').trans cy.2.1, (hW.cell (p := ⟨b', _, none⟩) hz').trans cy.2.2.1, (hW.cell (p := ⟨b', _, none⟩) hz').trans cy.2.2.2⟩
                have i1 : (0 : Int) ≤ j := by omega
                have i2 : (j : Int) < n := by omega
                clear hc hc' cx cy ho
                obtain ⟨⟨x0, x1, x2, x3⟩, y0, y1, y2, y3⟩ := P.out wr HY.out
                go_wp2_with fail
                clear x0 x1 x2 x3 y0 y1 y2 y3
                refine (pPut6_any o wr).mono ?_
                rintro e v1 ⟨Aa, ca, rfl, oa, ba⟩
                have G1 := Lib.hid (below_next HY.out ba)
                have OA := Lib.hid (own_lower oa HY.out.size)
                clear oa ba
                obtain ⟨⟨x0, x1, x2, x3⟩, y0, y1, y2, y3⟩ := P.out v1 G1.out
                go_wp2_with fail
                clear x0 x1 x2 x3 y0 y1 y2 y3
                refine (refPut6_any o v1).mono ?_
                rintro e v2 ⟨Ac, cc, rfl, oc, bc⟩
                have G2 := Lib.hid (below_next G1.out bc)
                have OA2 := Lib.hid (own_below OA.out bc)
                have OC := Lib.hid (own_lower oc G1.out.size)
                clear oc bc OA
                have hb9 : (Ev.bytes o).length ≤ 100 ∧ ∀ x ∈ Ev.bytes o, x < 256 := by
                  unfold Ev.bytes
                  split
                  · rename_i hE
                    have := Ev.enc_len hE
                    exact ⟨by omega, Ev.enc_lt hE⟩
                  · simp
                obtain ⟨K, hK⟩ : ∃ K, Ev.bytes o = K := ⟨_, rfl⟩
                obtain ⟨r0, hr0⟩ : ∃ r, Ev.right o = r := ⟨_, rfl⟩
                obtain ⟨q, hq⟩ : ∃ q, K.length = q := ⟨_, rfl⟩
                have HC1 := fun W => pRight6_any o W
                have HC2 := fun W => refRight6_any o W
                rw [hr0] at HC1 HC2
                rw [hK] at hb9 OA2 OC
                rw [hq] at hb9 OA2 OC
                rw [hK, hr0, hq]
                have HB9 := Lib.hid hb9
                have HC1' := Lib.hid HC1
                have HC2' := Lib.hid HC2
                clear hK hr0 hq hb9 HC1 HC2
                have HSB := Lib.hid (fun (W : World) (hW : Below v2.heap.size v2 W) => same_yes q ca q cc v2.heap.size Aa Ac K W ((Bytes.of_own OA2.out HB9.out.2).below hW (Nat.le_refl _)) ((Bytes.of_own OC.out HB9.out.2).below hW (Nat.le_refl _)) (by have := HB9.out.1; omega) |>.mono fun e w' h => (show e = .returned (.bool true) ∧ Below W.heap.size W w' from ⟨h.1, by obtain ⟨-, m, rfl⟩ := h; exact below_drewN (Below.refl _ _) m⟩))
                have E0 : Hid (Below v2.heap.size v2 v2.drew) := Lib.hid (Below.refl _ _).drew
                have F0 := Lib.hid (G2.out.trans (E0.out.mono G2.out.size))
                go_upto_region 23 with (fail)
                go_wp2_with fail
                go_region_held3 (fun W => (W.cell? ⟨b, off + j * 4, none⟩ = some (.int .u8 (o.k : Int)) ∧ W.cell? ⟨b, off + j * 4 + 1, none⟩ = some (.string o.s) ∧ W.cell? ⟨b, off + j * 4 + 2, none⟩ = some (.int .i64 o.t) ∧ W.cell? ⟨b, off + j * 4 + 3, none⟩ = some (.int .i64 o.v)) ∧ W.cell? ⟨b', off' + j * 4, none⟩ = some (.int .u8 (o.k : Int)) ∧ W.cell? ⟨b', off' + j * 4 + 1, none⟩ = some (.string o.s) ∧ W.cell? ⟨b', off' + j * 4 + 2, none⟩ = some (.int .i64 o.t) ∧ W.cell? ⟨b', off' + j * 4 + 3, none⟩ = some (.int .i64 o.v)) (first | with_reducible exact P.out _ F0.out | with_reducible exact P.out _ F1.out | with_reducible exact P.out _ F2.out | with_reducible exact P.out _ F3.out | fail) (first
                  | (go_at_call 11; (with_reducible refine (HSB.out _ E0.out).mono ?_); rintro e V1 ⟨rfl, bb⟩; have E1 := Lib.hid (below_next E0.out bb); have F1 := Lib.hid (G2.out.trans (E1.out.mono G2.out.size)); clear bb)
                  | (go_at_call 15; (with_reducible refine (HC1'.out _).mono ?_); rintro e V2 ⟨rfl, bb⟩; have E2 := Lib.hid (below_next E1.out bb); have F2 := Lib.hid (G2.out.trans (E2.out.mono G2.out.size)); clear bb)
                  | (go_at_call 16; (with_reducible refine (HC2'.out _).mono ?_); rintro e V3 ⟨rfl, bb⟩; have E3 := Lib.hid (below_next E2.out bb); have F3 := Lib.hid (G2.out.trans (E3.out.mono G2.out.size)); clear bb))
                go_wp2_with fail
                refine (spoil_any w2.heap.size q ca Aa (u8s K) V3 (own_below OA2.out E3.out) (by have := HB9.out.1; omega)).mono ?_
                rintro e v5 ⟨rfl, hg5⟩
                have H6 := Lib.hid (spoil_below F3.out (own_below OA2.out E3.out) (Nat.le_refl _) F3.out.size hg5)
                clear hg5
                go_wp2_with fail
                exact ⟨⟨j + 1, by omega, by go_num, H6.out⟩, by simp [intOf]; omega⟩
              · have i2 : ¬ (j : Int) < n := by omega
                go_wp2_with fail
                exact ⟨⟨k + 1, by omega, by go_num, HY.out⟩, by simp [intOf]; omega⟩
          · have i1 : ¬ (k : Int) < 2 := by omega
            go_wp2_with fail
            refine (works_any _).mono ?_
            rintro e w3 ⟨rfl, b3⟩
            have HB3 := Lib.hid (D2.out.1.trans ((below_next HX.out b3).mono D2.out.1.size))
            clear b3
            go_wp2_with fail
            go_ret
            exact ⟨rfl, HB3.out⟩
end Go.Proofs.Ytbcdacfmhjgfiaa
