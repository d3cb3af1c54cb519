/- Layer 8's reference: a reply's rows, packed. -/
import Derived.Test.YtbdalpfpkofmlaaRpL
import Derived.Test.YtbdalpfpkofmlaaRpQ
namespace Go.Proofs.Ytbdalpfpkofmlaa
open Go.ChangeShapes Go.WideShapes Go.ChangeAt Go.RowKit

theorem rows_four8 {w : World} {B c1 c2 c3 c4 : Nat} {a1 a2 a3 a4 : Option Addr} {l1 l2 l3 l4 : List Nat} {t : TypeId} (h1 : Bytes w B a1 8 l1) (h2 : Bytes w B a2 8 l2) (h3 : Bytes w B a3 8 l3) (h4 : Bytes w B a4 8 l4) (hB : B ≤ w.heap.size) :
    RowsOf (w.alloc (.cells #[.slice a1 8 c1, .slice a2 8 c2, .slice a3 8 c3, .slice a4 8 c4] t)) (w.heap.size + 1) (some ⟨w.heap.size, 0, none⟩) 4 [l1, l2, l3, l4] := by
  have hk := Blk.new w t #[.slice a1 8 c1, .slice a2 8 c2, .slice a3 8 c3, .slice a4 8 c4]
  refine ⟨rfl, fun _ => ⟨w.heap.size, 0, rfl, by omega, fun i hi => ?_⟩⟩
  match i, hi with
  | 0, _ => exact ⟨a1, 8, c1, hk.cell 0, by omega, (h1.alloc hB _).more (by omega)⟩
  | 1, _ => exact ⟨a2, 8, c2, hk.cell 1, by omega, (h2.alloc hB _).more (by omega)⟩
  | 2, _ => exact ⟨a3, 8, c3, hk.cell 2, by omega, (h3.alloc hB _).more (by omega)⟩
  | 3, _ => exact ⟨a4, 8, c4, hk.cell 3, by omega, (h4.alloc hB _).more (by omega)⟩
theorem refJoin_agg (a : Ag.A) (c B : Nat) (A : Option Addr) (w : World) (hr : RowsOf w B A 4 [Pk.be 8 (Rp.u a.c), Pk.be 8 (Rp.u a.s), Pk.be 8 (Rp.u a.lo), Pk.be 8 (Rp.u a.hi)]) (hB : B ≤ w.heap.size) :
    Calls Try.prog 60 #[.slice A 4 c] w (OwnPost w 32 (Rp.agg a)) := by
  have e : [Pk.be 8 (Rp.u a.c), Pk.be 8 (Rp.u a.s), Pk.be 8 (Rp.u a.lo), Pk.be 8 (Rp.u a.hi)].flatten = Rp.agg a := by simp [Rp.agg]
  have h := refJoin_any 4 c B A _ w hr hB (by omega) (by rw [e, Rp.agg_len]; omega)
  rw [e, Rp.agg_len] at h
  exact h
theorem own_bytes8 {w : World} {base n c : Nat} {A : Option Addr} {l : List Nat} {e : TypeId} (h : w.ownsRow base e 1 (.slice A n c) n (u8s l)) (hl : ∀ x ∈ l, x < 256) {w' : World} (hb : Below w.heap.size w w') : Bytes w' w'.heap.size A n l := ((Bytes.of_own h hl).below hb (Nat.le_refl _)).more hb.size
set_option maxRecDepth 100000 in
set_option maxHeartbeats 8000000 in
theorem refPart8_rows (x : Rp.V) (rows : List Rw) (gone : List Pn) (B : Nat) (w : World) (hx : x.In w B rows gone) (hB : B ≤ w.heap.size) (hm : x.n ≤ 1000) (hk : ∀ r ∈ rows, r.p.k.size ≤ 60000) : Calls Try.prog 31 #[x.val, .int .u8 114] w (OwnPost w (x.part rows gone 114).length (x.part rows gone 114)) := by
  obtain ⟨iu, hu, hu0, hu1, hu2⟩ := info_parts Try.info5
  have HU := Lib.hid (And.intro hu (And.intro hu0 (And.intro hu1 hu2)))
  clear hu hu0 hu1 hu2
  have S0 := (Held.start w).new x.cells 34
  have RC : Hid (∀ W, Held w W [(w.heap.size, 34, x.cells)] → RepCells W w.heap.size x) := Lib.hid fun W hW => (rep_cells hW.top).1
  have e1 : x.part rows gone 114 = x.n % 256 :: rows.flatMap Rp.row := rfl
  rw [e1]
  have HS := Lib.hid S0
  have HP := Lib.hid (And.intro hx.1 (And.intro hB hk))
  have hlen := hx.1.1
  have hq := u8_wrap8 x.n
  clear e1 S0 hx hB hk
  obtain ⟨k, id, code, last, ep, fl, un, le, st, ti, A, n, c0, G, m, d⟩ := x
  unfold Rp.V.val RepCells at *
  unfold Rp.V.cells at *
  dsimp only at *
  have S1 := Lib.hid ((HS.out.step ((Below.refl _ _).alloc (Nat.le_refl _) (.cells #[.int .u8 ((n % 256 : Nat) : Int)] 5))))
  have O1 := Lib.hid (own_one8 (w := (w.alloc (.cells #[.int .u8 (k : Int), .int .u32 (id : Int), .int .u16 (code : Int), .bool last, .int .u64 (ep : Int), .int .u64 (fl : Int), .int .u64 (un : Int), .int .u64 (le : Int), .int .u64 (st : Int), .int .u64 (ti : Int), .slice A n c0, .slice G m d] 34)).alloc (.cells #[.int .u8 ((n % 256 : Nat) : Int)] 5)) (B := w.heap.size + 1) (g := w.heap.size + 1) (x := n % 256) (blk_nw _ _ _ _ (by simp)) (Nat.le_refl _) rfl)
  go_enter Try.func31, Try.ntmps31
  go_wp2_with fail
  clear hq
  go_loopw [5, 6] (fun r i wr => ∃ (j L : Nat), j ≤ n ∧ i = .int .i64 (j : Int) ∧ (n % 256 :: (rows.take j).flatMap Rp.row).length = L ∧ wr.ownsRow (w.heap.size + 1) 5 1 r L (u8s (n % 256 :: (rows.take j).flatMap Rp.row)) ∧ Held w wr [(w.heap.size, 34, #[.int .u8 (k : Int), .int .u32 (id : Int), .int .u16 (code : Int), .bool last, .int .u64 (ep : Int), .int .u64 (fl : Int), .int .u64 (un : Int), .int .u64 (le : Int), .int .u64 (st : Int), .int .u64 (ti : Int), .slice A n c0, .slice G m d])]) (fun _ i _ => n - (intOf i).toNat)
  case atStart => exact ⟨0, 1, by omega, rfl, rfl, O1.out, S1.out⟩
  case round =>
    obtain ⟨j, L, hj, rfl, hL, hown, hheld⟩ := hrel
    obtain ⟨-, -, -, -, -, -, -, -, -, -, c10, -⟩ := RC.out _ hheld
    have HO := Lib.hid (And.intro hown (And.intro hheld hL))
    have hL2 : L ≤ 100000000 := by
      rw [← hL, List.length_cons]
      have h1 := flat_le8 Rp.row 60050 (rows.take j) (fun a ha => by
        rw [Rp.row_len]
        have := HP.out.2.2 a (List.mem_of_mem_take ha)
        omega)
      rw [List.length_take] at h1
      omega
    by_cases hlt : j < n
    · obtain ⟨b, off, rfl, hbB, x0, x1, x2, x3, x4, x5, x6⟩ := HP.out.1.row hlt
      obtain ⟨r, hr⟩ : ∃ r, rows.getD j default = r := ⟨_, rfl⟩
      have hrk : r.p.k.size ≤ 60000 := by
        rw [← hr, List.getD_eq_getElem?_getD, List.getElem?_eq_getElem (by omega)]
        exact HP.out.2.2 _ (List.getElem_mem _)
      rw [hr] at x0 x1 x2 x3 x4 x5 x6
      have hz : b < w.heap.size := by have := HP.out.2.1; omega
      have d0 := (hheld.1.cell (p := ⟨b, _, none⟩) hz).trans x0
      have d1 := (hheld.1.cell (p := ⟨b, _, none⟩) hz).trans x1
      have d2 := (hheld.1.cell (p := ⟨b, _, none⟩) hz).trans x2
      have d3 := (hheld.1.cell (p := ⟨b, _, none⟩) hz).trans x3
      have d4 := (hheld.1.cell (p := ⟨b, _, none⟩) hz).trans x4
      have d5 := (hheld.1.cell (p := ⟨b, _, none⟩) hz).trans x5
      have d6 := (hheld.1.cell (p := ⟨b, _, none⟩) hz).trans x6
      have hsn := flat_snoc8 Rp.row rows j (by omega)
      rw [hr] at hsn
      have HN := Lib.hid hsn
      obtain ⟨pp, ⟨ac, sm, lo, hi⟩⟩ := r
      dsimp only at *
      have H2 := Lib.hid (hheld.new #[.int .i64 ac, .int .i64 sm, .int .i64 lo, .int .i64 hi] 86)
      have O1' := Lib.hid (hown.alloc (.cells #[.int .i64 ac, .int .i64 sm, .int .i64 lo, .int .i64 hi] 86))
      obtain ⟨-, -, -, -, -, -, -, -, -, -, e10, -⟩ := RC.out _ (hheld.step ((Below.refl _ _).alloc (Nat.le_refl _) (.cells #[.int .i64 ac, .int .i64 sm, .int .i64 lo, .int .i64 hi] 86)))
      have ba : Below wr.heap.size wr (wr.alloc (.cells #[.int .i64 ac, .int .i64 sm, .int .i64 lo, .int .i64 hi] 86)) := (Below.refl _ _).alloc (Nat.le_refl _) _
      have hzb : b < wr.heap.size := by have := hheld.1.size; omega
      have q0 := (ba.cell (p := ⟨b, _, none⟩) hzb).trans d0
      have q1 := (ba.cell (p := ⟨b, _, none⟩) hzb).trans d1
      have q2 := (ba.cell (p := ⟨b, _, none⟩) hzb).trans d2
      have CP := Lib.hid (refPane8_any pp (wr.alloc (.cells #[.int .i64 ac, .int .i64 sm, .int .i64 lo, .int .i64 hi] 86)) (by omega))
      have i1 : (0 : Int) ≤ j := by omega
      have i2 : (j : Int) < n := by omega
      clear x0 x1 x2 x3 x4 x5 x6 hown hheld hL hsn hr ba hzb d0 d1 d2
      go_wp2_with fail
      clear q0 q1 q2 d3 d4 d5 d6 c10 e10
      refine CP.out.mono ?_
      rintro e w2 ⟨A2, c2, rfl, o2, b2⟩
      obtain ⟨g2, rfl, hg2, hc2⟩ := own_some8 o2 (by omega)
      have O2 := Lib.hid (And.intro (own_below O1'.out b2) (And.intro hc2 (H2.out.step b2)))
      have hz2 : w.heap.size + 1 ≤ w2.heap.size := by have := (O2.out.2.2.2 _ (List.mem_cons_of_mem _ (List.mem_singleton_self _))).lt; dsimp only at this; omega
      have hzr : w.heap.size + 1 ≤ wr.heap.size := by have := (H2.out.2 _ (List.mem_cons_of_mem _ (List.mem_singleton_self _))); have h3 := HO.out.2.1.top.lt; omega
      clear o2 b2 hc2
      go_wp2_with (at_builtin; refine wpList_append_lies _ rfl _ _ 36 rfl (w.heap.size + 1) 5 iu (.int .u8 0) 1 1 Try.underlying36 HU.out.1 HU.out.2.1 HU.out.2.2.1 HU.out.2.2.2 rfl (by decide) _ L _ rfl O2.out.1 ⟨g2, 0, none⟩ (pp.k.size + 18) _ (u8s (Rp.pane pp)) rfl (by rw [u8s_len, Rp.pane_len]; omega) O2.out.2.1 (u8s_one _) (by omega) (by unfold maxLen; omega) (by omega) hz2 _ rfl ?_; intro g3 cap3 w3 hown hgrow _ _)
      have ka : Blk w3 wr.heap.size 86 #[.int .i64 ac, .int .i64 sm, .int .i64 lo, .int .i64 hi] := Blk.off (O2.out.2.2.2 _ (List.mem_cons_self ..)) O2.out.1 hgrow (by decide)
      have kr := Blk.off (show Blk w2 w.heap.size 34 #[.int .u8 (k : Int), .int .u32 (id : Int), .int .u16 (code : Int), .bool last, .int .u64 (ep : Int), .int .u64 (fl : Int), .int .u64 (un : Int), .int .u64 (le : Int), .int .u64 (st : Int), .int .u64 (ti : Int), .slice (some ⟨b, off, none⟩) n c0, .slice G m d] from O2.out.2.2.2 _ (List.mem_cons_of_mem _ (List.mem_singleton_self _))) O2.out.1 hgrow (by decide)
      have bw : Below w.heap.size w w3 := O2.out.2.2.1.grown hgrow (by omega) (fun q hq => by have := (O2.out.1.lt q hq).1; omega)
      have KA : Hid (∀ W, Below w3.heap.size w3 W → W.cell? ⟨wr.heap.size, 0, none⟩ = some (.int .i64 ac) ∧ W.cell? ⟨wr.heap.size, 1, none⟩ = some (.int .i64 sm) ∧ W.cell? ⟨wr.heap.size, 2, none⟩ = some (.int .i64 lo) ∧ W.cell? ⟨wr.heap.size, 3, none⟩ = some (.int .i64 hi)) := Lib.hid fun W hW => by
        have hk := ka.below hW ka.lt
        exact ⟨hk.cell 0, hk.cell 1, hk.cell 2, hk.cell 3⟩
      have H3 := Lib.hid (And.intro (own_snoc hown) (And.intro kr (And.intro bw ka)))
      have D0 : Hid (Below w3.heap.size w3 w3.drew) := Lib.hid (Below.refl _ _).drew
      have hz3 : w2.heap.size ≤ w3.heap.size := hgrow.size
      have hL3 : L + (pp.k.size + 18) ≤ 100070000 := by omega
      obtain ⟨L3, hL3'⟩ : ∃ L3, L + (pp.k.size + 18) = L3 := ⟨_, rfl⟩
      have HL3 := Lib.hid hL3'
      rw [hL3'] at H3 hL3 ⊢
      clear hown hgrow ka kr bw hL3'
      go_region_held3 (fun W => W.cell? ⟨wr.heap.size, 0, none⟩ = some (.int .i64 ac) ∧ W.cell? ⟨wr.heap.size, 1, none⟩ = some (.int .i64 sm) ∧ W.cell? ⟨wr.heap.size, 2, none⟩ = some (.int .i64 lo) ∧ W.cell? ⟨wr.heap.size, 3, none⟩ = some (.int .i64 hi)) (first | with_reducible exact KA.out _ D0.out | with_reducible exact KA.out _ D1.out | with_reducible exact KA.out _ D2.out | with_reducible exact KA.out _ D3.out | with_reducible exact KA.out _ D4.out | with_reducible exact KA.out _ D5.out | with_reducible exact KA.out _ D6.out | exact KA9.out) (first
        | (go_at_call 61; (with_reducible refine (refInt_any ac (Rp.u ac) _ (Rp.u_eq _) (Rp.u_lt _)).mono ?_); rintro e v1 ⟨A11, c11, rfl, o1, b1⟩; have D1 := Lib.hid (below_next D0.out b1); have P1 := Lib.hid o1; clear o1 b1)
        | (go_at_call 61; (with_reducible refine (refInt_any sm (Rp.u sm) _ (Rp.u_eq _) (Rp.u_lt _)).mono ?_); rintro e v2 ⟨A12, c12, rfl, o2, b2⟩; have D2 := Lib.hid (below_next D1.out b2); have P2 := Lib.hid o2; have P1_2 := Lib.hid (own_below P1.out b2); clear o2 b2)
        | (go_at_call 61; (with_reducible refine (refInt_any lo (Rp.u lo) _ (Rp.u_eq _) (Rp.u_lt _)).mono ?_); rintro e v3 ⟨A13, c13, rfl, o3, b3⟩; have D3 := Lib.hid (below_next D2.out b3); have P3 := Lib.hid o3; have P1_3 := Lib.hid (own_below P1_2.out b3); have P2_3 := Lib.hid (own_below P2.out b3); clear o3 b3)
        | (go_at_call 61; (with_reducible refine (refInt_any hi (Rp.u hi) _ (Rp.u_eq _) (Rp.u_lt _)).mono ?_); rintro e v4 ⟨A14, c14, rfl, o4, b4⟩; have D4 := Lib.hid (below_next D3.out b4); have P4 := Lib.hid o4; have P1_4 := Lib.hid (own_below P1_3.out b4); have P2_4 := Lib.hid (own_below P2_3.out b4); have P3_4 := Lib.hid (own_below P3.out b4); have HR4 := Lib.hid (rows_four8 (c1 := c11) (c2 := c12) (c3 := c13) (c4 := c14) (t := 36) (Bytes.of_own P1_4.out (Pk.be_lt _ _)) (Bytes.of_own P2_4.out (Pk.be_lt _ _)) (Bytes.of_own P3_4.out (Pk.be_lt _ _)) (Bytes.of_own P4.out (Pk.be_lt _ _)) (Nat.le_refl _)); have D5 := Lib.hid (D4.out.alloc D4.out.size (.cells #[.slice A11 8 c11, .slice A12 8 c12, .slice A13 8 c13, .slice A14 8 c14] 36)); clear o4 b4)
        | (go_at_call 60; (with_reducible refine (refJoin_agg ⟨ac, sm, lo, hi⟩ 4 _ _ _ HR4.out (by simp)).mono ?_); rintro e v6 ⟨A16, c16, rfl, o6, b6⟩; obtain ⟨g16, rfl, hg16, hc16⟩ := own_some8 o6 (by omega); have D6 := Lib.hid (below_next D5.out b6); have HD := Lib.hid (And.intro (own_below H3.out.1 D6.out) (And.intro hc16 (show w.heap.size + 1 ≤ v6.heap.size by have := D6.out.size; omega))); have HK := Lib.hid (show Blk v6 wr.heap.size 86 #[.int .i64 ac, .int .i64 sm, .int .i64 lo, .int .i64 hi] from H3.out.2.2.2.below D6.out H3.out.2.2.2.lt); clear o6 b6 hc16)
        | (refine step_append_here rfl (.tmp 52) (.tmp 66) 36 rfl (w.heap.size + 1) 5 iu (.int .u8 0) 1 1 Try.underlying36 HU.out.1 HU.out.2.1 HU.out.2.2.1 HU.out.2.2.2 rfl (by decide) (.slice (some ⟨g3, 0, none⟩) L3 cap3) L3 (u8s (n % 256 :: List.flatMap Rp.row (List.take j rows) ++ Rp.pane pp)) rfl HD.out.1 ⟨g16, 0, none⟩ 32 c16 (u8s (Rp.agg ⟨ac, sm, lo, hi⟩)) rfl (by rw [u8s_len, Rp.agg_len]) HD.out.2.1 (u8s_one _) (by decide) (by unfold maxLen; omega) (by omega) HD.out.2.2 _ rfl ?_; intro g9 cap9 v9 hown9 hg9 _ _; have KA9 := Lib.hid (show v9.cell? ⟨wr.heap.size, 0, none⟩ = some (.int .i64 ac) ∧ v9.cell? ⟨wr.heap.size, 1, none⟩ = some (.int .i64 sm) ∧ v9.cell? ⟨wr.heap.size, 2, none⟩ = some (.int .i64 lo) ∧ v9.cell? ⟨wr.heap.size, 3, none⟩ = some (.int .i64 hi) by have hq := HK.out.off HD.out.1 hg9 (by decide); exact ⟨hq.cell 0, hq.cell 1, hq.cell 2, hq.cell 3⟩)))
      go_wp2_with fail
      refine ⟨⟨j + 1, L3 + 32, by omega, by go_num, ?_, ?_, ?_⟩, by simp [intOf]; omega⟩
      · rw [HN.out, ← List.cons_append, List.length_append, HO.out.2.2, Rp.row_len, ← HL3.out]
        dsimp only
        omega
      · rw [HN.out, ← List.cons_append]
        have e3 : n % 256 :: List.flatMap Rp.row (List.take j rows) ++ Rp.pane pp ++ Rp.agg ⟨ac, sm, lo, hi⟩ = n % 256 :: List.flatMap Rp.row (List.take j rows) ++ Rp.row ⟨pp, ⟨ac, sm, lo, hi⟩⟩ := by
          rw [List.append_assoc]
          rfl
        rw [← e3]
        exact own_snoc hown9
      · have hq := (H3.out.2.1.below D6.out H3.out.2.1.lt).off HD.out.1 hg9 (by decide)
        exact ⟨(below_next H3.out.2.2.1 D6.out).grown hg9 (by have := HD.out.2.2; omega) (fun q hq => by have := (HD.out.1.lt q hq).1; omega), fun y hy => by rw [List.mem_singleton.1 hy]; exact hq⟩
    · obtain rfl : j = n := by omega
      rw [List.take_of_length_le (by omega)] at hown hL
      obtain ⟨A1, c1, rfl⟩ := own_slice hown
      have HF := Lib.hid (And.intro hown (And.intro hL hheld))
      clear hown hL hheld
      go_wp2_with fail
      go_ret
      obtain ⟨h1, h2, h3⟩ := HF.out
      subst h2
      exact ⟨A1, c1, rfl, own_lower h1 (Nat.le_succ _), h3.1⟩
end Go.Proofs.Ytbdalpfpkofmlaa
