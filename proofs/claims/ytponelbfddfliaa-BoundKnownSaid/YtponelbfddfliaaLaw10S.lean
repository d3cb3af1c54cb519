/- Layer 10: BoundSorts. Made by tools/gen/law10s.py. -/
import Derived.Test.YtponelbfddfliaaBoG
import Derived.Test.YtponelbfddfliaaBoS
import Derived.Test.YtponelbfddfliaaLaw10M
import Derived.Deep.DeepCutAuto
namespace Go.Proofs.Ytponelbfddfliaa
open Go.ChangeShapes Go.WideShapes Go.ChangeAt Go.RowKit

theorem rpane_guard : Try.prog.eqGuardType Try.prog.depth 34 = false := by kernel_rfl
theorem rpane_self (k : ByteArray) (s e : Int) (w : World) : (Op.equalIn 10000 34 (.agg #[.string k, .int .i64 s, .int .i64 e]) (.agg #[.string k, .int .i64 s, .int .i64 e])).run Try.prog w = .ok true w := by
  have hS : Try.prog.underlying 34 = some (.struct (Try.prog.fieldsOf 34)) := by kernel_rfl
  have hp : Try.prog.stoodInHeld 34 = false := by kernel_rfl
  rw [show (10000 : Nat) = 9999 + 1 from rfl, run_equalIn_agg w 9999 34 _ _ hS hp]
  simp only [Program.fieldsOf, Try.underlying34]
  go_simp
theorem pans_len {w : World} {base n : Nat} {T : TypeId} {v : Value} {l : List Pn} (h : w.ownsRow base T 3 v n (pncells l)) : n = l.length := by
  have := h.1
  rw [pncells_len] at this
  omega
set_option maxRecDepth 100000 in
set_option maxHeartbeats 4000000 in
theorem boundSorts_any (fk : Nat) (fK fT : ByteArray) (fl fm : Int) (n c B : Nat) (A : Option Addr) (l : List Pn) (w : World) (h : PansIn w B A n l) (hl : ∀ p ∈ l, i64ok p.s ∧ i64ok p.e) (hB : B ≤ w.heap.size) :
    Calls Try.prog 4 #[.agg #[.int .u8 (fk : Int), .string fK, .string fT, .int .i64 fl, .int .i64 fm], .slice A n c] w (TrueP w) := by
  obtain ⟨ip, hi, hz0, hz1, hz2⟩ := info_parts Try.info34
  have HI := Lib.hid (And.intro hi (And.intro hz0 (And.intro hz1 hz2)))
  obtain ⟨w0, hw0⟩ : ∃ w0, w.alloc (.cells #[.int .u8 (fk : Int), .string fK, .string fT, .int .i64 fl, .int .i64 fm] 23) = w0 := ⟨_, rfl⟩
  have hbk := Blk.new w 23 #[.int .u8 (fk : Int), .string fK, .string fT, .int .i64 fl, .int .i64 fm]
  have hbe : Below w.heap.size w (w.alloc (.cells #[.int .u8 (fk : Int), .string fK, .string fT, .int .i64 fl, .int .i64 fm] 23)) := (Below.refl _ _).alloc (Nat.le_refl _) _
  have hz : (w.alloc (.cells #[.int .u8 (fk : Int), .string fK, .string fT, .int .i64 fl, .int .i64 fm] 23)).heap.size = w.heap.size + 1 := by simp
  rw [hw0] at hbk hbe hz
  have HF : Hid (∀ W, Below w0.heap.size w0 W → (W.cell? ⟨w.heap.size, 0, none⟩ = some (.int .u8 (fk : Int)) ∧ W.cell? ⟨w.heap.size, 1, none⟩ = some (.string fK) ∧ W.cell? ⟨w.heap.size, 2, none⟩ = some (.string fT) ∧ W.cell? ⟨w.heap.size, 3, none⟩ = some (.int .i64 fl) ∧ W.cell? ⟨w.heap.size, 4, none⟩ = some (.int .i64 fm))) := Lib.hid fun W hW => by
    have hb := hbk.below hW (by omega)
    exact ⟨hb.cell 0, hb.cell 1, hb.cell 2, hb.cell 3, hb.cell 4⟩
  have HBE := Lib.hid hbe
  have HP := Lib.hid (h.below hbe hB)
  have HBB := Lib.hid (Nat.lt_of_le_of_lt hB (by omega : w.heap.size < w0.heap.size))
  have HOK := Lib.hid (And.intro hl h.1)
  have HTR : Hid (∀ W W' e, Below w0.heap.size w0 W → TrueP W e W' → TrueP w e W') := Lib.hid fun W W' e hW hT => ⟨hT.1, hbe.trans ((below_next hW hT.2).mono hbe.size)⟩
  clear hi hz0 hz1 hz2 h hB hbk hbe hz hl
  by_cases h30 : 30 < n
  · have i0 : (30 : Int) < n := by omega
    go_enter Try.func4, Try.ntmps4
    go_wp2_with fail
    refine (works_any _).mono ?_
    rintro e wz ⟨rfl, bz⟩
    go_wp2_with fail
    go_ret
    exact HTR.out _ _ _ (Below.refl _ _) ⟨rfl, bz⟩
  have i0 : ¬ (30 : Int) < n := by omega
  go_enter Try.func4, Try.ntmps4
  go_wp2_with fail
  clear hw0
  go_loopw [5, 6] (fun r i wr => ∃ j : Nat, j ≤ n ∧ i = .int .i64 (j : Int) ∧ (∀ p ∈ l.take j, panOk p) ∧ wr.ownsRow w0.heap.size 34 3 r j (pncells (l.take j)) ∧ Below w0.heap.size w0 wr) (fun _ i _ => n - (intOf i).toNat)
  case atStart => exact ⟨0, by omega, rfl, by simp, own_nil _ _ _ _, Below.refl _ _⟩
  case round =>
    obtain ⟨j, hj, rfl, hok, hown, hbel⟩ := hrel
    have HO := Lib.hid (And.intro hok (And.intro hown hbel))
    clear hown hok
    by_cases hlt : j < n
    · obtain ⟨x, hx⟩ : ∃ x, l.getD j default = x := ⟨_, rfl⟩
      obtain ⟨b, off, rfl, hb, hc⟩ := HP.out.pan hlt hx
      have hst := psnoc_at l j (by rw [HOK.out.2]; exact hlt)
      rw [hx] at hst
      have HS := Lib.hid hst
      have HXO : Hid (i64ok x.s ∧ i64ok x.e) := Lib.hid (HOK.out.1 x (by rw [← hx, List.getD_eq_getElem?_getD, List.getElem?_eq_getElem (by rw [HOK.out.2]; exact hlt)]; exact List.getElem_mem _))
      obtain ⟨xk, xs, xe⟩ := x
      dsimp only at hc
      have hz : b < w0.heap.size := by have := HBB.out; omega
      have HC : Hid (∀ W, Below wr.heap.size wr W → (fun W => (W.cell? ⟨w.heap.size, 0, none⟩ = some (.int .u8 (fk : Int)) ∧ W.cell? ⟨w.heap.size, 1, none⟩ = some (.string fK) ∧ W.cell? ⟨w.heap.size, 2, none⟩ = some (.string fT) ∧ W.cell? ⟨w.heap.size, 3, none⟩ = some (.int .i64 fl) ∧ W.cell? ⟨w.heap.size, 4, none⟩ = some (.int .i64 fm)) ∧ W.cell? ⟨b, off + j * 3, none⟩ = some (.string xk) ∧ W.cell? ⟨b, off + j * 3 + 1, none⟩ = some (.int .i64 xs) ∧ W.cell? ⟨b, off + j * 3 + 2, none⟩ = some (.int .i64 xe)) W) := Lib.hid fun W hW => by
        obtain ⟨c0, c1, c2⟩ := hc
        have hW := below_next hbel hW
        exact ⟨HF.out W hW, (hW.cell (p := ⟨b, _, none⟩) hz).trans c0, (hW.cell (p := ⟨b, _, none⟩) hz).trans c1, (hW.cell (p := ⟨b, _, none⟩) hz).trans c2⟩
      have D0 : Below wr.heap.size wr wr.drew := (Below.refl _ _).drew
      have i1 : (0 : Int) ≤ j := by omega
      have i2 : (j : Int) < n := by omega
      have HFEW := Lib.hid (fun W => few_any (fk : Int) fK fT fl fm xk xs xe W)
      obtain ⟨fw, hfw⟩ : ∃ b, (decide (fK.size ≤ 100) && (decide (fT.size ≤ 100) && decide (xk.size ≤ 100))) = b := ⟨_, rfl⟩
      rw [hfw] at HFEW
      have HFW := Lib.hid hfw
      clear hc hx hst hbel hfw
      go_wp2_with fail
      go_region_held3 (fun W => (W.cell? ⟨w.heap.size, 0, none⟩ = some (.int .u8 (fk : Int)) ∧ W.cell? ⟨w.heap.size, 1, none⟩ = some (.string fK) ∧ W.cell? ⟨w.heap.size, 2, none⟩ = some (.string fT) ∧ W.cell? ⟨w.heap.size, 3, none⟩ = some (.int .i64 fl) ∧ W.cell? ⟨w.heap.size, 4, none⟩ = some (.int .i64 fm)) ∧ W.cell? ⟨b, off + j * 3, none⟩ = some (.string xk) ∧ W.cell? ⟨b, off + j * 3 + 1, none⟩ = some (.int .i64 xs) ∧ W.cell? ⟨b, off + j * 3 + 2, none⟩ = some (.int .i64 xe)) (first | with_reducible exact HC.out _ D0 | with_reducible exact HC.out _ D1) (first
        | (go_at_call 10; (with_reducible refine (HFEW.out _).mono ?_); rintro e w1 ⟨rfl, b1⟩; have D1 := below_next D0 b1; clear D0 b1))
      obtain ⟨_, d0, d1, d2⟩ := HC.out _ D1
      have HO1 := Lib.hid (And.intro (own_below HO.out.2.1 D1) (below_next HO.out.2.2 D1))
      clear D1
      cases fw
      · clear d0 d1 d2
        go_wp2_with fail
        refine (works_any _).mono ?_
        rintro e wz ⟨rfl, bz⟩
        go_wp2_with fail
        go_ret
        exact HTR.out _ _ _ HO1.out.2 ⟨rfl, bz⟩
      · go_wp2_with fail
        clear d0 d1 d2
        refine (lpane_any xk xs xe _).mono ?_
        rintro e w2 ⟨rfl, b2⟩
        have HO2 := Lib.hid (And.intro (own_below HO1.out.1 b2) (below_next HO1.out.2 b2))
        clear b2
        go_wp2_with (at_builtin; refine wpList_append_own _ rfl _ _ 30 rfl w0.heap.size 34 ip (.agg #[.string ⟨#[]⟩, .int .i64 0, .int .i64 0]) 3 32 Try.underlying30 HI.out.1 HI.out.2.1 HI.out.2.2.1 HI.out.2.2.2 rfl (by decide) _ j _ rfl (HO2.out.1.alloc _) ⟨w2.heap.size, 0, none⟩ 1 1 [.string xk, .int .i64 xs, .int .i64 xe] rfl rfl (pn3 w2 _ xk xs xe) (by simp [Value.oneCell']) (by unfold maxLen; omega) (by omega) (by have := HO2.out.2.size; simp; omega) ?_; intro v' w3 ho1 hg1 hv1; clear hv1)
        have hb1 := grow_below HO2.out.2 hg1 (fun g hg => (HO2.out.1.lt g hg).1)
        rw [show ∀ K : List Pn, pncells K ++ [.string xk, .int .i64 xs, .int .i64 xe] = pncells (K ++ [⟨xk, xs, xe⟩]) from fun K => (pncells_snoc K ⟨xk, xs, xe⟩).symm, ← HS.out] at ho1
        refine ⟨⟨j + 1, by omega, by go_num, ?_, ho1, hb1⟩, by simp [intOf]; omega⟩
        intro p hp
        rw [HS.out] at hp
        rcases List.mem_append.1 hp with hp | hp
        · exact HO.out.1 p hp
        · obtain rfl := List.mem_singleton.1 hp
          refine ⟨?_, HXO.out⟩
          have := HFW.out
          simp only [Bool.and_eq_true, decide_eq_true_eq] at this
          show xk.size ≤ 1000000
          omega
    · obtain rfl : n = j := by omega
      obtain ⟨RA, rc, rfl⟩ := own_slice HO.out.2.1
      have hfull : l.take n = l := List.take_of_length_le (by rw [HOK.out.2]; exact Nat.le_refl _)
      have HR := Lib.hid (And.intro (hfull ▸ HO.out.1) (And.intro (hfull ▸ HO.out.2.1) HO.out.2.2))
      obtain ⟨L, hL⟩ : ∃ L, (Fl.mk fk fK fT fl fm).sort l = L := ⟨_, rfl⟩
      have HLL := Lib.hid hL
      obtain ⟨f0, f1, f2, f3, f4⟩ := HF.out _ hbel
      clear hfull hL hbel
      go_wp2_with fail
      clear f0 f1 f2 f3 f4
      refine (lref_any (fk : Int) fK fT fl fm _).mono ?_
      rintro e w1 ⟨rfl, b1⟩
      have HR1 := Lib.hid (And.intro (own_below HR.out.2.1 b1) (below_next HR.out.2.2 b1))
      clear b1
      go_wp2_with fail
      refine (refSort_any fk fK fT fl fm n rc w1.heap.size RA l w1 (PansIn.of_own HR1.out.1) HR.out.1 (Nat.le_refl _) (by omega)).mono ?_
      rw [HLL.out]
      rintro e ws ⟨WA, m, wc, rfl, oww, bw⟩
      have hm : m = L.length := pans_len oww
      have HWs := Lib.hid (And.intro (PansIn.of_own oww) (And.intro (own_below HR1.out.1 bw) (below_next HR1.out.2 bw)))
      have hmn : L.length ≤ n := by
        rw [← HLL.out]
        unfold Fl.sort
        rw [(srtB_perm _ _).length_eq]
        exact Nat.le_trans (List.length_filter_le _ _) (by rw [HOK.out.2]; exact Nat.le_refl _)
      have HM := Lib.hid (And.intro hm hmn)
      have g1 := rpane_guard
      clear oww bw hm hmn
      go_wp2_with fail
      go_loopw [8, 9, 10] (fun i _ _ wr => ∃ j : Nat, j ≤ 2 ∧ i = .int .i64 (j : Int) ∧ Below ws.heap.size ws wr) (fun i _ _ _ => 2 - (intOf i).toNat)
      case atStart => exact ⟨0, by omega, rfl, Below.refl _ _⟩
      case round =>
        obtain ⟨t, ht, rfl, hbel⟩ := hrel
        have HT := Lib.hid hbel
        by_cases ht2 : t < 2
        · obtain ⟨f0, f1, f2, f3, f4⟩ := HF.out _ (below_next HWs.out.2.2 hbel)
          have i1 : (t : Int) < 2 := by omega
          clear hbel
          go_wp2_with fail
          clear f0 f1 f2 f3 f4
          refine (sort_any fk fK fT fl fm n c B A l wr (HP.out.below (below_next HWs.out.2.2 HT.out) (Nat.le_of_lt HBB.out)) HR.out.1 (Nat.le_trans (Nat.le_of_lt HBB.out) (below_next HWs.out.2.2 HT.out).size) (by omega)).mono ?_
          rw [HLL.out]
          rintro e wg ⟨GA, gn, gc, rfl, owg, bg⟩
          have hgn : gn = L.length := pans_len owg
          rw [← HM.out.1] at hgn
          subst hgn
          have hwb := below_next HT.out bg
          obtain ⟨bz, hbz⟩ : ∃ k, wr.heap.size = k := ⟨_, rfl⟩
          rw [hbz] at owg
          have HG := Lib.hid (And.intro owg hwb)
          have HZ := Lib.hid (hbz ▸ HT.out.size)
          have hg30 : gn ≤ 30 := by have := HM.out.2; have := HM.out.1; omega
          clear owg bg hwb hbz
          go_wp2_with fail
          go_loopw [10] (fun i wr => ∃ j : Nat, j ≤ gn ∧ i = .int .i64 (j : Int) ∧ Below ws.heap.size ws wr ∧ (0 < gn → ∃ g, GA = some ⟨g, 0, none⟩ ∧ bz ≤ g ∧ ∃ X : List Pn, OwnP 33 wr bz g gn gc X ∧ ∀ k, j ≤ k → X.getD k default = L.getD k default)) (fun i _ => gn - (intOf i).toNat)
          case atStart =>
            refine ⟨0, by omega, rfl, HG.out.2, fun h0 => ?_⟩
            rcases HG.out.1.2 with ⟨_, h1⟩ | ⟨g, cap, cur, e, hbase, _⟩
            · have := HG.out.1.1; rw [h1] at this; simp at this; omega
            · injection e with e1
              subst e1
              exact ⟨g, rfl, hbase, L, OwnP.of_own HG.out.1, fun _ _ => rfl⟩
          case round =>
            obtain ⟨j, hj, rfl, hbel2, hown⟩ := hrel
            by_cases hlt : j < gn
            · obtain ⟨g, rfl, hgb, X, hX, hk⟩ := hown (by omega)
              obtain ⟨x, hx⟩ : ∃ x, L.getD j default = x := ⟨_, rfl⟩
              obtain ⟨b, off, rfl, hb, hc⟩ := HWs.out.1.pan hlt hx
              have HX := Lib.hid (And.intro hX (And.intro hk (And.intro hgb hbel2)))
              have HCG : Hid (∀ W, Below wr.heap.size wr W → OwnP 33 W bz g gn gc X) := Lib.hid fun W hW => hX.below hW
              have hxx : X.getD j default = x := (hk j (Nat.le_refl _)).trans hx
              obtain ⟨xk, xs, xe⟩ := x
              dsimp only at hc
              have HC : Hid (∀ W, Below wr.heap.size wr W → (fun W => (W.cell? ⟨g, j * 3, none⟩ = some (.string xk) ∧ W.cell? ⟨g, j * 3 + 1, none⟩ = some (.int .i64 xs) ∧ W.cell? ⟨g, j * 3 + 2, none⟩ = some (.int .i64 xe)) ∧ W.cell? ⟨b, off + j * 3, none⟩ = some (.string xk) ∧ W.cell? ⟨b, off + j * 3 + 1, none⟩ = some (.int .i64 xs) ∧ W.cell? ⟨b, off + j * 3 + 2, none⟩ = some (.int .i64 xe)) W) := Lib.hid fun W hW => by
                obtain ⟨c0, c1, c2⟩ := hc
                have hW2 := below_next hbel2 hW
                exact ⟨(HCG.out W hW).cells hlt hxx, (hW2.cell (p := ⟨b, _, none⟩) hb).trans c0, (hW2.cell (p := ⟨b, _, none⟩) hb).trans c1, (hW2.cell (p := ⟨b, _, none⟩) hb).trans c2⟩
              have D0 : Below wr.heap.size wr wr.drew := (Below.refl _ _).drew
              have i1 : (0 : Int) ≤ j := by omega
              have i2 : (j : Int) < gn := by omega
              have q1 := fun W => rpane_self xk xs xe W
              clear hX hk hgb hbel2 hown hx hc hxx
              go_wp2_with fail
              go_region_held3 (fun W => (W.cell? ⟨g, j * 3, none⟩ = some (.string xk) ∧ W.cell? ⟨g, j * 3 + 1, none⟩ = some (.int .i64 xs) ∧ W.cell? ⟨g, j * 3 + 2, none⟩ = some (.int .i64 xe)) ∧ W.cell? ⟨b, off + j * 3, none⟩ = some (.string xk) ∧ W.cell? ⟨b, off + j * 3 + 1, none⟩ = some (.int .i64 xs) ∧ W.cell? ⟨b, off + j * 3 + 2, none⟩ = some (.int .i64 xe)) (first | with_reducible exact HC.out _ D0 | with_reducible exact HC.out _ D1) (first
                | (go_at_call 11; (refine (lpane_any xk xs xe _).mono ?_); rintro e w1 ⟨rfl, b1⟩; have D1 := below_next D0 b1; clear D0 b1))
              have HD1 := Lib.hid D1
              have hfz := fun o => (HCG.out _ D1).frozen o
              obtain ⟨⟨x0, x1, x2⟩, _⟩ := HC.out _ D1
              clear D1
              go_wp2_with fail
              have RB := (HCG.out _ HD1.out).set (i := j) (by omega) default
              have GB := below_pan (below_next HX.out.2.2.2 HD1.out) (Nat.le_trans HZ.out HX.out.2.2.1) (j * 3) default
              refine ⟨⟨j + 1, by omega, by go_num, GB, fun _ => ⟨g, rfl, HX.out.2.2.1, X.set j default, RB, fun k hk => ?_⟩⟩, by simp [intOf]; omega⟩
              rw [← HX.out.2.1 k (by omega), List.getD_eq_getElem?_getD, List.getD_eq_getElem?_getD, List.getElem?_set_ne (by omega)]
            · obtain rfl : gn = j := by omega
              have HE := Lib.hid hbel2
              clear hown hbel2
              go_wp2_with fail
              exact ⟨⟨t + 1, by omega, by go_num, HE.out⟩, by simp [intOf]; omega⟩
        · have it : ¬ (t : Int) < 2 := by omega
          obtain ⟨wy, hwy⟩ : ∃ y, wr = y := ⟨_, rfl⟩
          have HY := Lib.hid (And.intro (own_below HWs.out.2.1 HT.out) (below_next HWs.out.2.2 HT.out))
          rw [hwy] at HY
          clear hbel HT
          go_wp2_with fail
          go_loopw [11] (fun i wr => ∃ j : Nat, j ≤ n ∧ i = .int .i64 (j : Int) ∧ Below wy.heap.size wy wr) (fun i _ => n - (intOf i).toNat)
          case atStart => exact ⟨0, by omega, rfl, Below.refl _ _⟩
          case round =>
            obtain ⟨j, hj, rfl, hbel2⟩ := hrel
            by_cases hlt : j < n
            · obtain ⟨x, hx⟩ : ∃ x, l.getD j default = x := ⟨_, rfl⟩
              obtain ⟨b, off, rfl, hb, hc⟩ := HP.out.pan hlt hx
              have hRA := PansIn.of_own HY.out.1
              obtain ⟨g, off2, rfl, hg, hcr⟩ := hRA.pan hlt hx
              obtain ⟨xk, xs, xe⟩ := x
              dsimp only at hc hcr
              have hz : b < w0.heap.size := by have := HBB.out; omega
              have HC : Hid (∀ W, Below wr.heap.size wr W → (fun W => (W.cell? ⟨b, off + j * 3, none⟩ = some (.string xk) ∧ W.cell? ⟨b, off + j * 3 + 1, none⟩ = some (.int .i64 xs) ∧ W.cell? ⟨b, off + j * 3 + 2, none⟩ = some (.int .i64 xe)) ∧ W.cell? ⟨g, off2 + j * 3, none⟩ = some (.string xk) ∧ W.cell? ⟨g, off2 + j * 3 + 1, none⟩ = some (.int .i64 xs) ∧ W.cell? ⟨g, off2 + j * 3 + 2, none⟩ = some (.int .i64 xe)) W) := Lib.hid fun W hW => by
                obtain ⟨c0, c1, c2⟩ := hc
                obtain ⟨r0, r1, r2⟩ := hcr
                have hW2 := below_next hbel2 hW
                have hW3 := below_next HY.out.2 hW2
                exact ⟨⟨(hW3.cell (p := ⟨b, _, none⟩) hz).trans c0, (hW3.cell (p := ⟨b, _, none⟩) hz).trans c1, (hW3.cell (p := ⟨b, _, none⟩) hz).trans c2⟩, (hW2.cell (p := ⟨g, _, none⟩) hg).trans r0, (hW2.cell (p := ⟨g, _, none⟩) hg).trans r1, (hW2.cell (p := ⟨g, _, none⟩) hg).trans r2⟩
              have D0 : Below wr.heap.size wr wr.drew := (Below.refl _ _).drew
              have HB2 := Lib.hid hbel2
              have i1 : (0 : Int) ≤ j := by omega
              have i2 : (j : Int) < n := by omega
              have q1 := fun W => rpane_self xk xs xe W
              clear hbel2 hx hc hcr hRA
              go_wp2_with fail
              go_region_held3 (fun W => (W.cell? ⟨b, off + j * 3, none⟩ = some (.string xk) ∧ W.cell? ⟨b, off + j * 3 + 1, none⟩ = some (.int .i64 xs) ∧ W.cell? ⟨b, off + j * 3 + 2, none⟩ = some (.int .i64 xe)) ∧ W.cell? ⟨g, off2 + j * 3, none⟩ = some (.string xk) ∧ W.cell? ⟨g, off2 + j * 3 + 1, none⟩ = some (.int .i64 xs) ∧ W.cell? ⟨g, off2 + j * 3 + 2, none⟩ = some (.int .i64 xe)) (first | with_reducible exact HC.out _ D0 | with_reducible exact HC.out _ D1) (first
                | (go_at_call 11; (refine (lpane_any xk xs xe _).mono ?_); rintro e w1 ⟨rfl, b1⟩; have D1 := below_next D0 b1; clear D0 b1))
              have HD1 := Lib.hid D1
              clear D1
              go_wp2_with fail
              exact ⟨⟨j + 1, by omega, by go_num, below_next HB2.out HD1.out⟩, by simp [intOf]; omega⟩
            · obtain rfl : n = j := by omega
              have HB2 := Lib.hid hbel2
              clear hbel2
              go_wp2_with fail
              refine (works_any _).mono ?_
              rintro e wz ⟨rfl, bz⟩
              go_wp2_with fail
              go_ret
              exact HTR.out _ _ _ (below_next HY.out.2 HB2.out) ⟨rfl, bz⟩
end Go.Proofs.Ytponelbfddfliaa
