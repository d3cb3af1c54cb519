/- Layer 8's statement ReplyPuts. -/
import Derived.Test.YtbdalpfpkofmlaaLaw8F
import Derived.Test.YtbdalpfpkofmlaaRpO
import Derived.Test.YtbdalpfpkofmlaaRpY
import Derived.Test.YtbdalpfpkofmlaaSpoil
import Derived.Test.YtbdalpfpkofmlaaRpPa
namespace Go.Proofs.Ytbdalpfpkofmlaa
open Go.ChangeShapes Go.WideShapes Go.ChangeAt Go.RowKit

theorem spoil_b {w w' : World} {base n c : Nat} {A : Option Addr} {e : TypeId} {xs : List Value} {B : Nat} (h : w.ownsRow base e 1 (.slice A n c) n xs) (hg : w.grownBy w' (Value.slice A n c).ownBlock) (hB : B ≤ base) (hw : B ≤ w.heap.size) : Below B w w' :=
  (Below.refl B w).grown hg hw (fun k hk => by have := (h.lt k hk).1; omega)
set_option maxRecDepth 100000 in
set_option maxHeartbeats 20000000 in
theorem replyPuts_any (x y : Rp.V) (rows rows' : List Rw) (gone gone' : List Pn) (w : World) (hx : x.In w w.heap.size rows gone) (hy : y.In w w.heap.size rows' gone') (okx : x.ok) (oky : y.ok) : Calls Try.prog 3 #[x.val, y.val] w (LawP w) := by
  obtain ⟨W0, hW0⟩ : ∃ W, (w.alloc (.cells x.cells 28)).alloc (.cells y.cells 28) = W := ⟨_, rfl⟩
  have B0 : Below w.heap.size w W0 := by
    rw [← hW0]
    exact ((Below.refl _ _).alloc (Nat.le_refl _) _).alloc (by simp) _
  have K1 : Blk W0 w.heap.size 28 x.cells := by
    rw [← hW0]
    exact blk_al (Blk.new w _ _) _
  have K2 : Blk W0 (w.heap.size + 1) 28 y.cells := by
    rw [← hW0]
    exact blk_nw _ _ _ _ (by simp)
  have P : Hid (∀ W, Below W0.heap.size W0 W → RepCells W w.heap.size x ∧ RepCells W (w.heap.size + 1) y) := Lib.hid fun W hW => ⟨(rep_cells (K1.below hW K1.lt)).1, (rep_cells (K2.below hW K2.lt)).1⟩
  have CF : Hid (∀ W, Below W0.heap.size W0 W → Calls Try.prog 7 #[x.val] W fun e w' => e = .returned (.bool (Rp.few x rows gone)) ∧ Below W.heap.size W w') := Lib.hid fun W hW => fewRep_any x rows gone w.heap.size W (hx.below (B0.trans (hW.mono B0.size)) (Nat.le_refl _)) (Nat.le_trans B0.size hW.size)
  have CG : Hid (∀ W, Below W0.heap.size W0 W → Calls Try.prog 7 #[y.val] W fun e w' => e = .returned (.bool (Rp.few y rows' gone')) ∧ Below W.heap.size W w') := Lib.hid fun W hW => fewRep_any y rows' gone' w.heap.size W (hy.below (B0.trans (hW.mono B0.size)) (Nat.le_refl _)) (Nat.le_trans B0.size hW.size)
  have HB := Lib.hid B0
  cases hfx : Rp.few x rows gone
  · rw [hfx] at CF
    clear CG hfx hx hy okx oky B0 K1 K2
    obtain ⟨k, id, code, last, ep, fl, un, le, st, ti, A, n, c, G, m, d⟩ := x
    obtain ⟨k', id', code', last', ep', fl', un', le', st', ti', A', n', c', G', m', d'⟩ := y
    unfold Rp.V.val RepCells at *
    unfold Rp.V.cells at *
    dsimp only at *
    obtain ⟨⟨u0, u1, u2, u3, u4, u5, u6, u7, u8, u9, u10, u11⟩, -⟩ := P.out W0 (Below.refl _ _)
    go_enter Try.func3, Try.ntmps3
    go_wp2_with fail
    clear hW0 u0 u1 u2 u3 u4 u5 u6 u7 u8 u9 u10 u11
    refine (CF.out _ (Below.refl _ _)).mono ?_
    rintro e w1 ⟨rfl, b1⟩
    have H1 := Lib.hid (below_next HB.out b1)
    clear b1
    go_wp2_with fail
    refine (works8_any _).mono ?_
    rintro e w2 ⟨rfl, b2⟩
    have H2 := Lib.hid (below_next H1.out b2)
    clear b2
    go_wp2_with fail
    go_ret
    exact ⟨rfl, H2.out⟩
  cases hfy : Rp.few y rows' gone'
  · rw [hfx] at CF
    rw [hfy] at CG
    clear hfx hfy hx hy okx oky B0 K1 K2
    obtain ⟨k, id, code, last, ep, fl, un, le, st, ti, A, n, c, G, m, d⟩ := x
    obtain ⟨k', id', code', last', ep', fl', un', le', st', ti', A', n', c', G', m', d'⟩ := y
    unfold Rp.V.val RepCells at *
    unfold Rp.V.cells at *
    dsimp only at *
    obtain ⟨⟨u0, u1, u2, u3, u4, u5, u6, u7, u8, u9, u10, u11⟩, -⟩ := P.out W0 (Below.refl _ _)
    go_enter Try.func3, Try.ntmps3
    go_wp2_with fail
    clear hW0 u0 u1 u2 u3 u4 u5 u6 u7 u8 u9 u10 u11
    refine (CF.out _ (Below.refl _ _)).mono ?_
    rintro e w1 ⟨rfl, b1⟩
    obtain ⟨-, v0, v1, v2, v3, v4, v5, v6, v7, v8, v9, v10, v11⟩ := P.out w1 b1
    have H1 := Lib.hid b1
    clear b1
    go_wp2_with fail
    clear v0 v1 v2 v3 v4 v5 v6 v7 v8 v9 v10 v11
    refine (CG.out _ H1.out).mono ?_
    rintro e w2 ⟨rfl, b2⟩
    have H2 := Lib.hid (below_next (below_next HB.out H1.out) b2)
    clear b2
    go_wp2_with fail
    refine (works8_any _).mono ?_
    rintro e w3 ⟨rfl, b3⟩
    have H3 := Lib.hid (below_next H2.out b3)
    clear b3
    go_wp2_with fail
    go_ret
    exact ⟨rfl, H3.out⟩
  obtain ⟨xn, xm, -, -⟩ := Rp.few_is hfx
  obtain ⟨yn, ym, -, -⟩ := Rp.few_is hfy
  rw [hfx] at CF
  rw [hfy] at CG
  have IX : Hid (∀ W, Below W0.heap.size W0 W → x.In W w.heap.size rows gone) := Lib.hid fun W hW => hx.below (B0.trans (hW.mono B0.size)) (Nat.le_refl _)
  have IY : Hid (∀ W, Below W0.heap.size W0 W → y.In W w.heap.size rows' gone') := Lib.hid fun W hW => hy.below (B0.trans (hW.mono B0.size)) (Nat.le_refl _)
  have hsz : ∀ W, Below W0.heap.size W0 W → w.heap.size ≤ W.heap.size := fun W hW => Nat.le_trans B0.size hW.size
  obtain ⟨rr, hrr⟩ : ∃ r, x.right rows gone = r := ⟨_, rfl⟩
  obtain ⟨sm, hsm⟩ : ∃ r, Rp.same x y rows rows' gone gone' = r := ⟨_, rfl⟩
  obtain ⟨bs, hbs⟩ : ∃ r, Rp.putB x rows gone = r := ⟨_, rfl⟩
  obtain ⟨er, her⟩ : ∃ r, Rp.putE x rows gone = r := ⟨_, rfl⟩
  have hbl : bs.length ≤ 5300 := by rw [← hbs]; exact Rp.putB_len x rows gone hx.1.1 hx.2.1
  have hblt : ∀ y ∈ bs, y < 256 := by rw [← hbs]; exact Rp.putB_lt x rows gone okx.1
  have CPut : Hid (∀ W, Below W0.heap.size W0 W → Calls Try.prog 11 #[x.val] W (PutR W bs er)) := Lib.hid fun W hW => by
    rw [← hbs, ← her]
    exact pPut8_any x rows gone w.heap.size W (IX.out W hW) (hsz W hW) okx (by omega) (by omega)
  have CRp : Hid (∀ W, Below W0.heap.size W0 W → Calls Try.prog 14 #[x.val] W fun e w' => e = .returned (.bool rr) ∧ Below W.heap.size W w') := Lib.hid fun W hW => by
    rw [← hrr]
    exact pRight8_any x rows gone w.heap.size W (IX.out W hW) (hsz W hW) okx (by omega) (by omega)
  have CDx : Hid (∀ W, Below W0.heap.size W0 W → Calls Try.prog 9 #[x.val] W (RepP W x rows gone)) := Lib.hid fun W hW => docRep_any x rows gone w.heap.size W (IX.out W hW) (hsz W hW) (by omega) (by omega)
  have CDy : Hid (∀ W, Below W0.heap.size W0 W → Calls Try.prog 9 #[y.val] W (RepP W y rows' gone')) := Lib.hid fun W hW => docRep_any y rows' gone' w.heap.size W (IY.out W hW) (hsz W hW) (by omega) (by omega)
  have CSxy : Hid (∀ W, Below W0.heap.size W0 W → Calls Try.prog 16 #[x.val, y.val] W fun e w' => e = .returned (.bool sm) ∧ Below W.heap.size W w') := Lib.hid fun W hW => by
    rw [← hsm]
    exact psame8_any x y rows rows' gone gone' w.heap.size W (IX.out W hW) (IY.out W hW) (hsz W hW) okx oky (by omega) (by omega) (by omega) (by omega)
  have CSxx : Hid (∀ W, Below W0.heap.size W0 W → Calls Try.prog 16 #[x.val, x.val] W fun e w' => e = .returned (.bool true) ∧ Below W.heap.size W w') := Lib.hid fun W hW => by
    have h := psame8_any x x rows rows gone gone w.heap.size W (IX.out W hW) (IX.out W hW) (hsz W hW) okx okx (by omega) (by omega) (by omega) (by omega)
    have e : Rp.same x x rows rows gone gone = true := Rp.same_at x rows gone x.A x.c x.G x.d x.A x.c x.G x.d
    rw [e] at h
    exact h
  have CRr : Hid (∀ W A c G d, (x.at_ A c G d).In W W.heap.size rows gone → Calls Try.prog 15 #[(x.at_ A c G d).val] W fun e w' => e = .returned (.bool rr) ∧ Below W.heap.size W w') := Lib.hid fun W A c G d h => by
    rw [← hrr, ← Rp.right_at x rows gone A c G d]
    exact refRight8_any (x.at_ A c G d) W.heap.size rows gone W h (Nat.le_refl _) (by show x.n ≤ _; omega) (by show x.m ≤ _; omega)
  have CPr : Hid (∀ W A c G d, (x.at_ A c G d).In W W.heap.size rows gone → Calls Try.prog 10 #[(x.at_ A c G d).val] W (PutR W bs er)) := Lib.hid fun W A c G d h => by
    rw [← hbs, ← her, ← Rp.putB_at x rows gone A c G d, ← Rp.putE_at x rows gone A c G d]
    exact refPut8_any (x.at_ A c G d) rows gone W.heap.size W h (Nat.le_refl _) (Rp.ok_at okx A c G d) (by show x.n ≤ _; omega) (by show x.m ≤ _; omega)
  have CSr : Hid (∀ W A c G d A' c' G' d', (x.at_ A c G d).In W W.heap.size rows gone → (y.at_ A' c' G' d').In W W.heap.size rows' gone' → Calls Try.prog 17 #[(x.at_ A c G d).val, (y.at_ A' c' G' d').val] W fun e w' => e = .returned (.bool sm) ∧ Below W.heap.size W w') := Lib.hid fun W A c G d A' c' G' d' h h' => by
    have hh := refSame8_any (x.at_ A c G d) (y.at_ A' c' G' d') rows rows' gone gone' W.heap.size W h h' (Nat.le_refl _) (by show x.n ≤ _; omega) (by show x.m ≤ _; omega) (by show y.n ≤ _; omega) (by show y.m ≤ _; omega)
    have e : Rp.same (x.at_ A c G d) (y.at_ A' c' G' d') rows rows' gone gone' = sm := hsm
    rw [e] at hh
    exact hh
  have CSs : Hid (∀ W A c G d A' c' G' d', (x.at_ A c G d).In W W.heap.size rows gone → (x.at_ A' c' G' d').In W W.heap.size rows gone → Calls Try.prog 17 #[(x.at_ A c G d).val, (x.at_ A' c' G' d').val] W fun e w' => e = .returned (.bool true) ∧ Below W.heap.size W w') := Lib.hid fun W A c G d A' c' G' d' h h' => by
    have hh := refSame8_any (x.at_ A c G d) (x.at_ A' c' G' d') rows rows gone gone W.heap.size W h h' (Nat.le_refl _) (by show x.n ≤ _; omega) (by show x.m ≤ _; omega) (by show x.n ≤ _; omega) (by show x.m ≤ _; omega)
    have e : Rp.same (x.at_ A c G d) (x.at_ A' c' G' d') rows rows gone gone = true := Rp.same_at x rows gone A c G d A' c' G' d'
    rw [e] at hh
    exact hh
  have hK12 := Lib.hid (And.intro K1 K2)
  have RC8 : Hid (∀ (W : World) g A c G d, Blk W g 34 (x.at_ A c G d).cells → RepCells W g (x.at_ A c G d)) := Lib.hid fun W g A c G d hW => (rep_cells hW).1
  have HBL := Lib.hid hblt
  clear hx hy okx oky hfx hfy xn xm yn ym hrr hsm hbs her B0 K1 K2 hblt hsz IX IY
  obtain ⟨k, id, code, last, ep, fl, un, le, st, ti, A, n, c, G, m, d⟩ := x
  obtain ⟨k', id', code', last', ep', fl', un', le', st', ti', A', n', c', G', m', d'⟩ := y
  unfold RepP Rp.V.at_ Rp.V.val RepCells at *
  unfold Rp.V.cells at *
  dsimp only at *
  obtain ⟨⟨u0, u1, u2, u3, u4, u5, u6, u7, u8, u9, u10, u11⟩, -⟩ := P.out W0 (Below.refl _ _)
  go_enter Try.func3, Try.ntmps3
  go_wp2_with fail
  clear hW0 u0 u1 u2 u3 u4 u5 u6 u7 u8 u9 u10 u11
  refine (CF.out _ (Below.refl _ _)).mono ?_
  rintro e w1 ⟨rfl, b1⟩
  obtain ⟨-, v0, v1, v2, v3, v4, v5, v6, v7, v8, v9, v10, v11⟩ := P.out w1 b1
  have H1 := Lib.hid b1
  clear b1
  go_wp2_with fail
  clear v0 v1 v2 v3 v4 v5 v6 v7 v8 v9 v10 v11
  refine (CG.out _ H1.out).mono ?_
  rintro e w2 ⟨rfl, b2⟩
  obtain ⟨⟨u0, u1, u2, u3, u4, u5, u6, u7, u8, u9, u10, u11⟩, -⟩ := P.out w2 (below_next H1.out b2)
  have H2 := Lib.hid (below_next H1.out b2)
  clear b2
  go_wp2_with fail
  clear u0 u1 u2 u3 u4 u5 u6 u7 u8 u9 u10 u11
  refine (CDx.out _ H2.out).mono ?_
  rintro e w3 ⟨A3, c3, G3, d3, rfl, i3, b3⟩
  have H3 := Lib.hid (And.intro ((below_next H2.out b3).alloc (Nat.le_trans H2.out.size b3.size) (.cells #[.int .u8 (k : Int), .int .u32 (id : Int), .int .u16 (code : Int), .bool last, .int .u64 (ep : Int), .int .u64 (fl : Int), .int .u64 (un : Int), .int .u64 (le : Int), .int .u64 (st : Int), .int .u64 (ti : Int), .slice A3 n c3, .slice G3 m d3] 34)) (And.intro (i3.below ((Below.refl _ _).alloc (Nat.le_refl _) (.cells #[.int .u8 (k : Int), .int .u32 (id : Int), .int .u16 (code : Int), .bool last, .int .u64 (ep : Int), .int .u64 (fl : Int), .int .u64 (un : Int), .int .u64 (le : Int), .int .u64 (st : Int), .int .u64 (ti : Int), .slice A3 n c3, .slice G3 m d3] 34)) (Nat.le_refl _)) (Blk.new w3 34 #[.int .u8 (k : Int), .int .u32 (id : Int), .int .u16 (code : Int), .bool last, .int .u64 (ep : Int), .int .u64 (fl : Int), .int .u64 (un : Int), .int .u64 (le : Int), .int .u64 (st : Int), .int .u64 (ti : Int), .slice A3 n c3, .slice G3 m d3])))
  clear b3 i3
  go_wp2_with fail
  refine (CPr.out _ A3 c3 G3 d3 (H3.out.2.1.more (by simp))).mono ?_
  rintro e w4 ⟨A4, c4, rfl, o4, b4⟩
  have H4 := Lib.hid (And.intro (below_next H3.out.1 b4) (And.intro (H3.out.2.1.below b4 (by simp)) (H3.out.2.2.below b4 H3.out.2.2.lt)))
  have O4 := Lib.hid (Bytes.of_own o4 HBL.out)
  have hz3 : w3.heap.size < w4.heap.size := H4.out.2.2.lt
  clear b4 o4
  go_wp2_with fail
  go_loopw [8] (fun i wr => ∃ j : Nat, j ≤ 2 ∧ i = .int .i64 (j : Int) ∧ Below w4.heap.size w4 wr) (fun i _ => 2 - (intOf i).toNat)
  case atStart => exact ⟨0, by omega, rfl, Below.refl _ _⟩
  case round =>
    obtain ⟨j, hj, rfl, hbel⟩ := hrel
    have HJ := Lib.hid hbel
    by_cases hlt : j < 2
    · have i1 : (j : Int) < 2 := by omega
      obtain ⟨⟨u0, u1, u2, u3, u4, u5, u6, u7, u8, u9, u10, u11⟩, -⟩ := P.out wr (below_next H4.out.1 hbel)
      clear hbel
      go_wp2_with fail
      clear u0 u1 u2 u3 u4 u5 u6 u7 u8 u9 u10 u11
      refine (CPut.out _ (below_next H4.out.1 HJ.out)).mono ?_
      rintro e w5 ⟨A5, c5, rfl, o5, b5⟩
      have H5 := Lib.hid (And.intro o5 (And.intro b5 (O4.out.below (below_next HJ.out b5) (Nat.le_refl _))))
      have hz5 : w4.heap.size ≤ w5.heap.size := (below_next HJ.out b5).size
      clear o5 b5
      have eqr : (er != er) = false := by simp
      go_wp2_with fail
      refine (same_b bs.length c5 c4 w5.heap.size A5 A4 bs w5 (Bytes.of_own H5.out.1 HBL.out) (H5.out.2.2.more hz5) (by omega)).mono ?_
      rintro e w6 ⟨rfl, b6⟩
      have H6 := Lib.hid (And.intro (own_below H5.out.1 b6) (below_next H5.out.2.1 b6))
      clear b6
      go_wp2_with fail
      refine (spoil_any _ bs.length c5 A5 _ w6 H6.out.1 (by omega)).mono ?_
      rintro e w7 ⟨rfl, g7⟩
      have H7 := Lib.hid (H6.out.2.trans (spoil_b H6.out.1 g7 (Nat.le_refl _) H6.out.2.size))
      clear g7
      go_wp2_with fail
      refine ⟨⟨j + 1, by omega, by go_num, below_next HJ.out H7.out⟩, by simp [intOf]; omega⟩
    · obtain rfl : j = 2 := by omega
      have P5 : Hid (∀ W, Below wr.heap.size wr W → (W.cell? ⟨w.heap.size, 0, none⟩ = some (.int .u8 (k : Int)) ∧ W.cell? ⟨w.heap.size, 1, none⟩ = some (.int .u32 (id : Int)) ∧ W.cell? ⟨w.heap.size, 2, none⟩ = some (.int .u16 (code : Int)) ∧ W.cell? ⟨w.heap.size, 3, none⟩ = some (.bool last) ∧ W.cell? ⟨w.heap.size, 4, none⟩ = some (.int .u64 (ep : Int)) ∧ W.cell? ⟨w.heap.size, 5, none⟩ = some (.int .u64 (fl : Int)) ∧ W.cell? ⟨w.heap.size, 6, none⟩ = some (.int .u64 (un : Int)) ∧ W.cell? ⟨w.heap.size, 7, none⟩ = some (.int .u64 (le : Int)) ∧ W.cell? ⟨w.heap.size, 8, none⟩ = some (.int .u64 (st : Int)) ∧ W.cell? ⟨w.heap.size, 9, none⟩ = some (.int .u64 (ti : Int)) ∧ W.cell? ⟨w.heap.size, 10, none⟩ = some (.slice A n c) ∧ W.cell? ⟨w.heap.size, 11, none⟩ = some (.slice G m d)) ∧ (W.cell? ⟨w.heap.size + 1, 0, none⟩ = some (.int .u8 (k' : Int)) ∧ W.cell? ⟨w.heap.size + 1, 1, none⟩ = some (.int .u32 (id' : Int)) ∧ W.cell? ⟨w.heap.size + 1, 2, none⟩ = some (.int .u16 (code' : Int)) ∧ W.cell? ⟨w.heap.size + 1, 3, none⟩ = some (.bool last') ∧ W.cell? ⟨w.heap.size + 1, 4, none⟩ = some (.int .u64 (ep' : Int)) ∧ W.cell? ⟨w.heap.size + 1, 5, none⟩ = some (.int .u64 (fl' : Int)) ∧ W.cell? ⟨w.heap.size + 1, 6, none⟩ = some (.int .u64 (un' : Int)) ∧ W.cell? ⟨w.heap.size + 1, 7, none⟩ = some (.int .u64 (le' : Int)) ∧ W.cell? ⟨w.heap.size + 1, 8, none⟩ = some (.int .u64 (st' : Int)) ∧ W.cell? ⟨w.heap.size + 1, 9, none⟩ = some (.int .u64 (ti' : Int)) ∧ W.cell? ⟨w.heap.size + 1, 10, none⟩ = some (.slice A' n' c') ∧ W.cell? ⟨w.heap.size + 1, 11, none⟩ = some (.slice G' m' d')) ∧ W.cell? ⟨w3.heap.size, 0, none⟩ = some (.int .u8 (k : Int)) ∧ W.cell? ⟨w3.heap.size, 1, none⟩ = some (.int .u32 (id : Int)) ∧ W.cell? ⟨w3.heap.size, 2, none⟩ = some (.int .u16 (code : Int)) ∧ W.cell? ⟨w3.heap.size, 3, none⟩ = some (.bool last) ∧ W.cell? ⟨w3.heap.size, 4, none⟩ = some (.int .u64 (ep : Int)) ∧ W.cell? ⟨w3.heap.size, 5, none⟩ = some (.int .u64 (fl : Int)) ∧ W.cell? ⟨w3.heap.size, 6, none⟩ = some (.int .u64 (un : Int)) ∧ W.cell? ⟨w3.heap.size, 7, none⟩ = some (.int .u64 (le : Int)) ∧ W.cell? ⟨w3.heap.size, 8, none⟩ = some (.int .u64 (st : Int)) ∧ W.cell? ⟨w3.heap.size, 9, none⟩ = some (.int .u64 (ti : Int)) ∧ W.cell? ⟨w3.heap.size, 10, none⟩ = some (.slice A3 n c3) ∧ W.cell? ⟨w3.heap.size, 11, none⟩ = some (.slice G3 m d3)) := Lib.hid fun W hW => by
        have h := below_next HJ.out hW
        obtain ⟨h1, h2⟩ := P.out W (below_next H4.out.1 h)
        exact ⟨h1, h2, RC8.out W w3.heap.size A3 c3 G3 d3 (H4.out.2.2.below h H4.out.2.2.lt)⟩
      have I5 : Hid (∀ W, Below wr.heap.size wr W → (⟨k, id, code, last, ep, fl, un, le, st, ti, A3, n, c3, G3, m, d3⟩ : Rp.V).In W W.heap.size rows gone) := Lib.hid fun W hW => by
        have h := below_next HJ.out hW
        exact (H4.out.2.1.below h (Nat.le_of_lt hz3)).more (Nat.le_trans (Nat.le_of_lt hz3) h.size)
      have Q5 : Hid (∀ W, Below wr.heap.size wr W → Below W0.heap.size W0 W) := Lib.hid fun W hW => below_next H4.out.1 (below_next HJ.out hW)
      have D0 : Hid (Below wr.heap.size wr wr.drew) := Lib.hid (Below.refl _ _).drew
      clear hbel
      go_upto_region 12 with (fail)
      go_region_held3 (fun W => (W.cell? ⟨w.heap.size, 0, none⟩ = some (.int .u8 (k : Int)) ∧ W.cell? ⟨w.heap.size, 1, none⟩ = some (.int .u32 (id : Int)) ∧ W.cell? ⟨w.heap.size, 2, none⟩ = some (.int .u16 (code : Int)) ∧ W.cell? ⟨w.heap.size, 3, none⟩ = some (.bool last) ∧ W.cell? ⟨w.heap.size, 4, none⟩ = some (.int .u64 (ep : Int)) ∧ W.cell? ⟨w.heap.size, 5, none⟩ = some (.int .u64 (fl : Int)) ∧ W.cell? ⟨w.heap.size, 6, none⟩ = some (.int .u64 (un : Int)) ∧ W.cell? ⟨w.heap.size, 7, none⟩ = some (.int .u64 (le : Int)) ∧ W.cell? ⟨w.heap.size, 8, none⟩ = some (.int .u64 (st : Int)) ∧ W.cell? ⟨w.heap.size, 9, none⟩ = some (.int .u64 (ti : Int)) ∧ W.cell? ⟨w.heap.size, 10, none⟩ = some (.slice A n c) ∧ W.cell? ⟨w.heap.size, 11, none⟩ = some (.slice G m d)) ∧ (W.cell? ⟨w.heap.size + 1, 0, none⟩ = some (.int .u8 (k' : Int)) ∧ W.cell? ⟨w.heap.size + 1, 1, none⟩ = some (.int .u32 (id' : Int)) ∧ W.cell? ⟨w.heap.size + 1, 2, none⟩ = some (.int .u16 (code' : Int)) ∧ W.cell? ⟨w.heap.size + 1, 3, none⟩ = some (.bool last') ∧ W.cell? ⟨w.heap.size + 1, 4, none⟩ = some (.int .u64 (ep' : Int)) ∧ W.cell? ⟨w.heap.size + 1, 5, none⟩ = some (.int .u64 (fl' : Int)) ∧ W.cell? ⟨w.heap.size + 1, 6, none⟩ = some (.int .u64 (un' : Int)) ∧ W.cell? ⟨w.heap.size + 1, 7, none⟩ = some (.int .u64 (le' : Int)) ∧ W.cell? ⟨w.heap.size + 1, 8, none⟩ = some (.int .u64 (st' : Int)) ∧ W.cell? ⟨w.heap.size + 1, 9, none⟩ = some (.int .u64 (ti' : Int)) ∧ W.cell? ⟨w.heap.size + 1, 10, none⟩ = some (.slice A' n' c') ∧ W.cell? ⟨w.heap.size + 1, 11, none⟩ = some (.slice G' m' d')) ∧ W.cell? ⟨w3.heap.size, 0, none⟩ = some (.int .u8 (k : Int)) ∧ W.cell? ⟨w3.heap.size, 1, none⟩ = some (.int .u32 (id : Int)) ∧ W.cell? ⟨w3.heap.size, 2, none⟩ = some (.int .u16 (code : Int)) ∧ W.cell? ⟨w3.heap.size, 3, none⟩ = some (.bool last) ∧ W.cell? ⟨w3.heap.size, 4, none⟩ = some (.int .u64 (ep : Int)) ∧ W.cell? ⟨w3.heap.size, 5, none⟩ = some (.int .u64 (fl : Int)) ∧ W.cell? ⟨w3.heap.size, 6, none⟩ = some (.int .u64 (un : Int)) ∧ W.cell? ⟨w3.heap.size, 7, none⟩ = some (.int .u64 (le : Int)) ∧ W.cell? ⟨w3.heap.size, 8, none⟩ = some (.int .u64 (st : Int)) ∧ W.cell? ⟨w3.heap.size, 9, none⟩ = some (.int .u64 (ti : Int)) ∧ W.cell? ⟨w3.heap.size, 10, none⟩ = some (.slice A3 n c3) ∧ W.cell? ⟨w3.heap.size, 11, none⟩ = some (.slice G3 m d3)) (first | with_reducible exact P5.out _ D0.out | with_reducible exact P5.out _ D1.out | with_reducible exact P5.out _ D2.out | with_reducible exact P5.out _ D3.out | with_reducible exact P5.out _ D4.out | with_reducible exact P5.out _ D5.out | with_reducible exact P5.out _ D6.out | with_reducible exact P5.out _ D7.out | with_reducible exact P5.out _ D8.out | with_reducible exact P5.out _ D9.out) (first
        | (go_at_call 14; (with_reducible refine (CRp.out _ (Q5.out _ D0.out)).mono ?_); rintro e v1 ⟨rfl, p1⟩; have D1 := Lib.hid (below_next D0.out p1); clear p1)
        | (go_at_call 15; (with_reducible refine (CRr.out _ A3 c3 G3 d3 (I5.out _ D1.out)).mono ?_); rintro e v2 ⟨rfl, p2⟩; have D2 := Lib.hid (below_next D1.out p2); clear p2)
        | (go_at_call 16; (with_reducible refine (CSxy.out _ (Q5.out _ D2.out)).mono ?_); rintro e v3 ⟨rfl, p3⟩; have D3 := Lib.hid (below_next D2.out p3); clear p3)
        | (go_at_call 9; (with_reducible refine (CDy.out _ (Q5.out _ D3.out)).mono ?_); rintro e v4 ⟨A13, c13, G13, d13, rfl, i13, p4⟩; have D4 := Lib.hid (below_next D3.out p4); have I13 := Lib.hid i13; clear p4 i13)
        | (go_at_call 17; (with_reducible refine (CSr.out _ A3 c3 G3 d3 A13 c13 G13 d13 (I5.out _ D4.out) I13.out).mono ?_); rintro e v5 ⟨rfl, p5⟩; have D5 := Lib.hid (below_next D4.out p5); clear p5)
        | (go_at_call 16; (with_reducible refine (CSxx.out _ (Q5.out _ D5.out)).mono ?_); rintro e v6 ⟨rfl, p6⟩; have D6 := Lib.hid (below_next D5.out p6); clear p6)
        | (go_at_call 9; (with_reducible refine (CDx.out _ (Q5.out _ D6.out)).mono ?_); rintro e v7 ⟨A14, c14, G14, d14, rfl, i14, p7⟩; have D7 := Lib.hid (below_next D6.out p7); have I14 := Lib.hid i14; clear p7 i14)
        | (go_at_call 17; (with_reducible refine (CSs.out _ A14 c14 G14 d14 A3 c3 G3 d3 I14.out (I5.out _ D7.out)).mono ?_); rintro e v8 ⟨rfl, p8⟩; have D8 := Lib.hid (below_next D7.out p8); clear p8)
        | (go_at_call 8; (with_reducible refine (works8_any _).mono ?_); rintro e v9 ⟨rfl, p9⟩; have D9 := Lib.hid (below_next D8.out p9); clear p9))
      all_goals (go_wp2_with fail)
      go_ret
      exact ⟨rfl, below_next HB.out (Q5.out _ D9.out)⟩
end Go.Proofs.Ytbdalpfpkofmlaa
