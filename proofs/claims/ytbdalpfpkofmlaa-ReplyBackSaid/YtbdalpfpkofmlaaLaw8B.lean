/- Layer 8's statement ReplyBack. -/
import Derived.Test.YtbdalpfpkofmlaaLaw8F
import Derived.Test.YtbdalpfpkofmlaaRpPa
import Derived.Test.YtbdalpfpkofmlaaRpY
import Derived.Test.YtbdalpfpkofmlaaRpZb
namespace Go.Proofs.Ytbdalpfpkofmlaa
open Go.ChangeShapes Go.WideShapes Go.ChangeAt Go.RowKit

theorem psp_in {w w' : World} {b : List Nat} {e : Ending} (h : PsP w b e w') : ∃ A c G d, e = .returned (.tuple #[((Rp.psx b).at_ A c G d).val, .int .i64 (Rp.pse b)]) ∧ ((Rp.psx b).at_ A c G d).In w' w'.heap.size (Rp.psr b) (Rp.psg b) ∧ Below w.heap.size w w' := by
  obtain ⟨A, c, G, d, he, h1, h2, hb⟩ := h
  exact ⟨A, c, G, d, he, ⟨RowsIn.of_own h1, PansIn.of_own h2⟩, hb⟩
theorem Rp.back8 (x : Rp.V) (rows : List Rw) (gone : List Pn) (h : x.right rows gone = true) (ok : x.ok) (hr : rows.length = x.n) (hg : gone.length = x.m) (hro : ∀ q ∈ rows, Rp.rwOk q) (hgo : ∀ q ∈ gone, Rp.pnOk q) :
    Rp.pse (x.bytes rows gone) = 0 ∧ Rp.psx (x.bytes rows gone) = x.at_ none 0 none 0 ∧ Rp.psr (x.bytes rows gone) = rows ∧ Rp.psg (x.bytes rows gone) = gone := by
  obtain ⟨h1, h2⟩ := Rp.back x rows gone h ok hr hg hro hgo
  have h0 : Rp.pse (x.bytes rows gone) = 0 := by
    unfold Rp.pse
    rw [if_neg (by rw [h1]; decide), h2]
    unfold Rp.Sg.err Rp.Sg.done
    dsimp only
    rw [Rp.right_at, h]
    rfl
  unfold Rp.psx Rp.psr Rp.psg
  rw [if_pos h0, if_pos h0, if_pos h0, h2]
  exact ⟨h0, rfl, rfl, rfl⟩
theorem same_b2 (n n' c c' B : Nat) (A A' : Option Addr) (l : List Nat) (w : World) (hn' : n = n') (hb : Bytes w B A n l) (hb' : Bytes w B A' n' l) (hn : n ≤ 9223372036854775807) : Calls Try.prog 12 #[.slice A n c, .slice A' n' c'] w fun e w' => e = .returned (.bool true) ∧ Below w.heap.size w w' := by
  subst hn'
  exact same_b n c c' B A A' l w hb hb' hn
theorem Rp.only_at : (Rp.only 0 0).at_ none 0 none 0 = Rp.only 0 0 := rfl
set_option maxRecDepth 100000 in
set_option maxHeartbeats 4000000 in
theorem replyBack_any (x : Rp.V) (rows : List Rw) (gone : List Pn) (N C : Nat) (Q : Option Addr) (l : List Nat) (w : World) (hx : x.In w w.heap.size rows gone) (okx : x.ok) (hro : ∀ q ∈ rows, (i64ok q.p.s ∧ i64ok q.p.e) ∧ aggOk q.a) (hgo : ∀ q ∈ gone, i64ok q.s ∧ i64ok q.e) (hq : Bytes w w.heap.size Q N l) (hN : N ≤ 9223372036854775807) : Calls Try.prog 6 #[x.val, .slice Q N C] w (LawP w) := by
  obtain ⟨W0, hW0⟩ : ∃ W, w.alloc (.cells x.cells 28) = W := ⟨_, rfl⟩
  have B0 : Below w.heap.size w W0 := by
    rw [← hW0]
    exact (Below.refl _ _).alloc (Nat.le_refl _) _
  have K1 : Blk W0 w.heap.size 28 x.cells := by
    rw [← hW0]
    exact Blk.new w _ _
  have P : Hid (∀ W, Below W0.heap.size W0 W → RepCells W w.heap.size x) := Lib.hid fun W hW => (rep_cells (K1.below hW K1.lt)).1
  have CF : Hid (∀ W, Below W0.heap.size W0 W → Calls Try.prog 7 #[x.val] W fun e w' => e = .returned (.bool (Rp.few x rows gone)) ∧ Below W.heap.size W w') := Lib.hid fun W hW => fewRep_any x rows gone w.heap.size W (hx.below (B0.trans (hW.mono B0.size)) (Nat.le_refl _)) (Nat.le_trans B0.size hW.size)
  have HB := Lib.hid B0
  cases hfx : Rp.few x rows gone
  · rw [hfx] at CF
    clear hfx hx okx hro hgo hq B0 K1
    obtain ⟨k, id, code, last, ep, fl, un, le, st, ti, A, n, c, G, m, d⟩ := x
    unfold Rp.V.val RepCells at *
    unfold Rp.V.cells at *
    dsimp only at *
    obtain ⟨u0, u1, u2, u3, u4, u5, u6, u7, u8, u9, u10, u11⟩ := P.out W0 (Below.refl _ _)
    go_enter Try.func6, Try.ntmps6
    go_wp2_with fail
    clear hW0 u0 u1 u2 u3 u4 u5 u6 u7 u8 u9 u10 u11
    refine (CF.out _ (Below.refl _ _)).mono ?_
    rintro e w1 ⟨rfl, b1⟩
    have H1 := Lib.hid (below_next HB.out b1)
    clear b1
    go_wp2_with fail
    refine (works8_any _).mono ?_
    rintro e w2 ⟨rfl, b2⟩
    have H2 := Lib.hid (below_next H1.out b2)
    clear b2
    go_wp2_with fail
    go_ret
    exact ⟨rfl, H2.out⟩
  rw [hfx] at CF
  by_cases h3 : 3000 < N
  · have h3' : (N : Int) > 3000 := by omega
    clear hfx hx okx hro hgo hq B0 K1
    obtain ⟨k, id, code, last, ep, fl, un, le, st, ti, A, n, c, G, m, d⟩ := x
    unfold Rp.V.val RepCells at *
    unfold Rp.V.cells at *
    dsimp only at *
    obtain ⟨u0, u1, u2, u3, u4, u5, u6, u7, u8, u9, u10, u11⟩ := P.out W0 (Below.refl _ _)
    go_enter Try.func6, Try.ntmps6
    go_wp2_with fail
    clear hW0 u0 u1 u2 u3 u4 u5 u6 u7 u8 u9 u10 u11
    refine (CF.out _ (Below.refl _ _)).mono ?_
    rintro e w1 ⟨rfl, b1⟩
    have H1 := Lib.hid (below_next HB.out b1)
    clear b1
    go_wp2_with fail
    refine (works8_any _).mono ?_
    rintro e w2 ⟨rfl, b2⟩
    have H2 := Lib.hid (below_next H1.out b2)
    clear b2
    go_wp2_with fail
    go_ret
    exact ⟨rfl, H2.out⟩
  obtain ⟨xn, xm, xrk, xgk⟩ := Rp.few_is hfx
  have h3' : ¬ ((N : Int) > 3000) := by omega
  have hl := hq.1
  have IX : Hid (∀ W, Below W0.heap.size W0 W → x.In W w.heap.size rows gone) := Lib.hid fun W hW => hx.below (B0.trans (hW.mono B0.size)) (Nat.le_refl _)
  have IQ : Hid (∀ W, Below W0.heap.size W0 W → Bytes W w.heap.size Q N l) := Lib.hid fun W hW => hq.below (B0.trans (hW.mono B0.size)) (Nat.le_refl _)
  have hsz : ∀ W, Below W0.heap.size W0 W → w.heap.size ≤ W.heap.size := fun W hW => Nat.le_trans B0.size hW.size
  obtain ⟨rr, hrr⟩ : ∃ r, x.right rows gone = r := ⟨_, rfl⟩
  obtain ⟨bs, hbs⟩ : ∃ r, Rp.putB x rows gone = r := ⟨_, rfl⟩
  have hbl : bs.length ≤ 5300 := by rw [← hbs]; exact Rp.putB_len x rows gone hx.1.1 hx.2.1
  have hblt : ∀ y ∈ bs, y < 256 := by rw [← hbs]; exact Rp.putB_lt x rows gone okx.1
  have CPut : Hid (∀ W, Below W0.heap.size W0 W → Calls Try.prog 11 #[x.val] W (PutR W bs (if rr then 0 else 81))) := Lib.hid fun W hW => by
    rw [← hbs, ← hrr]
    exact pPut8_any x rows gone w.heap.size W (IX.out W hW) (hsz W hW) okx (by omega) (by omega)
  have CRp : Hid (∀ W, Below W0.heap.size W0 W → Calls Try.prog 14 #[x.val] W fun e w' => e = .returned (.bool rr) ∧ Below W.heap.size W w') := Lib.hid fun W hW => by
    rw [← hrr]
    exact pRight8_any x rows gone w.heap.size W (IX.out W hW) (hsz W hW) okx (by omega) (by omega)
  obtain ⟨y, hy⟩ : ∃ y, Rp.psx l = y := ⟨_, rfl⟩
  obtain ⟨yr, hyr⟩ : ∃ y, Rp.psr l = y := ⟨_, rfl⟩
  obtain ⟨yg, hyg⟩ : ∃ y, Rp.psg l = y := ⟨_, rfl⟩
  obtain ⟨eb, heb⟩ : ∃ y, Rp.pse l = y := ⟨_, rfl⟩
  have CPb : Hid (∀ W, Below W0.heap.size W0 W → Calls Try.prog 20 #[.slice Q N C] W fun e w' => ∃ A c G d, e = .returned (.tuple #[(y.at_ A c G d).val, .int .i64 eb]) ∧ (y.at_ A c G d).In w' w'.heap.size yr yg ∧ Below W.heap.size W w') := Lib.hid fun W hW => by
    rw [← hy, ← hyr, ← hyg, ← heb]
    exact (pParse8_any N C w.heap.size Q l W (IQ.out W hW) (hsz W hW) (by omega)).mono fun e w' h => psp_in h
  have CPc : Hid (rr = true → ∀ W B A c, Bytes W B A bs.length bs → B ≤ W.heap.size → Calls Try.prog 20 #[.slice A bs.length c] W fun e w' => ∃ A c G d, e = .returned (.tuple #[(x.at_ A c G d).val, .int .i64 0]) ∧ (x.at_ A c G d).In w' w'.heap.size rows gone ∧ Below W.heap.size W w') := Lib.hid fun hr W B A c hb hB => by
    have hrt : x.right rows gone = true := hrr.trans hr
    have e : bs = x.bytes rows gone := by
      rw [← hbs]
      unfold Rp.putB
      rw [if_pos hrt]
    obtain ⟨e1, e2, e3, e4⟩ := Rp.back8 x rows gone hrt okx hx.1.1 hx.2.1 (fun q hq => ⟨⟨by have := xrk q hq; omega, (hro q hq).1⟩, (hro q hq).2⟩) (fun q hq => ⟨by have := xgk q hq; omega, hgo q hq⟩)
    refine (pParse8_any bs.length c B A bs W hb hB (by omega)).mono fun e' w' h => ?_
    have h := psp_in h
    rw [e, e1, e2, e3, e4] at h
    exact h
  have CSx : Hid (∀ W A c G d, Below W0.heap.size W0 W → (x.at_ A c G d).In W W.heap.size rows gone → Calls Try.prog 16 #[(x.at_ A c G d).val, x.val] W fun e w' => e = .returned (.bool true) ∧ Below W.heap.size W w') := Lib.hid fun W A c G d hW hin => by
    have h := psame8_any (x.at_ A c G d) x rows rows gone gone W.heap.size W hin ((IX.out W hW).more (hsz W hW)) (Nat.le_refl _) okx okx (by show x.n ≤ _; omega) (by show x.m ≤ _; omega) (by omega) (by omega)
    have e : Rp.same (x.at_ A c G d) x rows rows gone gone = true := Rp.same_at x rows gone A c G d x.A x.c x.G x.d
    rw [e] at h
    exact h
  have CSy : Hid (eb ≠ 0 → ∀ W A c G d, (y.at_ A c G d).In W W.heap.size yr yg → Calls Try.prog 16 #[(y.at_ A c G d).val, (Rp.only 0 0).val] W fun e w' => e = .returned (.bool true) ∧ Below W.heap.size W w') := Lib.hid fun h0 W A c G d hin => by
    have e1 : y = Rp.only 0 0 := by rw [← hy]; exact if_neg (by rw [heb]; exact h0)
    have e2 : yr = [] := by rw [← hyr]; exact if_neg (by rw [heb]; exact h0)
    have e3 : yg = [] := by rw [← hyg]; exact if_neg (by rw [heb]; exact h0)
    subst e1 e2 e3
    have ok0 : (Rp.only 0 0).ok := by unfold Rp.V.ok Rp.only; exact ⟨by decide, by decide, by decide, by decide, by decide, by decide, by decide, by decide, by decide⟩
    have h := psame8_any ((Rp.only 0 0).at_ A c G d) (Rp.only 0 0) [] [] [] [] W.heap.size W hin ⟨RowsIn.nil, PansIn.nil⟩ (Nat.le_refl _) ok0 ok0 (by show 0 ≤ _; omega) (by show 0 ≤ _; omega) (by show 0 ≤ _; omega) (by show 0 ≤ _; omega)
    have e : Rp.same ((Rp.only 0 0).at_ A c G d) (Rp.only 0 0) [] [] [] [] = true := Rp.same_at (Rp.only 0 0) [] [] A c G d none 0 none 0
    rw [e] at h
    exact h
  have hyok : eb = 0 → y.right yr yg = true ∧ y.bytes yr yg = l ∧ y.ok ∧ y.n ≤ 64 ∧ y.m ≤ 64 := fun h0 => by
    have h := heb.trans h0
    obtain ⟨f1, f2, f3, f4⟩ := Rp.forth hq.2.1 h
    have e1 : y = (Rp.fin l).x := by rw [← hy]; exact if_pos h
    have e2 : yr = (Rp.fin l).rows := by rw [← hyr]; exact if_pos h
    have e3 : yg = (Rp.fin l).gone := by rw [← hyg]; exact if_pos h
    have hk := (Rp.right_keys f1).2.2.2
    rw [e1, e2, e3]
    exact ⟨f1, f2, (Rp.fin_ok hq.2.1).1, by omega, by omega⟩
  have CPy : Hid (eb = 0 → ∀ W A c G d, (y.at_ A c G d).In W W.heap.size yr yg → Calls Try.prog 11 #[(y.at_ A c G d).val] W (PutR W l 0)) := Lib.hid fun h0 W A c G d hin => by
    obtain ⟨f1, f2, f3, f4, f5⟩ := hyok h0
    have h := pPut8_any (y.at_ A c G d) yr yg W.heap.size W hin (Nat.le_refl _) f3 (by show y.n ≤ _; omega) (by show y.m ≤ _; omega)
    rw [Rp.putB_at, Rp.putE_at] at h
    unfold Rp.putB Rp.putE at h
    rw [if_pos f1, if_pos f1, f2] at h
    exact h
  have CRy : Hid (eb = 0 → ∀ W A c G d, (y.at_ A c G d).In W W.heap.size yr yg → Calls Try.prog 14 #[(y.at_ A c G d).val] W fun e w' => e = .returned (.bool true) ∧ Below W.heap.size W w') := Lib.hid fun h0 W A c G d hin => by
    obtain ⟨f1, f2, f3, f4, f5⟩ := hyok h0
    have h := pRight8_any (y.at_ A c G d) yr yg W.heap.size W hin (Nat.le_refl _) f3 (by show y.n ≤ _; omega) (by show y.m ≤ _; omega)
    rw [Rp.right_at, f1] at h
    exact h
  have RC : Hid (∀ (Y : Rp.V) (W : World) g A c G d, Blk W g 28 (Y.at_ A c G d).cells → RepCells W g (Y.at_ A c G d)) := Lib.hid fun Y W g A c G d hW => (rep_cells hW).1
  have RCx := Lib.hid (RC.out x)
  have RCy := Lib.hid (RC.out y)
  have HBL := Lib.hid hblt
  have HQL := Lib.hid hq.2.1
  have hll : l.length = N := hl
  clear hx okx hro hgo hq B0 K1 hfx xn xm xrk xgk hl IX hrr hbs hblt hy hyr hyg heb hyok RC hsz
  cases rr
  · rw [show (if false = true then (0 : Int) else 81) = 81 from rfl] at CPut
    by_cases h0 : eb = 0
    · subst h0
      clear CPc CSx RCx
      have CPz := Lib.hid (CPy.out rfl)
      have CRz := Lib.hid (CRy.out rfl)
      clear CSy CPy CRy
      obtain ⟨k, id, code, last, ep, fl, un, le, st, ti, A, n, c, G, m, d⟩ := x
      obtain ⟨k', id', code', last', ep', fl', un', le', st', ti', A', n', c', G', m', d'⟩ := y
      unfold Rp.V.at_ Rp.V.val RepCells at *
      unfold Rp.V.cells at *
      dsimp only at *
      obtain ⟨u0, u1, u2, u3, u4, u5, u6, u7, u8, u9, u10, u11⟩ := P.out W0 (Below.refl _ _)
      go_enter Try.func6, Try.ntmps6
      go_wp2_with fail
      clear hW0 u0 u1 u2 u3 u4 u5 u6 u7 u8 u9 u10 u11
      refine (CF.out _ (Below.refl _ _)).mono ?_
      rintro e w1 ⟨rfl, b1⟩
      obtain ⟨u0, u1, u2, u3, u4, u5, u6, u7, u8, u9, u10, u11⟩ := P.out w1 b1
      have H1 := Lib.hid b1
      clear b1
      go_wp2_with fail
      clear u0 u1 u2 u3 u4 u5 u6 u7 u8 u9 u10 u11
      refine (CPut.out _ H1.out).mono ?_
      rintro e w2 ⟨A2, c2, rfl, o2, b2⟩
      obtain ⟨u0, u1, u2, u3, u4, u5, u6, u7, u8, u9, u10, u11⟩ := P.out w2 (below_next H1.out b2)
      have H2 := Lib.hid (And.intro (below_next H1.out b2) o2)
      clear b2 o2
      go_wp2_with fail
      clear u0 u1 u2 u3 u4 u5 u6 u7 u8 u9 u10 u11
      refine (CRp.out _ H2.out.1).mono ?_
      rintro e w3 ⟨rfl, b3⟩
      have H3 := Lib.hid (And.intro (below_next H2.out.1 b3) (own_below H2.out.2 b3))
      clear b3
      go_wp2_with fail
      refine (CPb.out _ H3.out.1).mono ?_
      rintro e w6 ⟨A6, c6, G6, d6, rfl, i6, b6⟩
      have a6 : Below w6.heap.size w6 (w6.alloc (.cells #[.int .u8 (k' : Int), .int .u32 (id' : Int), .int .u16 (code' : Int), .bool last', .int .u64 (ep' : Int), .int .u64 (fl' : Int), .int .u64 (un' : Int), .int .u64 (le' : Int), .int .u64 (st' : Int), .int .u64 (ti' : Int), .slice A6 n' c6, .slice G6 m' d6] 28)) := (Below.refl _ _).alloc (Nat.le_refl _) _
      have H6 := Lib.hid (And.intro (below_next (below_next H3.out.1 b6) a6) (And.intro (i6.below a6 (Nat.le_refl _)) (Blk.new w6 28 #[.int .u8 (k' : Int), .int .u32 (id' : Int), .int .u16 (code' : Int), .bool last', .int .u64 (ep' : Int), .int .u64 (fl' : Int), .int .u64 (un' : Int), .int .u64 (le' : Int), .int .u64 (st' : Int), .int .u64 (ti' : Int), .slice A6 n' c6, .slice G6 m' d6])))
      obtain ⟨u0, u1, u2, u3, u4, u5, u6, u7, u8, u9, u10, u11⟩ := RCy.out _ _ _ _ _ _ H6.out.2.2
      clear b6 i6 a6
      go_wp2_with fail
      clear u0 u1 u2 u3 u4 u5 u6 u7 u8 u9 u10 u11
      refine (CPz.out _ A6 c6 G6 d6 (H6.out.2.1.more (by simp))).mono ?_
      rintro e w7 ⟨A7, c7, rfl, o7, b7⟩
      have H7 := Lib.hid (And.intro (below_next H6.out.1 b7) (And.intro o7 (And.intro (H6.out.2.1.below b7 (by simp)) (H6.out.2.2.below b7 H6.out.2.2.lt))))
      obtain ⟨u0, u1, u2, u3, u4, u5, u6, u7, u8, u9, u10, u11⟩ := RCy.out _ _ _ _ _ _ H7.out.2.2.2
      have hz7 : w6.heap.size ≤ w7.heap.size := by have := b7.size; simp at this; omega
      clear b7 o7
      go_wp2_with fail
      clear u0 u1 u2 u3 u4 u5 u6 u7 u8 u9 u10 u11
      refine (CRz.out _ A6 c6 G6 d6 (H7.out.2.2.1.more hz7)).mono ?_
      rintro e w8 ⟨rfl, b8⟩
      have H8 := Lib.hid (And.intro (below_next H7.out.1 b8) (own_below H7.out.2.1 b8))
      clear b8
      go_wp2_with fail
      have q8 := Bytes.of_own H8.out.2 HQL.out
      rw [hll] at q8
      refine (same_b N c7 C w8.heap.size A7 Q l w8 q8 ((IQ.out _ H8.out.1).more (Nat.le_trans HB.out.size H8.out.1.size)) (by omega)).mono ?_
      rintro e w9 ⟨rfl, b9⟩
      have H9 := Lib.hid (below_next H8.out.1 b9)
      clear b9
      go_wp2_with fail
      refine (works8_any _).mono ?_
      rintro e w10 ⟨rfl, b10⟩
      have H10 := Lib.hid (below_next H9.out b10)
      clear b10
      go_wp2_with fail
      go_ret
      exact ⟨rfl, below_next HB.out H10.out⟩
    · skip
      clear CPc CSx RCx
      have CSz := Lib.hid (CSy.out h0)
      have hne : (eb == 0) = false := by simpa using h0
      have hne2 : (eb != 0) = true := by simpa using h0
      clear CSy CPy CRy
      obtain ⟨k, id, code, last, ep, fl, un, le, st, ti, A, n, c, G, m, d⟩ := x
      obtain ⟨k', id', code', last', ep', fl', un', le', st', ti', A', n', c', G', m', d'⟩ := y
      unfold Rp.V.at_ Rp.V.val RepCells at *
      unfold Rp.V.cells at *
      unfold Rp.only at *
      dsimp only at *
      obtain ⟨u0, u1, u2, u3, u4, u5, u6, u7, u8, u9, u10, u11⟩ := P.out W0 (Below.refl _ _)
      go_enter Try.func6, Try.ntmps6
      go_wp2_with fail
      clear hW0 u0 u1 u2 u3 u4 u5 u6 u7 u8 u9 u10 u11
      refine (CF.out _ (Below.refl _ _)).mono ?_
      rintro e w1 ⟨rfl, b1⟩
      obtain ⟨u0, u1, u2, u3, u4, u5, u6, u7, u8, u9, u10, u11⟩ := P.out w1 b1
      have H1 := Lib.hid b1
      clear b1
      go_wp2_with fail
      clear u0 u1 u2 u3 u4 u5 u6 u7 u8 u9 u10 u11
      refine (CPut.out _ H1.out).mono ?_
      rintro e w2 ⟨A2, c2, rfl, o2, b2⟩
      obtain ⟨u0, u1, u2, u3, u4, u5, u6, u7, u8, u9, u10, u11⟩ := P.out w2 (below_next H1.out b2)
      have H2 := Lib.hid (And.intro (below_next H1.out b2) o2)
      clear b2 o2
      go_wp2_with fail
      clear u0 u1 u2 u3 u4 u5 u6 u7 u8 u9 u10 u11
      refine (CRp.out _ H2.out.1).mono ?_
      rintro e w3 ⟨rfl, b3⟩
      have H3 := Lib.hid (And.intro (below_next H2.out.1 b3) (own_below H2.out.2 b3))
      clear b3
      go_wp2_with fail
      refine (CPb.out _ H3.out.1).mono ?_
      rintro e w6 ⟨A6, c6, G6, d6, rfl, i6, b6⟩
      have a6 : Below w6.heap.size w6 (w6.alloc (.cells #[.int .u8 (k' : Int), .int .u32 (id' : Int), .int .u16 (code' : Int), .bool last', .int .u64 (ep' : Int), .int .u64 (fl' : Int), .int .u64 (un' : Int), .int .u64 (le' : Int), .int .u64 (st' : Int), .int .u64 (ti' : Int), .slice A6 n' c6, .slice G6 m' d6] 28)) := (Below.refl _ _).alloc (Nat.le_refl _) _
      have H6 := Lib.hid (And.intro (below_next (below_next H3.out.1 b6) a6) (And.intro (i6.below a6 (Nat.le_refl _)) (Blk.new w6 28 #[.int .u8 (k' : Int), .int .u32 (id' : Int), .int .u16 (code' : Int), .bool last', .int .u64 (ep' : Int), .int .u64 (fl' : Int), .int .u64 (un' : Int), .int .u64 (le' : Int), .int .u64 (st' : Int), .int .u64 (ti' : Int), .slice A6 n' c6, .slice G6 m' d6])))
      obtain ⟨u0, u1, u2, u3, u4, u5, u6, u7, u8, u9, u10, u11⟩ := RCy.out _ _ _ _ _ _ H6.out.2.2
      clear b6 i6 a6
      go_wp2_with fail
      clear u0 u1 u2 u3 u4 u5 u6 u7 u8 u9 u10 u11
      refine (CSz.out _ A6 c6 G6 d6 (H6.out.2.1.more (by simp))).mono ?_
      rintro e w7 ⟨rfl, b7⟩
      have H7 := Lib.hid (below_next H6.out.1 b7)
      clear b7
      go_wp2_with fail
      refine (works8_any _).mono ?_
      rintro e w8 ⟨rfl, b8⟩
      have H8 := Lib.hid (below_next H7.out b8)
      clear b8
      go_wp2_with fail
      go_ret
      exact ⟨rfl, below_next HB.out H8.out⟩
  · rw [show (if true = true then (0 : Int) else 81) = 0 from rfl] at CPut
    by_cases h0 : eb = 0
    · subst h0
      have CPx := Lib.hid (CPc.out rfl)
      clear CPc
      have CPz := Lib.hid (CPy.out rfl)
      have CRz := Lib.hid (CRy.out rfl)
      clear CSy CPy CRy
      obtain ⟨k, id, code, last, ep, fl, un, le, st, ti, A, n, c, G, m, d⟩ := x
      obtain ⟨k', id', code', last', ep', fl', un', le', st', ti', A', n', c', G', m', d'⟩ := y
      unfold Rp.V.at_ Rp.V.val RepCells at *
      unfold Rp.V.cells at *
      dsimp only at *
      obtain ⟨u0, u1, u2, u3, u4, u5, u6, u7, u8, u9, u10, u11⟩ := P.out W0 (Below.refl _ _)
      go_enter Try.func6, Try.ntmps6
      go_wp2_with fail
      clear hW0 u0 u1 u2 u3 u4 u5 u6 u7 u8 u9 u10 u11
      refine (CF.out _ (Below.refl _ _)).mono ?_
      rintro e w1 ⟨rfl, b1⟩
      obtain ⟨u0, u1, u2, u3, u4, u5, u6, u7, u8, u9, u10, u11⟩ := P.out w1 b1
      have H1 := Lib.hid b1
      clear b1
      go_wp2_with fail
      clear u0 u1 u2 u3 u4 u5 u6 u7 u8 u9 u10 u11
      refine (CPut.out _ H1.out).mono ?_
      rintro e w2 ⟨A2, c2, rfl, o2, b2⟩
      obtain ⟨u0, u1, u2, u3, u4, u5, u6, u7, u8, u9, u10, u11⟩ := P.out w2 (below_next H1.out b2)
      have H2 := Lib.hid (And.intro (below_next H1.out b2) o2)
      clear b2 o2
      go_wp2_with fail
      clear u0 u1 u2 u3 u4 u5 u6 u7 u8 u9 u10 u11
      refine (CRp.out _ H2.out.1).mono ?_
      rintro e w3 ⟨rfl, b3⟩
      have H3 := Lib.hid (And.intro (below_next H2.out.1 b3) (own_below H2.out.2 b3))
      clear b3
      go_wp2_with fail
      refine (CPx.out w3 w3.heap.size A2 c2 (Bytes.of_own H3.out.2 HBL.out) (Nat.le_refl _)).mono ?_
      rintro e w4 ⟨A4, c4, G4, d4, rfl, i4, b4⟩
      have a4 : Below w4.heap.size w4 (w4.alloc (.cells #[.int .u8 (k : Int), .int .u32 (id : Int), .int .u16 (code : Int), .bool last, .int .u64 (ep : Int), .int .u64 (fl : Int), .int .u64 (un : Int), .int .u64 (le : Int), .int .u64 (st : Int), .int .u64 (ti : Int), .slice A4 n c4, .slice G4 m d4] 28)) := (Below.refl _ _).alloc (Nat.le_refl _) _
      have H4 := Lib.hid (And.intro (below_next (below_next H3.out.1 b4) a4) (And.intro (i4.below a4 (Nat.le_refl _)) (Blk.new w4 28 #[.int .u8 (k : Int), .int .u32 (id : Int), .int .u16 (code : Int), .bool last, .int .u64 (ep : Int), .int .u64 (fl : Int), .int .u64 (un : Int), .int .u64 (le : Int), .int .u64 (st : Int), .int .u64 (ti : Int), .slice A4 n c4, .slice G4 m d4])))
      obtain ⟨u0, u1, u2, u3, u4, u5, u6, u7, u8, u9, u10, u11⟩ := P.out _ H4.out.1
      obtain ⟨v0, v1, v2, v3, v4, v5, v6, v7, v8, v9, v10, v11⟩ := RCx.out _ _ _ _ _ _ H4.out.2.2
      clear b4 i4 a4
      go_wp2_with fail
      clear u0 u1 u2 u3 u4 u5 u6 u7 u8 u9 u10 u11 v0 v1 v2 v3 v4 v5 v6 v7 v8 v9 v10 v11
      refine (CSx.out _ A4 c4 G4 d4 H4.out.1 (H4.out.2.1.more (by simp))).mono ?_
      rintro e w5 ⟨rfl, b5⟩
      have H5 := Lib.hid (below_next H4.out.1 b5)
      clear b5
      go_wp2_with fail
      refine (CPb.out _ H5.out).mono ?_
      rintro e w6 ⟨A6, c6, G6, d6, rfl, i6, b6⟩
      have a6 : Below w6.heap.size w6 (w6.alloc (.cells #[.int .u8 (k' : Int), .int .u32 (id' : Int), .int .u16 (code' : Int), .bool last', .int .u64 (ep' : Int), .int .u64 (fl' : Int), .int .u64 (un' : Int), .int .u64 (le' : Int), .int .u64 (st' : Int), .int .u64 (ti' : Int), .slice A6 n' c6, .slice G6 m' d6] 28)) := (Below.refl _ _).alloc (Nat.le_refl _) _
      have H6 := Lib.hid (And.intro (below_next (below_next H5.out b6) a6) (And.intro (i6.below a6 (Nat.le_refl _)) (Blk.new w6 28 #[.int .u8 (k' : Int), .int .u32 (id' : Int), .int .u16 (code' : Int), .bool last', .int .u64 (ep' : Int), .int .u64 (fl' : Int), .int .u64 (un' : Int), .int .u64 (le' : Int), .int .u64 (st' : Int), .int .u64 (ti' : Int), .slice A6 n' c6, .slice G6 m' d6])))
      obtain ⟨u0, u1, u2, u3, u4, u5, u6, u7, u8, u9, u10, u11⟩ := RCy.out _ _ _ _ _ _ H6.out.2.2
      clear b6 i6 a6
      go_wp2_with fail
      clear u0 u1 u2 u3 u4 u5 u6 u7 u8 u9 u10 u11
      refine (CPz.out _ A6 c6 G6 d6 (H6.out.2.1.more (by simp))).mono ?_
      rintro e w7 ⟨A7, c7, rfl, o7, b7⟩
      have H7 := Lib.hid (And.intro (below_next H6.out.1 b7) (And.intro o7 (And.intro (H6.out.2.1.below b7 (by simp)) (H6.out.2.2.below b7 H6.out.2.2.lt))))
      obtain ⟨u0, u1, u2, u3, u4, u5, u6, u7, u8, u9, u10, u11⟩ := RCy.out _ _ _ _ _ _ H7.out.2.2.2
      have hz7 : w6.heap.size ≤ w7.heap.size := by have := b7.size; simp at this; omega
      clear b7 o7
      go_wp2_with fail
      clear u0 u1 u2 u3 u4 u5 u6 u7 u8 u9 u10 u11
      refine (CRz.out _ A6 c6 G6 d6 (H7.out.2.2.1.more hz7)).mono ?_
      rintro e w8 ⟨rfl, b8⟩
      have H8 := Lib.hid (And.intro (below_next H7.out.1 b8) (own_below H7.out.2.1 b8))
      clear b8
      go_wp2_with fail
      have q8 := Bytes.of_own H8.out.2 HQL.out
      rw [hll] at q8
      refine (same_b N c7 C w8.heap.size A7 Q l w8 q8 ((IQ.out _ H8.out.1).more (Nat.le_trans HB.out.size H8.out.1.size)) (by omega)).mono ?_
      rintro e w9 ⟨rfl, b9⟩
      have H9 := Lib.hid (below_next H8.out.1 b9)
      clear b9
      go_wp2_with fail
      refine (works8_any _).mono ?_
      rintro e w10 ⟨rfl, b10⟩
      have H10 := Lib.hid (below_next H9.out b10)
      clear b10
      go_wp2_with fail
      go_ret
      exact ⟨rfl, below_next HB.out H10.out⟩
    · skip
      have CPx := Lib.hid (CPc.out rfl)
      clear CPc
      have CSz := Lib.hid (CSy.out h0)
      have hne : (eb == 0) = false := by simpa using h0
      have hne2 : (eb != 0) = true := by simpa using h0
      clear CSy CPy CRy
      obtain ⟨k, id, code, last, ep, fl, un, le, st, ti, A, n, c, G, m, d⟩ := x
      obtain ⟨k', id', code', last', ep', fl', un', le', st', ti', A', n', c', G', m', d'⟩ := y
      unfold Rp.V.at_ Rp.V.val RepCells at *
      unfold Rp.V.cells at *
      unfold Rp.only at *
      dsimp only at *
      obtain ⟨u0, u1, u2, u3, u4, u5, u6, u7, u8, u9, u10, u11⟩ := P.out W0 (Below.refl _ _)
      go_enter Try.func6, Try.ntmps6
      go_wp2_with fail
      clear hW0 u0 u1 u2 u3 u4 u5 u6 u7 u8 u9 u10 u11
      refine (CF.out _ (Below.refl _ _)).mono ?_
      rintro e w1 ⟨rfl, b1⟩
      obtain ⟨u0, u1, u2, u3, u4, u5, u6, u7, u8, u9, u10, u11⟩ := P.out w1 b1
      have H1 := Lib.hid b1
      clear b1
      go_wp2_with fail
      clear u0 u1 u2 u3 u4 u5 u6 u7 u8 u9 u10 u11
      refine (CPut.out _ H1.out).mono ?_
      rintro e w2 ⟨A2, c2, rfl, o2, b2⟩
      obtain ⟨u0, u1, u2, u3, u4, u5, u6, u7, u8, u9, u10, u11⟩ := P.out w2 (below_next H1.out b2)
      have H2 := Lib.hid (And.intro (below_next H1.out b2) o2)
      clear b2 o2
      go_wp2_with fail
      clear u0 u1 u2 u3 u4 u5 u6 u7 u8 u9 u10 u11
      refine (CRp.out _ H2.out.1).mono ?_
      rintro e w3 ⟨rfl, b3⟩
      have H3 := Lib.hid (And.intro (below_next H2.out.1 b3) (own_below H2.out.2 b3))
      clear b3
      go_wp2_with fail
      refine (CPx.out w3 w3.heap.size A2 c2 (Bytes.of_own H3.out.2 HBL.out) (Nat.le_refl _)).mono ?_
      rintro e w4 ⟨A4, c4, G4, d4, rfl, i4, b4⟩
      have a4 : Below w4.heap.size w4 (w4.alloc (.cells #[.int .u8 (k : Int), .int .u32 (id : Int), .int .u16 (code : Int), .bool last, .int .u64 (ep : Int), .int .u64 (fl : Int), .int .u64 (un : Int), .int .u64 (le : Int), .int .u64 (st : Int), .int .u64 (ti : Int), .slice A4 n c4, .slice G4 m d4] 28)) := (Below.refl _ _).alloc (Nat.le_refl _) _
      have H4 := Lib.hid (And.intro (below_next (below_next H3.out.1 b4) a4) (And.intro (i4.below a4 (Nat.le_refl _)) (Blk.new w4 28 #[.int .u8 (k : Int), .int .u32 (id : Int), .int .u16 (code : Int), .bool last, .int .u64 (ep : Int), .int .u64 (fl : Int), .int .u64 (un : Int), .int .u64 (le : Int), .int .u64 (st : Int), .int .u64 (ti : Int), .slice A4 n c4, .slice G4 m d4])))
      obtain ⟨u0, u1, u2, u3, u4, u5, u6, u7, u8, u9, u10, u11⟩ := P.out _ H4.out.1
      obtain ⟨v0, v1, v2, v3, v4, v5, v6, v7, v8, v9, v10, v11⟩ := RCx.out _ _ _ _ _ _ H4.out.2.2
      clear b4 i4 a4
      go_wp2_with fail
      clear u0 u1 u2 u3 u4 u5 u6 u7 u8 u9 u10 u11 v0 v1 v2 v3 v4 v5 v6 v7 v8 v9 v10 v11
      refine (CSx.out _ A4 c4 G4 d4 H4.out.1 (H4.out.2.1.more (by simp))).mono ?_
      rintro e w5 ⟨rfl, b5⟩
      have H5 := Lib.hid (below_next H4.out.1 b5)
      clear b5
      go_wp2_with fail
      refine (CPb.out _ H5.out).mono ?_
      rintro e w6 ⟨A6, c6, G6, d6, rfl, i6, b6⟩
      have a6 : Below w6.heap.size w6 (w6.alloc (.cells #[.int .u8 (k' : Int), .int .u32 (id' : Int), .int .u16 (code' : Int), .bool last', .int .u64 (ep' : Int), .int .u64 (fl' : Int), .int .u64 (un' : Int), .int .u64 (le' : Int), .int .u64 (st' : Int), .int .u64 (ti' : Int), .slice A6 n' c6, .slice G6 m' d6] 28)) := (Below.refl _ _).alloc (Nat.le_refl _) _
      have H6 := Lib.hid (And.intro (below_next (below_next H5.out b6) a6) (And.intro (i6.below a6 (Nat.le_refl _)) (Blk.new w6 28 #[.int .u8 (k' : Int), .int .u32 (id' : Int), .int .u16 (code' : Int), .bool last', .int .u64 (ep' : Int), .int .u64 (fl' : Int), .int .u64 (un' : Int), .int .u64 (le' : Int), .int .u64 (st' : Int), .int .u64 (ti' : Int), .slice A6 n' c6, .slice G6 m' d6])))
      obtain ⟨u0, u1, u2, u3, u4, u5, u6, u7, u8, u9, u10, u11⟩ := RCy.out _ _ _ _ _ _ H6.out.2.2
      clear b6 i6 a6
      go_wp2_with fail
      clear u0 u1 u2 u3 u4 u5 u6 u7 u8 u9 u10 u11
      refine (CSz.out _ A6 c6 G6 d6 (H6.out.2.1.more (by simp))).mono ?_
      rintro e w7 ⟨rfl, b7⟩
      have H7 := Lib.hid (below_next H6.out.1 b7)
      clear b7
      go_wp2_with fail
      refine (works8_any _).mono ?_
      rintro e w8 ⟨rfl, b8⟩
      have H8 := Lib.hid (below_next H7.out b8)
      clear b8
      go_wp2_with fail
      go_ret
      exact ⟨rfl, below_next HB.out H8.out⟩
end Go.Proofs.Ytbdalpfpkofmlaa
