/- Layer 9's reference: Put. -/
import Derived.Test.YtgailpljcobabaaDoorRqL
import Derived.Test.YtgailpljcobabaaDoorRqF
namespace Go.Proofs.YtgailpljcobabaaDoor
open Go.ChangeShapes Go.WideShapes Go.ChangeAt Go.RowKit

theorem Gw.held {w0 W : World} {cs : Array Value} {g c n : Nat} {l : List Nat} (h : Gw w0 W cs g c n l) : Held w0 W [(w0.heap.size, 33, cs)] := h.1
theorem be_one9 (n : Nat) (h : n < 256) : Pk.be 1 n = [n] := by
  simp [Pk.be]
  omega
theorem putR_of {w w' : World} {bs l : List Nat} {g c n : Nat} {cs : Array Value} (hb : bs = l) (hG : Gw w w' cs g c n l) : PutR w bs 0 (.returned (.tuple #[.slice (some ⟨g, 0, none⟩) n c, .int .i64 0])) w' := by
  subst hb
  have hn : bs.length = n := by have := hG.2.1.1; rw [u8s_len] at this; omega
  unfold PutR
  rw [hn]
  exact ⟨_, _, rfl, own_lower hG.2.1 (Nat.le_succ _), hG.1.1⟩
theorem Src.one (W : World) (y : Nat) : Src (W.alloc (.cells #[.int .u8 (y : Int)] 5)) W.heap.size [y] := ⟨by simp, fun j u hu => by
  obtain ⟨hj, rfl⟩ := u8s_get hu
  obtain rfl : j = 0 := by simpa using hj
  rw [add_at]
  exact (Blk.new W _ _).cell 0⟩
theorem num8_any (n : Nat) (w : World) (hn : n < 18446744073709551616) : Calls Tryd.prog 25 #[.int .u64 (n : Int), .int .i64 8] w (OwnPost w 8 (Pk.be 8 n)) := refNumber_any _ n 8 w rfl hn (by unfold Size; omega)
set_option maxRecDepth 100000 in
set_option maxHeartbeats 20000000 in
theorem refPut9_any (x : Rq.V) (w : World) (ok : x.ok) : Calls Tryd.prog 9 #[x.val] w (PutR w x.putB x.putE) := by
  obtain ⟨iu, hu, hu0, hu1, hu2⟩ := info_parts Tryd.info5
  have HU := Lib.hid (And.intro hu (And.intro hu0 (And.intro hu1 hu2)))
  clear hu hu0 hu1 hu2
  have S0 := (Held.start w).new x.cells 33
  have HS := Lib.hid S0
  have CR : Hid (∀ W, Calls Tryd.prog 15 #[x.val] W fun e w' => e = .returned (.bool x.right) ∧ Below W.heap.size W w') := Lib.hid fun W => refRight9_any x W
  have RC : Hid (∀ W, Held w W [(w.heap.size, 33, x.cells)] → ReqCells W w.heap.size x) := Lib.hid fun W hW => (req_cells hW.top).1
  obtain ⟨r0, r1, r2, r3, r4, r5, r6, r7, r8, r9, r10⟩ := RC.out _ S0
  cases hr : x.right
  · have e1 : x.putB = [] := by unfold Rq.V.putB; rw [hr]; rfl
    have e2 : x.putE = 81 := by unfold Rq.V.putE; rw [hr]; rfl
    rw [e1, e2]
    rw [hr] at CR
    clear e1 e2 S0 ok hr
    obtain ⟨k, id, pg, du, a, l, s, ky, to, lo, hi⟩ := x
    unfold Rq.V.val ReqCells at *
    unfold Rq.V.cells at *
    dsimp only at *
    go_enter Tryd.func9, Tryd.ntmps9
    go_wp2_with fail
    refine (CR.out _).mono ?_
    rintro e w1 ⟨rfl, p1⟩
    have H1 := Lib.hid (HS.out.step p1)
    clear p1
    go_wp2_with fail
    go_ret2
    exact ⟨none, 0, rfl, own_nil _ _ _ _, H1.out.1⟩
  have e1 : x.putB = x.bytes := by unfold Rq.V.putB; rw [hr]; rfl
  have e2 : x.putE = 0 := by unfold Rq.V.putE; rw [hr]; rfl
  rw [e1, e2]
  obtain ⟨hk1, hk2⟩ := Rq.V.right_keys hr
  have hK := (x.right_iff.1 hr).1
  rw [hr] at CR
  have CP : Hid (∀ W, Calls Tryd.prog 26 #[x.val] W (OwnPost W (1 + (x.ky.size + 2) + (x.to.size + 2) + 8 + 8) x.panes)) := Lib.hid fun W => refPanes_any x W (by omega) (by omega)
  have hple : x.panes.length = 1 + (x.ky.size + 2) + (x.to.size + 2) + 8 + 8 := by
    simp [Rq.V.panes, Rq.tx_len, Pk.be_len, nums_len]
    omega
  obtain ⟨o0, o1, o2, o3, o4, o5, o6, -, -⟩ := ok
  obtain ⟨pn, hpn⟩ : ∃ pn, x.panes = pn := ⟨_, rfl⟩
  obtain ⟨bs, hbs⟩ : ∃ bs, x.bytes = bs := ⟨_, rfl⟩
  rw [hpn] at CP hple
  rw [hbs]
  have hbs2 : bs = ([Pk.be 1 x.k, Pk.be 4 x.id] ++ (Rq.fparts x.k).map x.enc).flatten := hbs.symm
  have hpn2 : pn = Pk.be 1 x.so ++ (Pk.be 8 (Rq.u x.lo) ++ Pk.be 8 (Rq.u x.hi)) ∨ True := .inr trivial
  clear hpn2
  have hpe : pn = x.enc 6 ++ (x.enc 7 ++ (x.enc 8 ++ (x.enc 9 ++ x.enc 10))) := by
    rw [← hpn]
    show [x.so] ++ _ ++ _ ++ _ ++ _ = Pk.be 1 x.so ++ (Pk.tx (nums x.ky) ++ (Pk.tx (nums x.to) ++ (Pk.be 8 (Rq.u x.lo) ++ Pk.be 8 (Rq.u x.hi))))
    rw [be_one9 _ o6]
    simp only [List.append_assoc]
  have HB := Lib.hid (And.intro hbs2 hpe)
  clear e1 e2 S0 hr hbs hpn hbs2 hpe
  have hn1 : x.k < 256 := o0
  obtain ⟨k, id, pg, du, a, l, s, ky, to, lo, hi⟩ := x
  unfold Rq.V.val ReqCells at *
  unfold Rq.V.cells at *
  dsimp only at *
  have hiw : IntKind.u64.wrap (id : Int) = id := by rw [IntKind.wrap_u64]; omega
  have hdw : IntKind.u64.wrap (du : Int) = du := by rw [IntKind.wrap_u64]; omega
  have l8 : ∀ n, (u8s (Pk.be 8 n)).length = 8 * 1 := fun n => by rw [u8s_len, Pk.be_len]
  have l4 : ∀ n, (u8s (Pk.be 4 n)).length = 4 * 1 := fun n => by rw [u8s_len, Pk.be_len]
  have l2 : ∀ n, (u8s (Pk.be 2 n)).length = 2 * 1 := fun n => by rw [u8s_len, Pk.be_len]
  have lp : (u8s pn).length = (1 + (ky.size + 2) + (to.size + 2) + 8 + 8) * 1 := by rw [u8s_len, hple]; omega
  go_enter Tryd.func9, Tryd.ntmps9
  go_wp2_with fail
  refine (CR.out _).mono ?_
  rintro e w1 ⟨rfl, p1⟩
  have S1 := HS.out.step p1
  have hz1 : w.heap.size + 1 ≤ w1.heap.size := S1.top.lt
  clear r0 r1 r2 r3 r4 r5 r6 r7 r8 r9 r10
  obtain ⟨r0, r1, r2, r3, r4, r5, r6, r7, r8, r9, r10⟩ := RC.out _ S1
  have G := Gw.start (y := (k : Int)) (x := k) S1 hz1 rfl
  obtain ⟨q0, q1, q2, q3, q4, q5, q6, q7, q8, q9, q10⟩ := RC.out _ G.1
  have G := Lib.hid G
  have hg1 : w1.heap.size < (w1.alloc (.cells #[.int .u8 (k : Int)] 5)).heap.size := by simp
  clear S1 p1
  go_wp2_with fail
  clear hiw r0 r1 r2 r3 r4 r5 r6 r7 r8 r9 r10
  clear q0 q1 q2 q3 q4 q5 q6 q7 q8 q9 q10
  obtain ⟨W1, hW1⟩ : ∃ W, w1.alloc (.cells #[.int .u8 (k : Int)] 5) = W := ⟨_, rfl⟩
  obtain ⟨go, hgo⟩ : ∃ g, w1.heap.size = g := ⟨_, rfl⟩
  rw [hW1, hgo] at G hg1
  rw [hW1]
  clear hW1
  refine (refNumber_any _ id 4 _ rfl (by omega) (by unfold Size; omega)).mono ?_
  rintro e w2 ⟨A2, c2, rfl, n2, b2⟩
  obtain ⟨g2, rfl, hg2, s2⟩ := Src.of_own n2 (by omega)
  have G := Lib.hid (G.out.below b2)
  have H2 := Lib.hid s2
  have hz2 := b2.size
  have hs2 := s2.1
  clear n2 b2 s2
  go_wp2_with (at_builtin; refine wpList_append_lies _ rfl _ _ 29 rfl (w.heap.size + 1) 5 iu (.int .u8 0) 1 1 Tryd.underlying29 HU.out.1 HU.out.2.1 HU.out.2.2.1 HU.out.2.2.2 rfl (by decide) _ (1) (u8s ([k])) rfl G.out.2.1 ⟨g2, 0, none⟩ (4) _ _ rfl (l4 _) H2.out.2 (u8s_one _) (by omega) (by unfold maxLen; omega) (by omega) G.out.2.2.1 _ rfl ?_; intro e3 cap3 v3 hown9 hgrow9 hl9 hlt9; have gr9 := (hgrow9 : World.grownBy _ v3 (some go)); have G9 := G.out.more hown9 hgrow9 hlt9; have gz3 := gr9.size; have gx3 := hlt9; have gl3 := Or.imp_left (fun h => ((Option.some.inj (show some go = some e3 from h)).symm : e3 = go)) hl9; obtain ⟨r0, r1, r2, r3, r4, r5, r6, r7, r8, r9, r10⟩ := RC.out _ G9.1; have G := Lib.hid G9; clear hown9 hgrow9 hl9 hlt9 gr9 G9; have D0 := Lib.hid (G.out.below (Below.refl _ v3).drew))
  clear r0 r1 r2 r3 r4 r5 r6 r7 r8 r9 r10
  have HC : Hid (∀ W, Held w W [(w.heap.size, 33, #[.int .u8 (k : Int), .int .u32 (id : Int), .int .u8 (pg : Int), .int .u16 (du : Int), .int .u64 (a : Int), .int .u64 (l : Int), .int .u8 (s : Int), .string ky, .string to, .int .i64 lo, .int .i64 hi])] → W.cell? ⟨w.heap.size, 4, none⟩ = some (.int .u64 (a : Int)) ∧ W.cell? ⟨w.heap.size, 5, none⟩ = some (.int .u64 (l : Int))) := Lib.hid fun W hW => by
    obtain ⟨-, -, -, -, z4, z5, -⟩ := RC.out _ hW
    exact ⟨z4, z5⟩
  go_region_held3 (fun W => W.cell? ⟨w.heap.size, 4, none⟩ = some (.int .u64 (a : Int)) ∧ W.cell? ⟨w.heap.size, 5, none⟩ = some (.int .u64 (l : Int))) (first | with_reducible exact HC.out _ D0.out.held | with_reducible exact HC.out _ D1.out.held | with_reducible exact HC.out _ D2.out.held) (first
    | (go_at_call 25; (with_reducible refine (num8_any a v3.drew o4).mono ?_); rintro e v4 ⟨A4, c4, rfl, n4, b4⟩; obtain ⟨g4, rfl, hg4, s4⟩ := Src.of_own n4 (by omega); have D1 := Lib.hid (D0.out.below b4); have K4 := Lib.hid s4; have hz4 : v3.heap.size ≤ v4.heap.size := b4.size; have hs4 := s4.1; have hg4 : v3.heap.size ≤ g4 := hg4; clear n4 b4 s4)
    | (go_at_call 25; (with_reducible refine (num8_any l v4 o5).mono ?_); rintro e v5 ⟨A5, c5, rfl, n5, b5⟩; obtain ⟨g5, rfl, hg5, s5⟩ := Src.of_own n5 (by omega); have D2 := Lib.hid (D1.out.below b5); have K4 := Lib.hid (K4.out.below b5); have K5 := Lib.hid s5; have hz5 := b5.size; have hs5 := s5.1; clear n5 b5 s5))
  obtain ⟨r0, r1, r2, r3, r4, r5, r6, r7, r8, r9, r10⟩ := RC.out _ D2.out.held
  go_wp2_with fail
  clear hdw r0 r1 r2 r3 r4 r5 r6 r7 r8 r9 r10
  refine (refNumber_any _ du 2 _ rfl (by omega) (by unfold Size; omega)).mono ?_
  rintro e v6 ⟨A6, c6, rfl, n6, b6⟩
  obtain ⟨g6, rfl, hg6, s6⟩ := Src.of_own n6 (by omega)
  have G := Lib.hid (D2.out.below b6)
  have K4 := Lib.hid (K4.out.below b6)
  have K5 := Lib.hid (K5.out.below b6)
  have K6 := Lib.hid s6
  have hz6 := b6.size
  have hs6 := s6.1
  have hbel := HB
  clear n6 b6 s6 D0 D1 D2
  obtain ⟨r0, r1, r2, r3, r4, r5, r6, r7, r8, r9, r10⟩ := RC.out _ G.out.held
  have F : ∀ L, bs = L → ∀ {W : World} {g c n : Nat}, Gw w W #[.int .u8 (k : Int), .int .u32 (id : Int), .int .u8 (pg : Int), .int .u16 (du : Int), .int .u64 (a : Int), .int .u64 (l : Int), .int .u8 (s : Int), .string ky, .string to, .int .i64 lo, .int .i64 hi] g c n L → PutR w bs 0 (.returned (.tuple #[.slice (some ⟨g, 0, none⟩) n c, .int .i64 0])) W := fun L h _ _ _ _ hG => putR_of h hG
  have HF := Lib.hid F
  clear F hgo
  rcases Rq.isK_cases hK with rfl | rfl | rfl | rfl | rfl | rfl | rfl | rfl
  · clear hK o0 hn1
    go_wp2_with (first | (at_builtin; refine wpList_append_lies _ rfl _ _ 29 rfl (w.heap.size + 1) 5 iu (.int .u8 0) 1 1 Tryd.underlying29 HU.out.1 HU.out.2.1 HU.out.2.2.1 HU.out.2.2.2 rfl (by decide) _ (1 + 4) (u8s ([1] ++ Pk.be 4 id)) rfl G.out.2.1 ⟨g4, 0, none⟩ (8) _ _ rfl (l8 _) K4.out.2 (u8s_one _) (by omega) (by unfold maxLen; omega) (by omega) G.out.2.2.1 _ rfl ?_; intro e10 cap10 v10 hown9 hgrow9 hl9 hlt9; have gr9 := (hgrow9 : World.grownBy _ v10 (some e3)); have G9 := G.out.more hown9 hgrow9 hlt9; have gz10 := gr9.size; have gx10 := hlt9; have gl10 := Or.imp_left (fun h => ((Option.some.inj (show some e3 = some e10 from h)).symm : e10 = e3)) hl9; obtain ⟨r0, r1, r2, r3, r4, r5, r6, r7, r8, r9, r10⟩ := RC.out _ G9.1; have G := Lib.hid G9; clear hown9 hgrow9 hl9 hlt9 gr9 G9; have GA := Lib.hid (G.out.below ((Below.refl _ v10).alloc (Nat.le_refl _) (.cells #[.int .u8 (pg : Int)] 5))); have KA := Lib.hid (Src.one v10 pg); have hA : (v10.alloc (.cells #[.int .u8 (pg : Int)] 5)).heap.size = v10.heap.size + 1 := (by simp)) | (at_builtin; refine wpList_append_lies _ rfl _ _ 29 rfl (w.heap.size + 1) 5 iu (.int .u8 0) 1 1 Tryd.underlying29 HU.out.1 HU.out.2.1 HU.out.2.2.1 HU.out.2.2.2 rfl (by decide) _ (1 + 4 + 8) (u8s ([1] ++ Pk.be 4 id ++ Pk.be 8 a)) rfl GA.out.2.1 ⟨v10.heap.size, 0, none⟩ (1) _ _ rfl (by rfl) KA.out.2 (u8s_one _) (by omega) (by unfold maxLen; omega) (by omega) GA.out.2.2.1 _ rfl ?_; intro e11 cap11 v11 hown9 hgrow9 hl9 hlt9; have gr9 := (hgrow9 : World.grownBy _ v11 (some e10)); have G9 := GA.out.more hown9 hgrow9 hlt9; have gz11 := gr9.size; have gx11 := hlt9; have gl11 := Or.imp_left (fun h => ((Option.some.inj (show some e10 = some e11 from h)).symm : e11 = e10)) hl9; obtain ⟨r0, r1, r2, r3, r4, r5, r6, r7, r8, r9, r10⟩ := RC.out _ G9.1; have G := Lib.hid G9; clear hown9 hgrow9 hl9 hlt9 gr9 G9))
    clear r0 r1 r2 r3 r4 r5 r6 r7 r8 r9 r10
    refine (CP.out _).mono ?_
    rintro e v20 ⟨A20, c20, rfl, n20, b20⟩
    obtain ⟨g20, rfl, hg20, s20⟩ := Src.of_own n20 (by omega)
    have G := Lib.hid (G.out.below b20)
    have K20 := Lib.hid s20
    have hz20 := b20.size
    have hs20 := s20.1
    clear n20 b20 s20
    go_wp2_with (at_builtin; refine wpList_append_lies _ rfl _ _ 29 rfl (w.heap.size + 1) 5 iu (.int .u8 0) 1 1 Tryd.underlying29 HU.out.1 HU.out.2.1 HU.out.2.2.1 HU.out.2.2.2 rfl (by decide) _ (1 + 4 + 8 + 1) (u8s ([1] ++ Pk.be 4 id ++ Pk.be 8 a ++ [pg])) rfl G.out.2.1 ⟨g20, 0, none⟩ (1 + (ky.size + 2) + (to.size + 2) + 8 + 8) _ _ rfl lp K20.out.2 (u8s_one _) (by omega) (by unfold maxLen; omega) (by omega) G.out.2.2.1 _ rfl ?_; intro e21 cap21 v21 hown9 hgrow9 hl9 hlt9; have gr9 := (hgrow9 : World.grownBy _ v21 (some e11)); have G9 := G.out.more hown9 hgrow9 hlt9; have gz21 := gr9.size; have gx21 := hlt9; have gl21 := Or.imp_left (fun h => ((Option.some.inj (show some e11 = some e21 from h)).symm : e21 = e11)) hl9; have G := Lib.hid G9; clear hown9 hgrow9 hl9 hlt9 gr9 G9)
    have hp := HB.out.2
    rw [← be_one9 pg o2] at G
    go_ret2
    refine HF.out _ ?_ G.out
    rw [HB.out.1, hp]
    simp [Rq.fparts_1, Rq.V.enc, Pk.be]
  · clear hK o0 hn1
    go_wp2_with (first | (at_builtin; refine wpList_append_lies _ rfl _ _ 29 rfl (w.heap.size + 1) 5 iu (.int .u8 0) 1 1 Tryd.underlying29 HU.out.1 HU.out.2.1 HU.out.2.2.1 HU.out.2.2.2 rfl (by decide) _ (1 + 4) (u8s ([2] ++ Pk.be 4 id)) rfl G.out.2.1 ⟨g4, 0, none⟩ (8) _ _ rfl (l8 _) K4.out.2 (u8s_one _) (by omega) (by unfold maxLen; omega) (by omega) G.out.2.2.1 _ rfl ?_; intro e10 cap10 v10 hown9 hgrow9 hl9 hlt9; have gr9 := (hgrow9 : World.grownBy _ v10 (some e3)); have G9 := G.out.more hown9 hgrow9 hlt9; have gz10 := gr9.size; have gx10 := hlt9; have gl10 := Or.imp_left (fun h => ((Option.some.inj (show some e3 = some e10 from h)).symm : e10 = e3)) hl9; have K6 := Lib.hid (K6.out.grown gr9 (show g6 ≠ e3 by omega)); have G := Lib.hid G9; clear hown9 hgrow9 hl9 hlt9 gr9 G9) | (at_builtin; refine wpList_append_lies _ rfl _ _ 29 rfl (w.heap.size + 1) 5 iu (.int .u8 0) 1 1 Tryd.underlying29 HU.out.1 HU.out.2.1 HU.out.2.2.1 HU.out.2.2.2 rfl (by decide) _ (1 + 4 + 8) (u8s ([2] ++ Pk.be 4 id ++ Pk.be 8 a)) rfl G.out.2.1 ⟨g6, 0, none⟩ (2) _ _ rfl (l2 _) K6.out.2 (u8s_one _) (by omega) (by unfold maxLen; omega) (by omega) G.out.2.2.1 _ rfl ?_; intro e11 cap11 v11 hown9 hgrow9 hl9 hlt9; have gr9 := (hgrow9 : World.grownBy _ v11 (some e10)); have G9 := G.out.more hown9 hgrow9 hlt9; have gz11 := gr9.size; have gx11 := hlt9; have gl11 := Or.imp_left (fun h => ((Option.some.inj (show some e10 = some e11 from h)).symm : e11 = e10)) hl9; have G := Lib.hid G9; clear hown9 hgrow9 hl9 hlt9 gr9 G9))
    go_ret2
    refine HF.out _ ?_ G.out
    rw [HB.out.1]
    simp [Rq.fparts_2, Rq.V.enc, Pk.be]
  · clear hK o0 hn1
    go_wp2_with (first | (at_builtin; refine wpList_append_lies _ rfl _ _ 29 rfl (w.heap.size + 1) 5 iu (.int .u8 0) 1 1 Tryd.underlying29 HU.out.1 HU.out.2.1 HU.out.2.2.1 HU.out.2.2.2 rfl (by decide) _ (1 + 4) (u8s ([3] ++ Pk.be 4 id)) rfl G.out.2.1 ⟨g5, 0, none⟩ (8) _ _ rfl (l8 _) K5.out.2 (u8s_one _) (by omega) (by unfold maxLen; omega) (by omega) G.out.2.2.1 _ rfl ?_; intro e10 cap10 v10 hown9 hgrow9 hl9 hlt9; have gr9 := (hgrow9 : World.grownBy _ v10 (some e3)); have G9 := G.out.more hown9 hgrow9 hlt9; have gz10 := gr9.size; have gx10 := hlt9; have gl10 := Or.imp_left (fun h => ((Option.some.inj (show some e3 = some e10 from h)).symm : e10 = e3)) hl9; have K6 := Lib.hid (K6.out.grown gr9 (show g6 ≠ e3 by omega)); have G := Lib.hid G9; clear hown9 hgrow9 hl9 hlt9 gr9 G9) | (at_builtin; refine wpList_append_lies _ rfl _ _ 29 rfl (w.heap.size + 1) 5 iu (.int .u8 0) 1 1 Tryd.underlying29 HU.out.1 HU.out.2.1 HU.out.2.2.1 HU.out.2.2.2 rfl (by decide) _ (1 + 4 + 8) (u8s ([3] ++ Pk.be 4 id ++ Pk.be 8 l)) rfl G.out.2.1 ⟨g6, 0, none⟩ (2) _ _ rfl (l2 _) K6.out.2 (u8s_one _) (by omega) (by unfold maxLen; omega) (by omega) G.out.2.2.1 _ rfl ?_; intro e11 cap11 v11 hown9 hgrow9 hl9 hlt9; have gr9 := (hgrow9 : World.grownBy _ v11 (some e10)); have G9 := G.out.more hown9 hgrow9 hlt9; have gz11 := gr9.size; have gx11 := hlt9; have gl11 := Or.imp_left (fun h => ((Option.some.inj (show some e10 = some e11 from h)).symm : e11 = e10)) hl9; have G := Lib.hid G9; clear hown9 hgrow9 hl9 hlt9 gr9 G9))
    go_ret2
    refine HF.out _ ?_ G.out
    rw [HB.out.1]
    simp [Rq.fparts_3, Rq.V.enc, Pk.be]
  · clear hK o0 hn1
    go_wp2_with (at_builtin; refine wpList_append_lies _ rfl _ _ 29 rfl (w.heap.size + 1) 5 iu (.int .u8 0) 1 1 Tryd.underlying29 HU.out.1 HU.out.2.1 HU.out.2.2.1 HU.out.2.2.2 rfl (by decide) _ (1 + 4) (u8s ([4] ++ Pk.be 4 id)) rfl G.out.2.1 ⟨g5, 0, none⟩ (8) _ _ rfl (l8 _) K5.out.2 (u8s_one _) (by omega) (by unfold maxLen; omega) (by omega) G.out.2.2.1 _ rfl ?_; intro e10 cap10 v10 hown9 hgrow9 hl9 hlt9; have gr9 := (hgrow9 : World.grownBy _ v10 (some e3)); have G9 := G.out.more hown9 hgrow9 hlt9; have gz10 := gr9.size; have gx10 := hlt9; have gl10 := Or.imp_left (fun h => ((Option.some.inj (show some e3 = some e10 from h)).symm : e10 = e3)) hl9; have G := Lib.hid G9; clear hown9 hgrow9 hl9 hlt9 gr9 G9)
    go_ret2
    refine HF.out _ ?_ G.out
    rw [HB.out.1]
    simp [Rq.fparts_4, Rq.V.enc, Pk.be]
  · clear hK o0 hn1
    go_wp2_with (at_builtin; refine wpList_append_lies _ rfl _ _ 29 rfl (w.heap.size + 1) 5 iu (.int .u8 0) 1 1 Tryd.underlying29 HU.out.1 HU.out.2.1 HU.out.2.2.1 HU.out.2.2.2 rfl (by decide) _ (1 + 4) (u8s ([5] ++ Pk.be 4 id)) rfl G.out.2.1 ⟨g6, 0, none⟩ (2) _ _ rfl (l2 _) K6.out.2 (u8s_one _) (by omega) (by unfold maxLen; omega) (by omega) G.out.2.2.1 _ rfl ?_; intro e10 cap10 v10 hown9 hgrow9 hl9 hlt9; have gr9 := (hgrow9 : World.grownBy _ v10 (some e3)); have G9 := G.out.more hown9 hgrow9 hlt9; have gz10 := gr9.size; have gx10 := hlt9; have gl10 := Or.imp_left (fun h => ((Option.some.inj (show some e3 = some e10 from h)).symm : e10 = e3)) hl9; obtain ⟨r0, r1, r2, r3, r4, r5, r6, r7, r8, r9, r10⟩ := RC.out _ G9.1; have G := Lib.hid G9; clear hown9 hgrow9 hl9 hlt9 gr9 G9)
    clear r0 r1 r2 r3 r4 r5 r6 r7 r8 r9 r10
    refine (CP.out _).mono ?_
    rintro e v20 ⟨A20, c20, rfl, n20, b20⟩
    obtain ⟨g20, rfl, hg20, s20⟩ := Src.of_own n20 (by omega)
    have G := Lib.hid (G.out.below b20)
    have K20 := Lib.hid s20
    have hz20 := b20.size
    have hs20 := s20.1
    clear n20 b20 s20
    go_wp2_with (at_builtin; refine wpList_append_lies _ rfl _ _ 29 rfl (w.heap.size + 1) 5 iu (.int .u8 0) 1 1 Tryd.underlying29 HU.out.1 HU.out.2.1 HU.out.2.2.1 HU.out.2.2.2 rfl (by decide) _ (1 + 4 + 2) (u8s ([5] ++ Pk.be 4 id ++ Pk.be 2 du)) rfl G.out.2.1 ⟨g20, 0, none⟩ (1 + (ky.size + 2) + (to.size + 2) + 8 + 8) _ _ rfl lp K20.out.2 (u8s_one _) (by omega) (by unfold maxLen; omega) (by omega) G.out.2.2.1 _ rfl ?_; intro e21 cap21 v21 hown9 hgrow9 hl9 hlt9; have gr9 := (hgrow9 : World.grownBy _ v21 (some e10)); have G9 := G.out.more hown9 hgrow9 hlt9; have gz21 := gr9.size; have gx21 := hlt9; have gl21 := Or.imp_left (fun h => ((Option.some.inj (show some e10 = some e21 from h)).symm : e21 = e10)) hl9; have G := Lib.hid G9; clear hown9 hgrow9 hl9 hlt9 gr9 G9)
    have hp := HB.out.2
    go_ret2
    refine HF.out _ ?_ G.out
    rw [HB.out.1, hp]
    simp [Rq.fparts_5, Rq.V.enc, Pk.be]
  · clear hK o0 hn1
    go_wp2_with (first | (at_builtin; refine wpList_append_lies _ rfl _ _ 29 rfl (w.heap.size + 1) 5 iu (.int .u8 0) 1 1 Tryd.underlying29 HU.out.1 HU.out.2.1 HU.out.2.2.1 HU.out.2.2.2 rfl (by decide) _ (1 + 4) (u8s ([6] ++ Pk.be 4 id)) rfl G.out.2.1 ⟨g5, 0, none⟩ (8) _ _ rfl (l8 _) K5.out.2 (u8s_one _) (by omega) (by unfold maxLen; omega) (by omega) G.out.2.2.1 _ rfl ?_; intro e10 cap10 v10 hown9 hgrow9 hl9 hlt9; have gr9 := (hgrow9 : World.grownBy _ v10 (some e3)); have G9 := G.out.more hown9 hgrow9 hlt9; have gz10 := gr9.size; have gx10 := hlt9; have gl10 := Or.imp_left (fun h => ((Option.some.inj (show some e3 = some e10 from h)).symm : e10 = e3)) hl9; have K6 := Lib.hid (K6.out.grown gr9 (show g6 ≠ e3 by omega)); obtain ⟨r0, r1, r2, r3, r4, r5, r6, r7, r8, r9, r10⟩ := RC.out _ G9.1; have G := Lib.hid G9; clear hown9 hgrow9 hl9 hlt9 gr9 G9; have GA := Lib.hid (G.out.below ((Below.refl _ v10).alloc (Nat.le_refl _) (.cells #[.int .u8 (pg : Int)] 5))); have KA := Lib.hid (Src.one v10 pg); have hA : (v10.alloc (.cells #[.int .u8 (pg : Int)] 5)).heap.size = v10.heap.size + 1 := (by simp); have K6 := Lib.hid (K6.out.below ((Below.refl _ v10).alloc (Nat.le_refl _) (.cells #[.int .u8 (pg : Int)] 5)))) | (at_builtin; refine wpList_append_lies _ rfl _ _ 29 rfl (w.heap.size + 1) 5 iu (.int .u8 0) 1 1 Tryd.underlying29 HU.out.1 HU.out.2.1 HU.out.2.2.1 HU.out.2.2.2 rfl (by decide) _ (1 + 4 + 8) (u8s ([6] ++ Pk.be 4 id ++ Pk.be 8 l)) rfl GA.out.2.1 ⟨v10.heap.size, 0, none⟩ (1) _ _ rfl (by rfl) KA.out.2 (u8s_one _) (by omega) (by unfold maxLen; omega) (by omega) GA.out.2.2.1 _ rfl ?_; intro e11 cap11 v11 hown9 hgrow9 hl9 hlt9; have gr9 := (hgrow9 : World.grownBy _ v11 (some e10)); have G9 := GA.out.more hown9 hgrow9 hlt9; have gz11 := gr9.size; have gx11 := hlt9; have gl11 := Or.imp_left (fun h => ((Option.some.inj (show some e10 = some e11 from h)).symm : e11 = e10)) hl9; have K6 := Lib.hid (K6.out.grown gr9 (show g6 ≠ e10 by omega)); have G := Lib.hid G9; clear hown9 hgrow9 hl9 hlt9 gr9 G9) | (at_builtin; refine wpList_append_lies _ rfl _ _ 29 rfl (w.heap.size + 1) 5 iu (.int .u8 0) 1 1 Tryd.underlying29 HU.out.1 HU.out.2.1 HU.out.2.2.1 HU.out.2.2.2 rfl (by decide) _ (1 + 4 + 8 + 1) (u8s ([6] ++ Pk.be 4 id ++ Pk.be 8 l ++ [pg])) rfl G.out.2.1 ⟨g6, 0, none⟩ (2) _ _ rfl (l2 _) K6.out.2 (u8s_one _) (by omega) (by unfold maxLen; omega) (by omega) G.out.2.2.1 _ rfl ?_; intro e12 cap12 v12 hown9 hgrow9 hl9 hlt9; have gr9 := (hgrow9 : World.grownBy _ v12 (some e11)); have G9 := G.out.more hown9 hgrow9 hlt9; have gz12 := gr9.size; have gx12 := hlt9; have gl12 := Or.imp_left (fun h => ((Option.some.inj (show some e11 = some e12 from h)).symm : e12 = e11)) hl9; have G := Lib.hid G9; clear hown9 hgrow9 hl9 hlt9 gr9 G9))
    rw [← be_one9 pg o2] at G
    go_ret2
    refine HF.out _ ?_ G.out
    rw [HB.out.1]
    simp [Rq.fparts_6, Rq.V.enc, Pk.be]
  · clear hK o0 hn1
    go_wp2_with (at_builtin; refine wpList_append_lies _ rfl _ _ 29 rfl (w.heap.size + 1) 5 iu (.int .u8 0) 1 1 Tryd.underlying29 HU.out.1 HU.out.2.1 HU.out.2.2.1 HU.out.2.2.2 rfl (by decide) _ (1 + 4) (u8s ([7] ++ Pk.be 4 id)) rfl G.out.2.1 ⟨g5, 0, none⟩ (8) _ _ rfl (l8 _) K5.out.2 (u8s_one _) (by omega) (by unfold maxLen; omega) (by omega) G.out.2.2.1 _ rfl ?_; intro e10 cap10 v10 hown9 hgrow9 hl9 hlt9; have gr9 := (hgrow9 : World.grownBy _ v10 (some e3)); have G9 := G.out.more hown9 hgrow9 hlt9; have gz10 := gr9.size; have gx10 := hlt9; have gl10 := Or.imp_left (fun h => ((Option.some.inj (show some e3 = some e10 from h)).symm : e10 = e3)) hl9; have G := Lib.hid G9; clear hown9 hgrow9 hl9 hlt9 gr9 G9)
    go_ret2
    refine HF.out _ ?_ G.out
    rw [HB.out.1]
    simp [Rq.fparts_7, Rq.V.enc, Pk.be]
  · clear hK o0 hn1
    go_wp2_with fail
    go_ret2
    refine HF.out _ ?_ G.out
    rw [HB.out.1]
    simp [Rq.fparts_8, Pk.be]
end Go.Proofs.YtgailpljcobabaaDoor
