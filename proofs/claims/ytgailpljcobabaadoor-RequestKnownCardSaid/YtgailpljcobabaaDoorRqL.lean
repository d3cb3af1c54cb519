/- Layer 9's reference: which panes, packed. -/
import Derived.Test.YtgailpljcobabaaDoorRqK
namespace Go.Proofs.YtgailpljcobabaaDoor
open Go.ChangeShapes Go.WideShapes Go.ChangeAt Go.RowKit

def Rq.V.panes (x : Rq.V) : List Nat := [x.so] ++ Pk.tx (nums x.ky) ++ Pk.tx (nums x.to) ++ Pk.be 8 (Rq.u x.lo) ++ Pk.be 8 (Rq.u x.hi)
set_option maxRecDepth 100000 in
set_option maxHeartbeats 4000000 in
theorem refPanes_any (x : Rq.V) (w : World) (h1 : x.ky.size ≤ 65535) (h2 : x.to.size ≤ 65535) : Calls Tryd.prog 26 #[x.val] w (OwnPost w (1 + (x.ky.size + 2) + (x.to.size + 2) + 8 + 8) x.panes) := by
  obtain ⟨iu, hu, hu0, hu1, hu2⟩ := info_parts Tryd.info5
  have HU := Lib.hid (And.intro hu (And.intro hu0 (And.intro hu1 hu2)))
  clear hu hu0 hu1 hu2
  have RC : Hid (∀ W, Held w W [(w.heap.size, 33, x.cells)] → ReqCells W w.heap.size x) := Lib.hid fun W hW => (req_cells hW.top).1
  have S0 := (Held.start w).new x.cells 33
  obtain ⟨k, id, pg, du, a, l, s, ky, to, lo, hi⟩ := x
  unfold Rq.V.val ReqCells Rq.V.panes at *
  unfold Rq.V.cells at *
  dsimp only at *
  obtain ⟨W0, hW0⟩ : ∃ W, w.alloc (.cells #[.int .u8 (k : Int), .int .u32 (id : Int), .int .u8 (pg : Int), .int .u16 (du : Int), .int .u64 (a : Int), .int .u64 (l : Int), .int .u8 (s : Int), .string ky, .string to, .int .i64 lo, .int .i64 hi] 33) = W := ⟨_, rfl⟩
  rw [hW0] at S0
  obtain ⟨r0, r1, r2, r3, r4, r5, r6, r7, r8, r9, r10⟩ := RC.out _ S0
  have hz0 : w.heap.size + 1 ≤ W0.heap.size := S0.top.lt
  have G := Gw.start (y := (s : Int)) (x := s) S0 hz0 rfl
  obtain ⟨q0, q1, q2, q3, q4, q5, q6, q7, q8, q9, q10⟩ := RC.out _ G.1
  have G := Lib.hid G
  have hg1 : W0.heap.size < (W0.alloc (.cells #[.int .u8 (s : Int)] 5)).heap.size := by simp
  clear S0
  go_enter Tryd.func26, Tryd.ntmps26
  go_wp2_with fail
  clear hW0 r0 r1 r2 r3 r4 r5 r6 r7 r8 r9 r10
  clear q0 q1 q2 q3 q4 q5 q6 q7 q8 q9 q10
  obtain ⟨W1, hW1⟩ : ∃ W, W0.alloc (.cells #[.int .u8 (s : Int)] 5) = W := ⟨_, rfl⟩
  obtain ⟨go, hgo⟩ : ∃ g, W0.heap.size = g := ⟨_, rfl⟩
  rw [hW1, hgo] at G hg1
  rw [hW1]
  clear hW1
  refine (refText_any ky W1 h1).mono ?_
  rintro e w2 ⟨A2, c2, rfl, o2, b2⟩
  obtain ⟨g2, rfl, hg2, s2⟩ := Src.of_own o2 (by omega)
  have G2 := G.out.below b2
  obtain ⟨r0, r1, r2, r3, r4, r5, r6, r7, r8, r9, r10⟩ := RC.out _ G2.1
  have H2 := Lib.hid s2
  have G := Lib.hid G2
  have hz2 := b2.size
  have hs2 := s2.1
  clear o2 b2 s2 G2
  go_wp2_with fail
  clear r0 r1 r2 r3 r4 r5 r6 r7 r8 r9 r10
  refine (refText_any to w2 h2).mono ?_
  rintro e w3 ⟨A3, c3, rfl, o3, b3⟩
  obtain ⟨g3, rfl, hg3, s3⟩ := Src.of_own o3 (by omega)
  have H2 := Lib.hid (H2.out.below b3)
  have G := Lib.hid (G.out.below b3)
  have H3 := Lib.hid s3
  have hz3 := b3.size
  clear o3 b3 s3
  have l2 : (u8s (Pk.tx (nums ky))).length = (ky.size + 2) * 1 := by rw [u8s_len, Rq.tx_len, nums_len]; omega
  have l3 : (u8s (Pk.tx (nums to))).length = (to.size + 2) * 1 := by rw [u8s_len, Rq.tx_len, nums_len]; omega
  have l4 : ∀ n, (u8s (Pk.be 8 n)).length = 8 * 1 := fun n => by rw [u8s_len, Pk.be_len]
  go_wp2_with (first | (at_builtin; refine wpList_append_lies _ rfl _ _ 29 rfl (w.heap.size + 1) 5 iu (.int .u8 0) 1 1 Tryd.underlying29 HU.out.1 HU.out.2.1 HU.out.2.2.1 HU.out.2.2.2 rfl (by decide) _ (1) (u8s ([s])) rfl G.out.2.1 ⟨g2, 0, none⟩ (ky.size + 2) _ _ rfl l2 H2.out.2 (u8s_one _) (by omega) (by unfold maxLen; omega) (by omega) G.out.2.2.1 _ rfl ?_; intro e4 cap4 v4 hown9 hgrow9 hl9 hlt9; have gr9 := (hgrow9 : World.grownBy _ v4 (some go)); have G9 := G.out.more hown9 hgrow9 hlt9; have gz4 := gr9.size; have gx4 := hlt9; have gl4 := Or.imp_left (fun h => ((Option.some.inj (show some go = some e4 from h)).symm : e4 = go)) hl9; have H3 := Lib.hid (H3.out.grown gr9 (show g3 ≠ go by omega)); have G := Lib.hid G9; clear hown9 hgrow9 hl9 hlt9 gr9 G9) | (at_builtin; refine wpList_append_lies _ rfl _ _ 29 rfl (w.heap.size + 1) 5 iu (.int .u8 0) 1 1 Tryd.underlying29 HU.out.1 HU.out.2.1 HU.out.2.2.1 HU.out.2.2.2 rfl (by decide) _ (1 + (ky.size + 2)) (u8s ([s] ++ Pk.tx (nums ky))) rfl G.out.2.1 ⟨g3, 0, none⟩ (to.size + 2) _ _ rfl l3 H3.out.2 (u8s_one _) (by omega) (by unfold maxLen; omega) (by omega) G.out.2.2.1 _ rfl ?_; intro e5 cap5 v5 hown9 hgrow9 hl9 hlt9; have gr9 := (hgrow9 : World.grownBy _ v5 (some e4)); have G9 := G.out.more hown9 hgrow9 hlt9; have gz5 := gr9.size; have gx5 := hlt9; have gl5 := Or.imp_left (fun h => ((Option.some.inj (show some e4 = some e5 from h)).symm : e5 = e4)) hl9; obtain ⟨r0, r1, r2, r3, r4, r5, r6, r7, r8, r9, r10⟩ := RC.out _ G9.1; have G := Lib.hid G9; clear hown9 hgrow9 hl9 hlt9 gr9 G9))
  clear r0 r1 r2 r3 r4 r5 r6 r7 r8 r9 r10
  refine (refInt_any lo (Rq.u lo) _ (Rq.u_eq _) (Rq.u_lt _)).mono ?_
  rintro e w6 ⟨A6, c6, rfl, o6, b6⟩
  obtain ⟨g6, rfl, hg6, s6⟩ := Src.of_own o6 (by omega)
  have G := Lib.hid (G.out.below b6)
  have H6 := Lib.hid s6
  have hz6 := b6.size
  clear o6 b6 s6
  go_wp2_with (at_builtin; refine wpList_append_lies _ rfl _ _ 29 rfl (w.heap.size + 1) 5 iu (.int .u8 0) 1 1 Tryd.underlying29 HU.out.1 HU.out.2.1 HU.out.2.2.1 HU.out.2.2.2 rfl (by decide) _ (1 + (ky.size + 2) + (to.size + 2)) (u8s ([s] ++ Pk.tx (nums ky) ++ Pk.tx (nums to))) rfl G.out.2.1 ⟨g6, 0, none⟩ (8) _ _ rfl (l4 _) H6.out.2 (u8s_one _) (by omega) (by unfold maxLen; omega) (by omega) G.out.2.2.1 _ rfl ?_; intro e7 cap7 v7 hown9 hgrow9 hl9 hlt9; have gr9 := (hgrow9 : World.grownBy _ v7 (some e5)); have G9 := G.out.more hown9 hgrow9 hlt9; have gz7 := gr9.size; have gx7 := hlt9; have gl7 := Or.imp_left (fun h => ((Option.some.inj (show some e5 = some e7 from h)).symm : e7 = e5)) hl9; obtain ⟨r0, r1, r2, r3, r4, r5, r6, r7, r8, r9, r10⟩ := RC.out _ G9.1; have G := Lib.hid G9; clear hown9 hgrow9 hl9 hlt9 gr9 G9)
  clear r0 r1 r2 r3 r4 r5 r6 r7 r8 r9 r10
  refine (refInt_any hi (Rq.u hi) _ (Rq.u_eq _) (Rq.u_lt _)).mono ?_
  rintro e w8 ⟨A8, c8, rfl, o8, b8⟩
  obtain ⟨g8, rfl, hg8, s8⟩ := Src.of_own o8 (by omega)
  have G := Lib.hid (G.out.below b8)
  have H8 := Lib.hid s8
  have hz8 := b8.size
  clear o8 b8 s8
  go_wp2_with (at_builtin; refine wpList_append_lies _ rfl _ _ 29 rfl (w.heap.size + 1) 5 iu (.int .u8 0) 1 1 Tryd.underlying29 HU.out.1 HU.out.2.1 HU.out.2.2.1 HU.out.2.2.2 rfl (by decide) _ (1 + (ky.size + 2) + (to.size + 2) + 8) (u8s ([s] ++ Pk.tx (nums ky) ++ Pk.tx (nums to) ++ Pk.be 8 (Rq.u lo))) rfl G.out.2.1 ⟨g8, 0, none⟩ (8) _ _ rfl (l4 _) H8.out.2 (u8s_one _) (by omega) (by unfold maxLen; omega) (by omega) G.out.2.2.1 _ rfl ?_; intro e9 cap9 v9 hown9 hgrow9 hl9 hlt9; have gr9 := (hgrow9 : World.grownBy _ v9 (some e7)); have G9 := G.out.more hown9 hgrow9 hlt9; have gz9 := gr9.size; have gx9 := hlt9; have gl9 := Or.imp_left (fun h => ((Option.some.inj (show some e7 = some e9 from h)).symm : e9 = e7)) hl9; have G := Lib.hid G9; clear hown9 hgrow9 hl9 hlt9 gr9 G9)
  go_ret
  exact ⟨_, _, rfl, own_lower G.out.2.1 (Nat.le_succ _), G.out.1.1⟩
end Go.Proofs.YtgailpljcobabaaDoor
