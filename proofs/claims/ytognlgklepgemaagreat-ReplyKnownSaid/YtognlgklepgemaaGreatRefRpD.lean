/- Layer 8's reference: a pane, packed. -/
import Derived.Test.YtognlgklepgemaaGreatRpP
import Derived.Test.YtognlgklepgemaaGreatRd6
import Derived.Deep.DeepCutAuto
namespace Go.Proofs.YtognlgklepgemaaGreat
open Go.ChangeShapes Go.WideShapes Go.ChangeAt Go.RowKit

set_option maxRecDepth 100000 in
set_option maxHeartbeats 2000000 in
theorem refPane8_any (p : Pn) (w : World) (hp : p.k.size ≤ 65535) : Calls Tryz.prog 58 #[p.val] w (OwnPost w (p.k.size + 18) (Rp.pane p)) := by
  obtain ⟨iu, hu, hu0, hu1, hu2⟩ := info_parts Tryz.info5
  have HU := Lib.hid (And.intro hu (And.intro hu0 (And.intro hu1 hu2)))
  clear hu hu0 hu1 hu2
  have S0 := (Held.start w).new #[.string p.k, .int .i64 p.s, .int .i64 p.e] 90
  unfold Pn.val
  go_enter Tryz.func58, Tryz.ntmps58
  go_upto_region 1 with (fail)
  obtain ⟨W, hW⟩ : ∃ W, w.alloc (.cells #[.string p.k, .int .i64 p.s, .int .i64 p.e] 90) = W := ⟨_, rfl⟩
  rw [hW] at S0 ⊢
  have kk := S0.top
  have c0 := kk.cell 0
  have hzW : w.heap.size < W.heap.size := kk.lt
  have HS := Lib.hid S0
  clear S0 hW kk
  go_wp2_with fail
  clear c0
  refine (refText_any p.k W hp).mono ?_
  rintro e w1 ⟨A1, c1, rfl, o1, b1⟩
  have S1 := HS.out.step b1
  have kk := S1.top
  have c1' := kk.cell 1
  have HS1 := Lib.hid S1
  have O1 := Lib.hid o1
  have o1z := b1.size
  clear o1 b1 S1 kk
  go_wp2_with fail
  clear c1'
  refine (refInt_any p.s (Rp.u p.s) _ (Rp.u_eq _) (Rp.u_lt _)).mono ?_
  rintro e w2 ⟨A2, c2, rfl, o2, b2⟩
  obtain ⟨g2, rfl, hc2⟩ := own_some o2 (by omega)
  have S2 := HS1.out.step b2
  have hz2 : W.heap.size ≤ w2.heap.size := Nat.le_trans o1z b2.size
  have O2 := Lib.hid (And.intro (own_below O1.out b2) hc2)
  have HS2 := Lib.hid S2
  clear o2 b2 hc2 S2
  go_wp2_with (at_builtin; refine wpList_append_lies _ rfl _ _ 33 rfl W.heap.size 5 iu (.int .u8 0) 1 1 Tryz.underlying33 HU.out.1 HU.out.2.1 HU.out.2.2.1 HU.out.2.2.2 rfl (by decide) _ (p.k.size + 2) (u8s (Pk.tx (nums p.k))) rfl O2.out.1 ⟨g2, 0, none⟩ 8 _ (u8s (Pk.be 8 (Rp.u p.s))) rfl (by rw [u8s_len, Pk.be_len]) O2.out.2 (u8s_one _) (by omega) (by unfold maxLen; omega) (by omega) hz2 _ rfl ?_; intro g3 cap3 w3 hown hgrow _ _; have c2' := (HS2.out.grow O2.out.1 hgrow (Nat.le_of_lt hzW) (by intro x hx; rw [List.mem_singleton.1 hx]; exact hzW)).top.cell 2)
  have S3 := HS2.out.grow O2.out.1 hgrow (Nat.le_of_lt hzW) (by intro x hx; rw [List.mem_singleton.1 hx]; exact hzW)
  have hz3 := hgrow.size
  have HS3 := Lib.hid S3
  have O3 := Lib.hid (own_snoc hown)
  clear hown hgrow S3 c2'
  refine (refInt_any p.e (Rp.u p.e) _ (Rp.u_eq _) (Rp.u_lt _)).mono ?_
  rintro e w4 ⟨A4, c4, rfl, o4, b4⟩
  obtain ⟨g4, rfl, hc4⟩ := own_some o4 (by omega)
  have S4 := HS3.out.step b4
  have hz4 : W.heap.size ≤ w4.heap.size := Nat.le_trans (Nat.le_trans hz2 hz3) b4.size
  have O4 := Lib.hid (And.intro (own_below O3.out b4) hc4)
  have HS4 := Lib.hid S4
  clear o4 b4 hc4 S4
  go_wp2_with (at_builtin; refine wpList_append_lies _ rfl _ _ 33 rfl W.heap.size 5 iu (.int .u8 0) 1 1 Tryz.underlying33 HU.out.1 HU.out.2.1 HU.out.2.2.1 HU.out.2.2.2 rfl (by decide) _ (p.k.size + 2 + 8) (u8s (Pk.tx (nums p.k) ++ Pk.be 8 (Rp.u p.s))) rfl O4.out.1 ⟨g4, 0, none⟩ 8 _ (u8s (Pk.be 8 (Rp.u p.e))) rfl (by rw [u8s_len, Pk.be_len]) O4.out.2 (u8s_one _) (by omega) (by unfold maxLen; omega) (by omega) hz4 _ rfl ?_; intro g5 cap5 w5 hown hgrow _ _)
  have S5 := HS4.out.grow O4.out.1 hgrow (Nat.le_of_lt hzW) (by intro x hx; rw [List.mem_singleton.1 hx]; exact hzW)
  go_ret
  exact ⟨_, _, rfl, own_lower (own_snoc hown) (Nat.le_of_lt hzW), S5.1⟩
end Go.Proofs.YtognlgklepgemaaGreat
