/- Made by tools/gen/cn.py. -/
/- Layer 15, the statements' helpers: refs, same, is, own, live, dead, example. -/
import Derived.Test.YteegnehfagkjcaaCnU
namespace Go.Proofs.Yteegnehfagkjcaa
open Go.ChangeShapes Go.WideShapes Go.ChangeAt Go.RowKit

set_option maxRecDepth 100000 in
set_option maxHeartbeats 4000000 in
theorem refs_any (w : World) (F : Nat → Prop) (A : Option Addr) (n c : Nat) (l : List Cn.Ver) (h : Cells w F A n 6 (vrL l)) (hn : n ≤ 100000) : Calls Try.prog 9 #[.slice A n c] w (VrP w 46 l) := by
  have hln := vr_len h
  obtain ⟨i0, hi, hz0, hz1, hz2⟩ := info_parts Try.info46
  have HI := Lib.hid (And.intro hi (And.intro hz0 (And.intro hz1 hz2)))
  have H := Lib.hid (And.intro h hln)
  clear h hln hi hz0 hz1 hz2
  go_enter Try.func9, Try.ntmps9
  go_wp2_with fail
  go_loopw [4, 3] (fun i o wr => ∃ (j : Nat) (A1 : Option Addr) (c1 : Nat), j ≤ n ∧ i = .int .i64 (j : Int) ∧ o = .slice A1 j c1 ∧ wr.ownsRow w.heap.size 46 6 (.slice A1 j c1) j (vrL (l.take j)) ∧ Below w.heap.size w wr) (fun i _ _ => n - (intOf i).toNat)
  case atStart => exact ⟨0, none, 0, Nat.zero_le _, rfl, rfl, own_nil _ _ _ _, Below.refl _ _⟩
  case round =>
    obtain ⟨j, A1, c1, hk, rfl, rfl, hown, hh⟩ := hrel
    by_cases hlt : j < n
    · have i2 : (0 : Int) ≤ (j : Int) := by omega
      have i3 : (j : Int) < (n : Int) := by omega
      have hsn := vrL_snoc l j _ (Cn.ix_some (l := l) (i := j) (by have := H.out.2; omega))
      have yhy := Cn.ix_some (l := l) (i := j) (by have := H.out.2; omega)
      obtain ⟨y, yeq⟩ : ∃ y, Cn.ix l j = y := ⟨_, rfl⟩
      rw [yeq] at yhy
      obtain ⟨b, off, rfl, -, yhbl, z0, z1, z2, z3, z4, z5⟩ := vr_cells H.out.1 yhy
      have y0 := (hh.cell (p := ⟨b, off + j * 6, none⟩) yhbl).trans z0
      have y1 := (hh.cell (p := ⟨b, off + j * 6 + 1, none⟩) yhbl).trans z1
      have y2 := (hh.cell (p := ⟨b, off + j * 6 + 2, none⟩) yhbl).trans z2
      have y3 := (hh.cell (p := ⟨b, off + j * 6 + 3, none⟩) yhbl).trans z3
      have y4 := (hh.cell (p := ⟨b, off + j * 6 + 4, none⟩) yhbl).trans z4
      have y5 := (hh.cell (p := ⟨b, off + j * 6 + 5, none⟩) yhbl).trans z5
      clear z0 z1 z2 z3 z4 z5
      rw [yeq] at hsn
      have X1 := bel_al wr (.cells #[.int .i64 y.a.c, .int .i64 y.a.s, .int .i64 y.a.lo, .int .i64 y.a.hi] 33)
      have kb := Blk.new wr 33 #[.int .i64 y.a.c, .int .i64 y.a.s, .int .i64 y.a.lo, .int .i64 y.a.hi]
      have hbl : b < wr.heap.size := Nat.lt_of_lt_of_le yhbl hh.size
      have hoX := own_below hown X1
      have hhX := below_next hh X1
      have HK := Lib.hid (And.intro hsn (And.intro hown hh))
      go_upto_region 6 with fail
      obtain ⟨bx, hbx⟩ : ∃ bx, wr.heap.size = bx := ⟨_, rfl⟩
      obtain ⟨wx, hwx⟩ : ∃ wx, wr.alloc (.cells #[.int .i64 y.a.c, .int .i64 y.a.s, .int .i64 y.a.lo, .int .i64 y.a.hi] 33) = wx := ⟨_, rfl⟩
      rw [hwx] at kb hoX hhX X1
      try rw [hwx]
      try rw [hbx]
      rw [hbx] at kb
      have e0 : wx.cell? ⟨b, off + j * 6, none⟩ = some (.int .u64 (y.e : Int)) := (X1.cell (p := ⟨b, off + j * 6, none⟩) hbl).trans y0
      have e1 : wx.cell? ⟨b, off + j * 6 + 1, none⟩ = some (.bool y.d) := (X1.cell (p := ⟨b, off + j * 6 + 1, none⟩) hbl).trans y1
      have e2 := kb.cell 0
      have e3 := kb.cell 1
      have e4 := kb.cell 2
      have e5 := kb.cell 3
      simp only [List.getElem?_toArray, List.getElem?_cons_zero, List.getElem?_cons_succ] at e2 e3 e4 e5
      obtain ⟨w6, hw6⟩ : ∃ w6, (wx.alloc (.cells #[.int .u64 (y.e : Int), .bool y.d, .int .i64 y.a.c, .int .i64 y.a.s, .int .i64 y.a.lo, .int .i64 y.a.hi] 46)).drew = w6 := ⟨_, rfl⟩
      have X6 : Below wx.heap.size wx w6 := hw6 ▸ (bel_al wx (.cells #[.int .u64 (y.e : Int), .bool y.d, .int .i64 y.a.c, .int .i64 y.a.s, .int .i64 y.a.lo, .int .i64 y.a.hi] 46)).drew
      have hsrc : ∀ q u, (verC y)[q]? = some u → w6.cell? ((⟨wx.heap.size, 0, none⟩ : Addr).add q) = some u := by
        rw [← hw6]
        exact ver_new wx 46 y _ rfl
      obtain ⟨g3, c3, w7, hrun, hown3, hg3, -, -⟩ := run_append_lies (P := Try.prog) w6 25 25 w.heap.size 46 i0 _ 6 48 Try.underlying25 HI.out.1 HI.out.2.1 HI.out.2.2.1 HI.out.2.2.2 rfl (by decide) (.slice A1 j c1) j _ (own_below hoX X6) ⟨wx.heap.size, 0, none⟩ 1 1 (verC y) rfl hsrc (by intro u hu; exact vrL_one [y] u (by simpa [vrL] using hu)) (by decide) (by unfold maxLen; omega) (by omega) (Nat.le_trans hhX.size X6.size) _ rfl
      have HB7 : Hid (Below w.heap.size w w7) := Lib.hid ((below_next hhX X6).trans ⟨hg3.os, hg3.tape, hg3.output, hg3.size, fun k hk => hg3.block k (by have := (below_next hhX X6).size; omega) (fun e => by have := (own_below hoX X6).lt k e.symm; omega)⟩)
      have hkeep : ∀ r, r < wx.heap.size → (∀ b', (Value.slice A1 j c1).ownBlock = some b' → r ≠ b') → w7.heap[r]? = wx.heap[r]? := fun r hr hne =>
        (hg3.block r (Nat.lt_of_lt_of_le hr X6.size) (fun e => hne r e.symm rfl)).trans (X6.block r hr)
      have hS0 : (fun X => X.cell? ⟨b, off + j * 6, none⟩ = some (.int .u64 (y.e : Int)) ∧ X.cell? ⟨b, off + j * 6 + 1, none⟩ = some (.bool y.d) ∧ X.cell? ⟨bx, 0, none⟩ = some (.int .i64 y.a.c) ∧ X.cell? ⟨bx, 1, none⟩ = some (.int .i64 y.a.s) ∧ X.cell? ⟨bx, 2, none⟩ = some (.int .i64 y.a.lo) ∧ X.cell? ⟨bx, 3, none⟩ = some (.int .i64 y.a.hi)) wx := ⟨e0, e1, e2, e3, e4, e5⟩
      have hput : ∀ X : World, X.heap[b]? = wx.heap[b]? → X.heap[bx]? = wx.heap[bx]? → (fun X => X.cell? ⟨b, off + j * 6, none⟩ = some (.int .u64 (y.e : Int)) ∧ X.cell? ⟨b, off + j * 6 + 1, none⟩ = some (.bool y.d) ∧ X.cell? ⟨bx, 0, none⟩ = some (.int .i64 y.a.c) ∧ X.cell? ⟨bx, 1, none⟩ = some (.int .i64 y.a.s) ∧ X.cell? ⟨bx, 2, none⟩ = some (.int .i64 y.a.lo) ∧ X.cell? ⟨bx, 3, none⟩ = some (.int .i64 y.a.hi)) X := fun X h1 h2 =>
        ⟨(World.cell?_of_block (a := ⟨b, off + j * 6, none⟩) h1).trans e0, (World.cell?_of_block (a := ⟨b, off + j * 6 + 1, none⟩) h1).trans e1, (World.cell?_of_block (a := ⟨bx, 0, none⟩) h2).trans e2, (World.cell?_of_block (a := ⟨bx, 1, none⟩) h2).trans e3, (World.cell?_of_block (a := ⟨bx, 2, none⟩) h2).trans e4, (World.cell?_of_block (a := ⟨bx, 3, none⟩) h2).trans e5⟩
      have hbwx : b < wx.heap.size := Nat.lt_of_lt_of_le hbl X1.size
      have HS6 : Hid ((fun X => X.cell? ⟨b, off + j * 6, none⟩ = some (.int .u64 (y.e : Int)) ∧ X.cell? ⟨b, off + j * 6 + 1, none⟩ = some (.bool y.d) ∧ X.cell? ⟨bx, 0, none⟩ = some (.int .i64 y.a.c) ∧ X.cell? ⟨bx, 1, none⟩ = some (.int .i64 y.a.s) ∧ X.cell? ⟨bx, 2, none⟩ = some (.int .i64 y.a.lo) ∧ X.cell? ⟨bx, 3, none⟩ = some (.int .i64 y.a.hi)) w6) := Lib.hid (hput w6 (X6.block b hbwx) (X6.block bx kb.lt))
      have HS7 : Hid ((fun X => X.cell? ⟨b, off + j * 6, none⟩ = some (.int .u64 (y.e : Int)) ∧ X.cell? ⟨b, off + j * 6 + 1, none⟩ = some (.bool y.d) ∧ X.cell? ⟨bx, 0, none⟩ = some (.int .i64 y.a.c) ∧ X.cell? ⟨bx, 1, none⟩ = some (.int .i64 y.a.s) ∧ X.cell? ⟨bx, 2, none⟩ = some (.int .i64 y.a.lo) ∧ X.cell? ⟨bx, 3, none⟩ = some (.int .i64 y.a.hi)) w7) := Lib.hid (hput w7 (hkeep b hbwx (fun b' h' e => by have := (hown.lt b' h').1; omega)) (hkeep bx kb.lt (fun b' h' e => by have := (hown.lt b' h').2; omega)))
      have HS0 : Hid ((fun X => X.cell? ⟨b, off + j * 6, none⟩ = some (.int .u64 (y.e : Int)) ∧ X.cell? ⟨b, off + j * 6 + 1, none⟩ = some (.bool y.d) ∧ X.cell? ⟨bx, 0, none⟩ = some (.int .i64 y.a.c) ∧ X.cell? ⟨bx, 1, none⟩ = some (.int .i64 y.a.s) ∧ X.cell? ⟨bx, 2, none⟩ = some (.int .i64 y.a.lo) ∧ X.cell? ⟨bx, 3, none⟩ = some (.int .i64 y.a.hi)) wx.drew) := Lib.hid hS0
      have HRUN := Lib.hid (And.intro hrun hown3)
      clear hkeep hS0 hput hbwx e0 e1 e2 e3 e4 e5 hsn hown hh yeq yhy hk kb X1 X6 hsrc hrun hown3 hg3 hoX hhX hwx hbx hbl y0 y1 y2 y3 y4 y5 yhbl
      go_region_held3 (fun X => X.cell? ⟨b, off + j * 6, none⟩ = some (.int .u64 (y.e : Int)) ∧ X.cell? ⟨b, off + j * 6 + 1, none⟩ = some (.bool y.d) ∧ X.cell? ⟨bx, 0, none⟩ = some (.int .i64 y.a.c) ∧ X.cell? ⟨bx, 1, none⟩ = some (.int .i64 y.a.s) ∧ X.cell? ⟨bx, 2, none⟩ = some (.int .i64 y.a.lo) ∧ X.cell? ⟨bx, 3, none⟩ = some (.int .i64 y.a.hi)) (first | exact HS0.out | exact HS6.out | exact HS7.out)
        (refine step_append_eq rfl (.tmp 17) (.tmp 38) 25 rfl (v := .slice A1 j c1) (xv := .slice (some ⟨wx.heap.size, 0, none⟩) 1 1) (v' := .slice (some ⟨g3, 0, none⟩) (j + 1) c3) (w' := w7) (by simp [Act.eval]) (by simp [Act.eval]) HRUN.out.1 ?_)
      all_goals
        go_wp2_with fail
        go_roundw
        case rel => exact ⟨j + 1, some ⟨g3, 0, none⟩, c3, by omega, by go_num, rfl, by rw [HK.out.1]; exact HRUN.out.2, HB7.out⟩
        case measure => simp [intOf]; omega
    · obtain rfl : j = n := by omega
      rw [List.take_of_length_le (by rw [H.out.2]; exact Nat.le_refl _)] at hown
      have HK := Lib.hid (And.intro hown hh)
      clear hown hh hk hlt
      go_wp2_with fail
      go_ret
      exact ⟨A1, c1, by rw [H.out.2]; rfl, by rw [H.out.2]; exact HK.out.1, HK.out.2⟩
end Go.Proofs.Yteegnehfagkjcaa
