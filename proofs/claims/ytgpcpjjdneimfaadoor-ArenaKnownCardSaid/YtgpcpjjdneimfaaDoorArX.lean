/- Layer 11: the chapter's examples. -/
import Derived.Test.YtgpcpjjdneimfaaDoorArW
namespace Go.Proofs.YtgpcpjjdneimfaaDoor
open Go.ChangeShapes Go.WideShapes Go.ChangeAt Go.RowKit

namespace Wx
def b0 : Ar.Nd := ⟨false, [], [], []⟩
def b1 : Ar.Nd := ⟨true, [], [], []⟩
def L1 : List Ar.Pl := [⟨true, 1, b0⟩]
def L2 : List Ar.Pl := [⟨true, 1, b0⟩, ⟨true, 1, b1⟩]
def L3 : List Ar.Pl := [⟨true, 1, b0⟩, ⟨true, 1, b1⟩, ⟨true, 1, b0⟩]
def L4 : List Ar.Pl := [⟨true, 1, b0⟩, ⟨false, 1, Ar.Nd.blank⟩, ⟨true, 1, b0⟩]
def L5 : List Ar.Pl := [⟨false, 1, Ar.Nd.blank⟩, ⟨false, 1, Ar.Nd.blank⟩, ⟨true, 1, b0⟩]
def L6 : List Ar.Pl := [⟨true, 2, b0⟩, ⟨false, 1, Ar.Nd.blank⟩, ⟨true, 1, b0⟩]
end Wx
def WorksP (w : World) (e : Ending) (w' : World) : Prop := e = .returned (.bool true) ∧ Below w.heap.size w w'
set_option maxRecDepth 100000 in
theorem works_any (w : World) (hv : Vars w) : Calls Tryd.prog 9 #[] w (WorksP w) := by
  have f1 : Few Wx.L1 1 := Few.nil.make Wx.b0
  have f2 : Few Wx.L2 2 := f1.make Wx.b1
  have f3 : Few Wx.L3 3 := f2.make Wx.b0
  have f4 : Few Wx.L4 3 := f3.free1 (x := (1, 1)) rfl
  have f5 : Few Wx.L5 3 := f4.free1 (x := (0, 1)) rfl
  have f6 : Few Wx.L6 4 := f5.make Wx.b0
  have S0 := Lib.hid (St.start w w hv (Below.refl _ _) [] (by simp))
  have HF := Lib.hid (And.intro f1 (And.intro f2 (And.intro f3 (And.intro f4 (And.intro f5 f6)))))
  clear hv f1 f2 f3 f4 f5 f6
  go_enter Tryd.func9, Tryd.ntmps9
  go_wp2_with fail
  refine (arNew_any w).mono ?_
  rintro e w1 ⟨rfl, rfl⟩
  obtain ⟨g, hg⟩ : ∃ g, w.heap.size = g := ⟨_, rfl⟩
  obtain ⟨w1, hw1⟩ : ∃ w1, w.alloc (.cells #[.slice none 0 0, .map none, .int .i64 0] 73) = w1 := ⟨_, rfl⟩
  have S1 : Hid (St w w1 g [] []) := Lib.hid (hw1 ▸ hg ▸ S0.out)
  rw [hg, hw1]
  clear S0 hg hw1
  go_wp2_with fail
  refine (S1.out.make (Few.nil.mono (by omega)) false).mono ?_
  rintro e w2 ⟨rfl, s2⟩
  have S2 : Hid (St w w2 g Wx.L1 []) := Lib.hid s2
  clear s2
  rw [show Ar.lo ([] : List Ar.Pl) = 0 from rfl, show Ar.next ([] : List Ar.Pl) = 1 from rfl]
  go_wp2_with fail
  refine (S2.out.make (HF.out.1.mono (by omega)) true).mono ?_
  rintro e w3 ⟨rfl, s3⟩
  have S3 : Hid (St w w3 g Wx.L2 []) := Lib.hid s3
  clear s3
  rw [show Ar.lo Wx.L1 = 1 from rfl, show Ar.next Wx.L1 = 1 from rfl]
  go_wp2_with fail
  refine (S3.out.make (HF.out.2.1.mono (by omega)) false).mono ?_
  rintro e w4 ⟨rfl, s4⟩
  have S4 : Hid (St w w4 g Wx.L3 []) := Lib.hid s4
  clear s4
  rw [show Ar.lo Wx.L2 = 2 from rfl, show Ar.next Wx.L2 = 1 from rfl]
  go_upto_region 3 with fail
  obtain ⟨x, hx⟩ : ∃ x, w4.heap.size = x := ⟨_, rfl⟩
  obtain ⟨y, hy⟩ : ∃ y, x + 1 = y := ⟨_, rfl⟩
  obtain ⟨z, hz⟩ : ∃ z, y + 1 = z := ⟨_, rfl⟩
  obtain ⟨w5, hw5⟩ : ∃ w5, (((w4.alloc (.cells #[.int .i64 0, .int .i64 1] 42)).alloc (.cells #[.int .i64 1, .int .i64 1] 42)).alloc (.cells #[.int .i64 2, .int .i64 1] 42)) = w5 := ⟨_, rfl⟩
  have S5 : Hid (St w w5 g Wx.L3 [(z, 42, #[.int .i64 2, .int .i64 1]), (y, 42, #[.int .i64 1, .int .i64 1]), (x, 42, #[.int .i64 0, .int .i64 1])]) := Lib.hid (hw5 ▸ ((S4.out.alloc' _ _ hx.symm).alloc' _ _ (by simp; omega)).alloc' _ _ (by simp; omega))
  rw [hx, hy, hz, hw5]
  clear hx hy hz hw5 S4
  obtain ⟨a, ha⟩ : ∃ a, w5.heap.size = a := ⟨_, rfl⟩
  have S5a : Hid (St w (w5.alloc (.cells #[.int .i64 1, .int .i64 1] 42)) g Wx.L3 [(a, 42, #[.int .i64 1, .int .i64 1]), (z, 42, #[.int .i64 2, .int .i64 1]), (y, 42, #[.int .i64 1, .int .i64 1]), (x, 42, #[.int .i64 0, .int .i64 1])]) := Lib.hid (S5.out.alloc' _ _ ha.symm)
  have HA := Lib.hid ha
  clear ha
  go_wp2_with fail
  rw [HA.out]
  refine (S5a.out.free (HF.out.2.2.1.mono (by omega)) a 1 1 (by simp) rfl).mono ?_
  rintro e w6 ⟨rfl, s6⟩
  have S6 : Hid (St w w6 g Wx.L4 [(z, 42, #[.int .i64 2, .int .i64 1]), (y, 42, #[.int .i64 1, .int .i64 1]), (x, 42, #[.int .i64 0, .int .i64 1])]) := Lib.hid (St.less (show St w w6 g Wx.L4 _ from s6) (by simp_all))
  clear s6 S5a HA
  obtain ⟨b, hb⟩ : ∃ b, w6.heap.size = b := ⟨_, rfl⟩
  have S6a : Hid (St w (w6.alloc (.cells #[.int .i64 0, .int .i64 1] 42)) g Wx.L4 [(b, 42, #[.int .i64 0, .int .i64 1]), (z, 42, #[.int .i64 2, .int .i64 1]), (y, 42, #[.int .i64 1, .int .i64 1]), (x, 42, #[.int .i64 0, .int .i64 1])]) := Lib.hid (S6.out.alloc' _ _ hb.symm)
  have HA := Lib.hid hb
  clear hb
  go_wp2_with fail
  rw [HA.out]
  refine (S6a.out.free (HF.out.2.2.2.1.mono (by omega)) b 0 1 (by simp) rfl).mono ?_
  rintro e w7 ⟨rfl, s7⟩
  have S7 : Hid (St w w7 g Wx.L5 [(z, 42, #[.int .i64 2, .int .i64 1]), (y, 42, #[.int .i64 1, .int .i64 1]), (x, 42, #[.int .i64 0, .int .i64 1])]) := Lib.hid (St.less (show St w w7 g Wx.L5 _ from s7) (by simp_all))
  clear s7 S6a HA
  go_wp2_with fail
  refine (S7.out.make (HF.out.2.2.2.2.1.mono (by omega)) false).mono ?_
  rintro e w8 ⟨rfl, s8⟩
  have S8 : Hid (St w w8 g Wx.L6 [(z, 42, #[.int .i64 2, .int .i64 1]), (y, 42, #[.int .i64 1, .int .i64 1]), (x, 42, #[.int .i64 0, .int .i64 1])]) := Lib.hid s8
  clear s8
  rw [show Ar.lo Wx.L5 = 0 from rfl, show Ar.next Wx.L5 = 2 from rfl]
  go_upto_region 5 with fail
  obtain ⟨v, hv⟩ : ∃ v, w8.heap.size = v := ⟨_, rfl⟩
  obtain ⟨w9, hw9⟩ : ∃ w9, w8.alloc (.cells #[.int .i64 0, .int .i64 2] 42) = w9 := ⟨_, rfl⟩
  have S9 : Hid (St w w9 g Wx.L6 [(v, 42, #[.int .i64 0, .int .i64 2]), (z, 42, #[.int .i64 2, .int .i64 1]), (y, 42, #[.int .i64 1, .int .i64 1]), (x, 42, #[.int .i64 0, .int .i64 1])]) := Lib.hid (hw9 ▸ S8.out.alloc' _ _ hv.symm)
  rw [hv, hw9]
  clear hv hw9 S8
  have bx := S9.out.at_ (a := x) (t := 42) (cs := #[.int .i64 0, .int .i64 1]) (by simp)
  have x0 := bx.cell 0
  have x1 := bx.cell 1
  simp only [List.getElem?_toArray, List.getElem?_cons_zero, List.getElem?_cons_succ] at x0 x1
  clear bx
  go_wp2_with fail
  refine (S9.out.get_ (Nat.le_trans HF.out.2.2.2.2.2.len (by omega)) 0 1).mono ?_
  rintro e w10 ⟨s10, nv, nd, r, rfl, -, -, hgot⟩
  have S10 := Lib.hid s10
  clear s10 x0 x1
  rcases hgot with ⟨hh, _⟩ | ⟨_, rfl, rfl, rfl⟩
  · exact absurd hh (by decide)
  rw [show NdV.blank.val Ar.Nd.blank.leaf = .agg #[.bool false, .slice none 0 0, .slice none 0 0, .slice none 0 0] from rfl]
  go_upto_region 6 with fail
  obtain ⟨m, hm⟩ : ∃ m, w10.heap.size = m := ⟨_, rfl⟩
  obtain ⟨w11, hw11⟩ : ∃ w11, w10.alloc (.cells #[.bool false, .slice none 0 0, .slice none 0 0, .slice none 0 0] 36) = w11 := ⟨_, rfl⟩
  have S11 : Hid (St w w11 g Wx.L6 [(v, 42, #[.int .i64 0, .int .i64 2]), (z, 42, #[.int .i64 2, .int .i64 1]), (y, 42, #[.int .i64 1, .int .i64 1]), (x, 42, #[.int .i64 0, .int .i64 1])]) := Lib.hid (hw11 ▸ S10.out.below ((Below.refl _ _).alloc (Nat.le_refl _) _))
  rw [hw11]
  clear hm hw11 S10
  go_wp2_with fail
  refine (S11.out.len_ (Nat.le_trans HF.out.2.2.2.2.2.len (by omega))).mono ?_
  rintro e w12 ⟨rfl, s12⟩
  have S12 := Lib.hid s12
  clear s12
  rw [show ((Ar.used Wx.L6).length : Int) = 2 from rfl, show (Wx.L6.length : Int) = 3 from rfl]
  have bx := S12.out.at_ (a := x) (t := 42) (cs := #[.int .i64 0, .int .i64 1]) (by simp)
  have by_ := S12.out.at_ (a := y) (t := 42) (cs := #[.int .i64 1, .int .i64 1]) (by simp)
  have bz := S12.out.at_ (a := z) (t := 42) (cs := #[.int .i64 2, .int .i64 1]) (by simp)
  have bv := S12.out.at_ (a := v) (t := 42) (cs := #[.int .i64 0, .int .i64 2]) (by simp)
  have x0 := bx.cell 0
  have x1 := bx.cell 1
  have y0 := by_.cell 0
  have y1 := by_.cell 1
  have z0 := bz.cell 0
  have z1 := bz.cell 1
  have v0 := bv.cell 0
  have v1 := bv.cell 1
  simp only [List.getElem?_toArray, List.getElem?_cons_zero, List.getElem?_cons_succ] at x0 x1 y0 y1 z0 z1 v0 v1
  have g1 := handle_guard
  have q1 : ∀ W, (Op.equalIn 10000 42 (.agg #[.int .i64 0, .int .i64 1]) (.agg #[.int .i64 0, .int .i64 1])).run Tryd.prog W = .ok true W := fun W => by simpa using handle_same 0 1 0 1 W
  have q2 : ∀ W, (Op.equalIn 10000 42 (.agg #[.int .i64 1, .int .i64 1]) (.agg #[.int .i64 1, .int .i64 1])).run Tryd.prog W = .ok true W := fun W => by simpa using handle_same 1 1 1 1 W
  have q3 : ∀ W, (Op.equalIn 10000 42 (.agg #[.int .i64 2, .int .i64 1]) (.agg #[.int .i64 2, .int .i64 1])).run Tryd.prog W = .ok true W := fun W => by simpa using handle_same 2 1 2 1 W
  have q4 : ∀ W, (Op.equalIn 10000 42 (.agg #[.int .i64 0, .int .i64 2]) (.agg #[.int .i64 0, .int .i64 2])).run Tryd.prog W = .ok true W := fun W => by simpa using handle_same 0 2 0 2 W
  have HH : Hid (Calls Tryd.prog 18 #[.pointer (some ⟨g, 0, none⟩), .agg #[.int .i64 1, .int .i64 1]] w12 fun e w' => e = .returned (.bool false) ∧ St w w' g Wx.L6 [(v, 42, #[.int .i64 0, .int .i64 2]), (z, 42, #[.int .i64 2, .int .i64 1]), (y, 42, #[.int .i64 1, .int .i64 1]), (x, 42, #[.int .i64 0, .int .i64 1])]) := Lib.hid (S12.out.has_ (Nat.le_trans HF.out.2.2.2.2.2.len (by omega)) 1 1)
  clear bx by_ bz bv S11
  go_wp2_with fail
  refine HH.out.mono ?_
  rintro e w13 ⟨rfl, s13⟩
  have S13 := Lib.hid s13
  clear s13
  go_wp2_with fail
  go_ret
  exact ⟨rfl, S13.out.fin⟩
end Go.Proofs.YtgpcpjjdneimfaaDoor
