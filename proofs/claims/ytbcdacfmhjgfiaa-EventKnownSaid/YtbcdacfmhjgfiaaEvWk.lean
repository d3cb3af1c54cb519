/- The chapter's examples of layer 6; an operation as the reference has it. -/
import Derived.Test.YtbcdacfmhjgfiaaEvZ
import Derived.Test.YtbcdacfmhjgfiaaEvV
namespace Go.Proofs.Ytbcdacfmhjgfiaa
open Go.ChangeShapes Go.WideShapes Go.ChangeAt Go.RowKit

theorem put_let {o : Evo} {bs : List Nat} {r : Int} (hb : Ev.bytes o = bs) (hr : Ev.right o = r) (W : World) : Calls Try.prog 13 #[.agg #[.int .u8 (o.k : Int), .string o.s, .int .i64 o.t, .int .i64 o.v]] W (PutB W bs r) := by
  subst hb
  subst hr
  exact pPut6_any o W
theorem parse_let {n c B : Nat} {A : Option Addr} {b : List Nat} {w : World} {r : Int} {o : Evo} (h : Ev.ps b = (r, o)) (hb : Bytes w B A n b) (hB : B ≤ w.heap.size) (hn : n ≤ 1000000) :
    Calls Try.prog 18 #[.slice A n c] w fun e w' => e = .returned (.tuple #[.agg #[.int .u8 (o.k : Int), .string o.s, .int .i64 o.t, .int .i64 o.v], .int .i64 r]) ∧ Below w.heap.size w w' := by
  refine (pParse6_any n c B A b w hb hB hn).mono fun e w' hp => ?_
  unfold PsP at hp
  rw [h] at hp
  exact hp
theorem conv_own {w : World} {B n c : Nat} {A : Option Addr} {l : List Nat} {s : ByteArray} (h : w.ownsRow B 5 1 (.slice A n c) n (u8s l)) (hl : ∀ x ∈ l, x < 256) (hs : textOf l = s) : ∀ W : World, Below w.heap.size w W → (convert 29 9 (.slice A n c)).run Try.prog W = .ok (.string s) W :=
  fun _ hW => hs ▸ (conv_bytes ((Bytes.of_own h hl).below hW (Nat.le_refl _))).2.2
theorem ex1 : Ev.bytes ⟨1, ⟨#[97]⟩, 2, -1⟩ = [1, 0, 1, 97, 0, 0, 0, 0, 0, 0, 0, 2, 255, 255, 255, 255, 255, 255, 255, 255] := by decide +kernel
theorem ex2 : Ev.bytes ⟨2, ⟨#[]⟩, 3, 0⟩ = [2, 0, 0, 0, 0, 0, 0, 0, 3] := by decide +kernel
theorem one_byte (w : World) (t : TypeId) (x : Nat) (hx : x < 256) (y : Int) (hy : y = x) : Bytes (w.alloc (.cells #[.int .u8 y] t)) (w.heap.size + 1) (some ⟨w.heap.size, 0, none⟩) 1 [x] := by subst hy; exact bytes_one w t x hx
theorem wk1 (W : World) : Calls Try.prog 13 #[opV 1 ⟨#[97]⟩ 2 (-1)] W (PutB W [1, 0, 1, 97, 0, 0, 0, 0, 0, 0, 0, 2, 255, 255, 255, 255, 255, 255, 255, 255] 0) := put_let (o := ⟨1, ⟨#[97]⟩, 2, -1⟩) (r := 0) ex1 (by decide) W
theorem wk2 (W : World) : Calls Try.prog 13 #[opV 2 ⟨#[]⟩ 3 0] W (PutB W [2, 0, 0, 0, 0, 0, 0, 0, 3] 0) := put_let (o := ⟨2, ⟨#[]⟩, 3, 0⟩) (r := 0) ex2 (by decide) W
theorem wk3 (W : World) : Calls Try.prog 13 #[opV 1 ⟨#[]⟩ 0 0] W (PutB W [] 60) := put_let (o := ⟨1, ⟨#[]⟩, 0, 0⟩) (bs := []) (r := 60) (by decide) (by decide) W
theorem wk4 (W : World) : Calls Try.prog 13 #[opV 2 ⟨#[]⟩ 1099511627777 0] W (PutB W [] 61) := put_let (o := ⟨2, ⟨#[]⟩, 1099511627777, 0⟩) (bs := []) (r := 61) (by decide) (by decide) W
theorem ps0 : Ev.ps [] = (20, Ev.none') := rfl
theorem ps3 : Ev.ps [3] = (80, Ev.none') := rfl
theorem ps2 : Ev.ps [2] = (20, Ev.none') := rfl
theorem wk5 {n c B : Nat} {A : Option Addr} {b : List Nat} {w : World} {r : Int} (h : Ev.ps b = (r, Ev.none')) (hb : Bytes w B A n b) (hB : B ≤ w.heap.size) (hn : n ≤ 1000000) :
    Calls Try.prog 18 #[.slice A n c] w fun e w' => e = .returned (.tuple #[opV 0 ⟨#[]⟩ 0 0, .int .i64 r]) ∧ Below w.heap.size w w' := parse_let h hb hB hn
set_option maxRecDepth 100000 in
set_option maxHeartbeats 2000000 in
theorem works_any (w : World) : Calls Try.prog 7 #[] w fun e w' => e = .returned (.bool true) ∧ Below w.heap.size w w' := by
  go_enter Try.func7, Try.ntmps7
  go_wp2_with fail
  refine (evOf_any ⟨#[97]⟩ 2 (-1) _).mono ?_
  rintro e w1 ⟨rfl, b1⟩
  have D1 := Lib.hid b1
  clear b1
  go_wp2_with fail
  refine (wk1 _).mono ?_
  rintro e w2 ⟨A2, c2, rfl, o2, b2⟩
  have D2 := Lib.hid (below_next D1.out b2)
  have C2 := Lib.hid (show ∀ W : World, Below w2.heap.size w2 W → (convert 29 9 (.slice A2 20 c2)).run Try.prog W = .ok (.string ⟨#[1, 0, 1, 97, 0, 0, 0, 0, 0, 0, 0, 2, 255, 255, 255, 255, 255, 255, 255, 255]⟩) W from conv_own o2 (by decide) rfl)
  clear b2 o2
  go_wp2_with fail
  refine (evAt_any 3 _).mono ?_
  rintro e w3 ⟨rfl, b3⟩
  have E3 := Lib.hid b3
  have D3 := Lib.hid (below_next D2.out b3)
  clear b3
  go_wp2_with fail
  refine (wk2 _).mono ?_
  rintro e w4 ⟨A4, c4, rfl, o4, b4⟩
  have E4 := Lib.hid (below_next E3.out b4)
  have D4 := Lib.hid (below_next D3.out b4)
  have C4 := Lib.hid (show ∀ W : World, Below w4.heap.size w4 W → (convert 29 9 (.slice A4 9 c4)).run Try.prog W = .ok (.string ⟨#[2, 0, 0, 0, 0, 0, 0, 0, 3]⟩) W from conv_own o4 (by decide) rfl)
  clear b4 o4
  go_wp2_with fail
  refine (evOf_any ⟨#[]⟩ 0 0 _).mono ?_
  rintro e w5 ⟨rfl, b5⟩
  have F5 := Lib.hid b5
  clear b5
  go_wp2_with fail
  refine (wk3 _).mono ?_
  rintro e w6 ⟨A6, c6, rfl, o6, b6⟩
  have F6 := Lib.hid (below_next F5.out b6)
  clear b6 o6
  go_wp2_with fail
  refine (evAt_any 1099511627777 _).mono ?_
  rintro e w7 ⟨rfl, b7⟩
  have F7 := Lib.hid (below_next F6.out b7)
  clear b7
  go_wp2_with fail
  refine (wk4 _).mono ?_
  rintro e w8 ⟨A8, c8, rfl, o8, b8⟩
  have F8 := Lib.hid (below_next F7.out b8)
  clear b8 o8
  go_wp2_with fail
  refine (wk5 (B := 0) ps0 Bytes.nil (by omega) (by omega)).mono ?_
  rintro e w9 ⟨rfl, b9⟩
  have F9 := (below_next F8.out b9).alloc (below_next F8.out b9).size (.cells zOp 26)
  clear b9
  go_upto_region 6 with (fail)
  obtain ⟨W9, hW⟩ : ∃ W, w9.alloc (.cells zOp 26) = W := ⟨_, rfl⟩
  rw [hW] at F9 ⊢
  have F9 := Lib.hid F9
  clear hW
  go_wp2_with fail
  refine (wk5 ps3 (one_byte W9 _ 3 (by omega) 3 rfl) (by simp) (by omega)).mono ?_
  rintro e wa ⟨rfl, ba⟩
  have Fa := (F9.out.alloc F9.out.size (.cells #[.int .u8 3] 5)).trans (ba.mono (F9.out.alloc F9.out.size (.cells #[.int .u8 3] 5)).size)
  have Fa := Fa.alloc Fa.size (.cells zOp 26)
  clear ba
  go_upto_region 7 with (fail)
  obtain ⟨Wa, hW⟩ : ∃ W, wa.alloc (.cells zOp 26) = W := ⟨_, rfl⟩
  rw [hW] at Fa ⊢
  have Fa := Lib.hid Fa
  clear hW
  go_wp2_with fail
  refine (wk5 ps2 (one_byte Wa _ 2 (by omega) 2 rfl) (by simp) (by omega)).mono ?_
  rintro e wb ⟨rfl, bb⟩
  have Fb := (Fa.out.alloc Fa.out.size (.cells #[.int .u8 2] 5)).trans (bb.mono (Fa.out.alloc Fa.out.size (.cells #[.int .u8 2] 5)).size)
  have Fb := Fb.alloc Fb.size (.cells zOp 26)
  clear bb
  go_upto_region 8 with (fail)
  obtain ⟨Wb, hW⟩ : ∃ W, wb.alloc (.cells zOp 26) = W := ⟨_, rfl⟩
  rw [hW] at Fb ⊢
  have Fb := Lib.hid Fb
  clear hW
  have hc2 := C2.out _ (E4.out.trans (Fb.out.mono E4.out.size))
  have hc4 := C4.out _ Fb.out
  go_wp2_with fail
  go_ret
  exact ⟨rfl, D4.out.trans (Fb.out.mono D4.out.size)⟩
end Go.Proofs.Ytbcdacfmhjgfiaa
