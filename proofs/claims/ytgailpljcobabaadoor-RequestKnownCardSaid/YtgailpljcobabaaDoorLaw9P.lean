/- Layer 9's statement RequestPuts. -/
import Derived.Test.YtgailpljcobabaaDoorRqO
import Derived.Test.YtgailpljcobabaaDoorSpoil
import Derived.Deep.DeepCutAuto
namespace Go.Proofs.YtgailpljcobabaaDoor
open Go.ChangeShapes Go.WideShapes Go.ChangeAt Go.RowKit

theorem same_b {n c c' B : Nat} {A A' : Option Addr} {l : List Nat} {w : World} (hb : Bytes w B A n l) (hb' : Bytes w B A' n l) (hn : n ≤ 1000000) :
    Calls Tryd.prog 12 #[.slice A n c, .slice A' n c'] w fun e w' => e = .returned (.bool true) ∧ Below w.heap.size w w' := by
  refine (same_yes n c n c' B A A' l w hb hb' (by omega)).mono ?_
  rintro e w' ⟨rfl, m, rfl⟩
  exact ⟨rfl, ⟨rfl, rfl, rfl, Nat.le_refl _, fun _ _ => rfl⟩⟩
theorem spoil_b {w w' : World} {base n c : Nat} {A : Option Addr} {e : TypeId} {xs : List Value} {B : Nat} (h : w.ownsRow base e 1 (.slice A n c) n xs) (hg : w.grownBy w' (Value.slice A n c).ownBlock) (hB : B ≤ base) (hw : B ≤ w.heap.size) : Below B w w' :=
  (Below.refl B w).grown hg hw (fun k hk => by have := (h.lt k hk).1; omega)
set_option maxRecDepth 100000 in
set_option maxHeartbeats 20000000 in
theorem requestPuts_any (x : Rq.V) (kd : Nat) (w : World) (hV : Vars w) (ok : x.ok) (hkd : kd < 256) : Calls Tryd.prog 3 #[x.val, .int .u8 (kd : Int)] w (LawP w) := by
  have HV : Hid (∀ W, Below w.heap.size w W → Vars W) := Lib.hid fun W hW => hV.next hW
  have S0 := (Held.start w).new x.cells 26
  have RC : Hid (∀ W, Held w W [(w.heap.size, 26, x.cells)] → ReqCells W w.heap.size x) := Lib.hid fun W hW => (req_cells hW.top).1
  obtain ⟨r0, r1, r2, r3, r4, r5, r6, r7, r8, r9, r10⟩ := RC.out _ S0
  have HS := Lib.hid S0
  have CF : Hid (∀ W, Calls Tryd.prog 7 #[x.val] W fun e w' => e = .returned (.bool (Rq.few x)) ∧ Below W.heap.size W w') := Lib.hid fun W => few9_any x W
  cases hfx : Rq.few x
  · rw [hfx] at CF
    clear hfx ok S0 hV
    obtain ⟨k, id, pg, du, a, l, s, ky, tz, lo, hi⟩ := x
    unfold Rq.V.val ReqCells at *
    unfold Rq.V.cells at *
    dsimp only at *
    go_enter Tryd.func3, Tryd.ntmps3
    go_wp2_with fail
    refine (CF.out _).mono ?_
    rintro e w1 ⟨rfl, b1⟩
    have H1 := Lib.hid (HS.out.step b1)
    clear b1
    go_wp2_with fail
    refine (works9_any _ (HV.out _ H1.out.1)).mono ?_
    rintro e w2 ⟨rfl, b2⟩
    have H2 := Lib.hid (H1.out.step b2)
    clear b2
    go_wp2_with fail
    go_ret
    exact ⟨rfl, H2.out.1⟩
  rw [hfx] at CF
  obtain ⟨rr, hrr⟩ : ∃ r, x.right = r := ⟨_, rfl⟩
  obtain ⟨bs, hbs⟩ : ∃ r, x.putB = r := ⟨_, rfl⟩
  obtain ⟨er, her⟩ : ∃ r, x.putE = r := ⟨_, rfl⟩
  have hbl : bs.length ≤ 99 := by rw [← hbs]; exact x.putB_len
  have hblt : ∀ y ∈ bs, y < 256 := by rw [← hbs]; exact x.putB_lt
  have CPut : Hid (∀ W, Vars W → Calls Tryd.prog 11 #[x.val] W (PutR W bs er)) := Lib.hid fun W hW => by
    rw [← hbs, ← her]
    exact pPut9_any x W hW ok
  have CPr : Hid (∀ W, Calls Tryd.prog 9 #[x.val] W (PutR W bs er)) := Lib.hid fun W => by
    rw [← hbs, ← her]
    exact refPut9_any x W ok
  have CRp : Hid (∀ W, Vars W → Calls Tryd.prog 14 #[x.val] W fun e w' => e = .returned (.bool rr) ∧ Below W.heap.size W w') := Lib.hid fun W hW => by
    rw [← hrr]
    exact pRight9_any x W hW ok.1
  have CRr : Hid (∀ W, Calls Tryd.prog 15 #[x.val] W fun e w' => e = .returned (.bool rr) ∧ Below W.heap.size W w') := Lib.hid fun W => by
    rw [← hrr]
    exact refRight9_any x W
  have CRf : Hid (∀ W, Calls Tryd.prog 10 #[x.val] W fun e w' => e = .returned x.val ∧ Below W.heap.size W w') := Lib.hid fun W => ref_any x W
  obtain ⟨T, hT⟩ : ∃ T, textOf (Rq.word kd) = T := ⟨_, rfl⟩
  have CWp : Hid (∀ W, Vars W → Calls Tryd.prog 16 #[.int .u8 (kd : Int)] W fun e w' => e = .returned (.string T) ∧ W = w') := Lib.hid fun W hW => by
    rw [← hT]
    exact word_any kd W hW hkd
  have CWr : Hid (∀ W, Calls Tryd.prog 17 #[.int .u8 (kd : Int)] W fun e w' => e = .returned (.string T) ∧ Below W.heap.size W w') := Lib.hid fun W => by
    rw [← hT]
    exact refWord_any kd W hkd
  have HBL := Lib.hid hblt
  clear hfx ok S0 hV hrr hbs her hblt hT
  obtain ⟨k, id, pg, du, a, l, s, ky, tz, lo, hi⟩ := x
  unfold Rq.V.val ReqCells at *
  unfold Rq.V.cells at *
  dsimp only at *
  go_enter Tryd.func3, Tryd.ntmps3
  go_wp2_with fail
  clear r0 r1 r2 r3 r4 r5 r6 r7 r8 r9 r10
  refine (CF.out _).mono ?_
  rintro e w1 ⟨rfl, b1⟩
  have S1 := HS.out.step b1
  obtain ⟨r0, r1, r2, r3, r4, r5, r6, r7, r8, r9, r10⟩ := RC.out _ S1
  have H1 := Lib.hid S1
  clear b1 S1
  go_wp2_with fail
  clear r0 r1 r2 r3 r4 r5 r6 r7 r8 r9 r10
  refine (CRf.out _).mono ?_
  rintro e w2 ⟨rfl, b2⟩
  have H2 := Lib.hid (H1.out.step b2)
  clear b2
  go_wp2_with fail
  refine (CPr.out _).mono ?_
  rintro e w4 ⟨A4, c4, rfl, o4, b4⟩
  have H4 := Lib.hid (H2.out.step b4)
  have O4 := Lib.hid (Bytes.of_own o4 HBL.out)
  clear b4 o4
  go_wp2_with fail
  go_loopw [7] (fun i wr => ∃ j : Nat, j ≤ 2 ∧ i = .int .i64 (j : Int) ∧ Below w4.heap.size w4 wr) (fun i _ => 2 - (intOf i).toNat)
  case atStart => exact ⟨0, by omega, rfl, Below.refl _ _⟩
  case round =>
    obtain ⟨j, hj, rfl, hbel⟩ := hrel
    have HJ := Lib.hid hbel
    have HR := Lib.hid (H4.out.step hbel)
    by_cases hlt : j < 2
    · have i1 : (j : Int) < 2 := by omega
      obtain ⟨r0, r1, r2, r3, r4, r5, r6, r7, r8, r9, r10⟩ := RC.out wr HR.out
      clear hbel
      go_wp2_with fail
      clear r0 r1 r2 r3 r4 r5 r6 r7 r8 r9 r10
      refine (CPut.out _ (HV.out _ HR.out.1)).mono ?_
      rintro e w5 ⟨A5, c5, rfl, o5, b5⟩
      have H5 := Lib.hid (And.intro o5 (And.intro b5 (O4.out.below (below_next HJ.out b5) (Nat.le_refl _))))
      have hz5 : w4.heap.size ≤ w5.heap.size := (below_next HJ.out b5).size
      clear o5 b5
      have eqr : (er != er) = false := by simp
      go_wp2_with fail
      refine (same_b (Bytes.of_own H5.out.1 HBL.out) (H5.out.2.2.more hz5) (by omega)).mono ?_
      rintro e w6 ⟨rfl, b6⟩
      have H6 := Lib.hid (And.intro (own_below H5.out.1 b6) (below_next H5.out.2.1 b6))
      clear b6
      go_wp2_with fail
      refine (spoil_any _ bs.length c5 A5 _ w6 H6.out.1 (by omega)).mono ?_
      rintro e w7 ⟨rfl, g7⟩
      have H7 := Lib.hid (H6.out.2.trans (spoil_b H6.out.1 g7 (Nat.le_refl _) H6.out.2.size))
      clear g7
      go_wp2_with fail
      refine ⟨⟨j + 1, by omega, by go_num, below_next HJ.out H7.out⟩, by simp [intOf]; omega⟩
    · obtain rfl : j = 2 := by omega
      have P5 : Hid (∀ W, Below wr.heap.size wr W → W.cell? ⟨w.heap.size, 0, none⟩ = some (.int .u8 (k : Int)) ∧ W.cell? ⟨w.heap.size, 1, none⟩ = some (.int .u32 (id : Int)) ∧ W.cell? ⟨w.heap.size, 2, none⟩ = some (.int .u8 (pg : Int)) ∧ W.cell? ⟨w.heap.size, 3, none⟩ = some (.int .u16 (du : Int)) ∧ W.cell? ⟨w.heap.size, 4, none⟩ = some (.int .u64 (a : Int)) ∧ W.cell? ⟨w.heap.size, 5, none⟩ = some (.int .u64 (l : Int)) ∧ W.cell? ⟨w.heap.size, 6, none⟩ = some (.int .u8 (s : Int)) ∧ W.cell? ⟨w.heap.size, 7, none⟩ = some (.string ky) ∧ W.cell? ⟨w.heap.size, 8, none⟩ = some (.string tz) ∧ W.cell? ⟨w.heap.size, 9, none⟩ = some (.int .i64 lo) ∧ W.cell? ⟨w.heap.size, 10, none⟩ = some (.int .i64 hi)) := Lib.hid fun W hW => RC.out W (HR.out.step hW)
      have V5 : Hid (∀ W, Below wr.heap.size wr W → Vars W) := Lib.hid fun W hW => HV.out W (HR.out.step hW).1
      have D0 : Hid (Below wr.heap.size wr wr.drew) := Lib.hid (Below.refl _ _).drew
      clear hbel
      go_upto_region 11 with (fail)
      go_region_held3 (fun W => W.cell? ⟨w.heap.size, 0, none⟩ = some (.int .u8 (k : Int)) ∧ W.cell? ⟨w.heap.size, 1, none⟩ = some (.int .u32 (id : Int)) ∧ W.cell? ⟨w.heap.size, 2, none⟩ = some (.int .u8 (pg : Int)) ∧ W.cell? ⟨w.heap.size, 3, none⟩ = some (.int .u16 (du : Int)) ∧ W.cell? ⟨w.heap.size, 4, none⟩ = some (.int .u64 (a : Int)) ∧ W.cell? ⟨w.heap.size, 5, none⟩ = some (.int .u64 (l : Int)) ∧ W.cell? ⟨w.heap.size, 6, none⟩ = some (.int .u8 (s : Int)) ∧ W.cell? ⟨w.heap.size, 7, none⟩ = some (.string ky) ∧ W.cell? ⟨w.heap.size, 8, none⟩ = some (.string tz) ∧ W.cell? ⟨w.heap.size, 9, none⟩ = some (.int .i64 lo) ∧ W.cell? ⟨w.heap.size, 10, none⟩ = some (.int .i64 hi)) (first | with_reducible exact P5.out _ D0.out | with_reducible exact P5.out _ D1.out | with_reducible exact P5.out _ D2.out | with_reducible exact P5.out _ D3.out | with_reducible exact P5.out _ D4.out | with_reducible exact P5.out _ D5.out | fail) (first
        | (go_at_call 14; (with_reducible refine (CRp.out _ (V5.out _ D0.out)).mono ?_); rintro e v1 ⟨rfl, p1⟩; have D1 := Lib.hid (below_next D0.out p1); clear p1)
        | (go_at_call 10; (with_reducible refine (CRf.out v1).mono ?_); rintro e v2 ⟨rfl, p2⟩; have D2 := Lib.hid (below_next D1.out p2); clear p2)
        | (go_at_call 15; (with_reducible refine (CRr.out v2).mono ?_); rintro e v3 ⟨rfl, p3⟩; have D3 := Lib.hid (below_next D2.out p3); clear p3)
        | (go_at_call 16; (with_reducible refine (CWp.out _ (V5.out _ D3.out)).mono ?_); rintro e v4 ⟨rfl, rfl⟩)
        | (go_at_call 17; (with_reducible refine (CWr.out v3).mono ?_); rintro e v4 ⟨rfl, p4⟩; have D4 := Lib.hid (below_next D3.out p4); clear p4)
        | (go_at_call 8; (with_reducible refine (works9_any _ (V5.out _ D4.out)).mono ?_); rintro e v5 ⟨rfl, p5⟩; have D5 := Lib.hid (below_next D4.out p5); clear p5))
      all_goals (go_wp2_with fail)
      go_ret
      exact ⟨rfl, below_next HR.out.1 D5.out⟩
end Go.Proofs.YtgailpljcobabaaDoor
