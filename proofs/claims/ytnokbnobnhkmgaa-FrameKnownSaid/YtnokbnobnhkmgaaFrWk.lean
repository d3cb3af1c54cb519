/- The chapter's examples of layer 7. -/
import Derived.Test.YtnokbnobnhkmgaaFrH
import Derived.Laws.MakeOwn
import Derived.Lib.SlBytesConst
namespace Go.Proofs.Ytnokbnobnhkmgaa
open Go.ChangeShapes Go.WideShapes Go.ChangeAt Go.RowKit

theorem put7_let {n c B m : Nat} {A : Option Addr} {l L : List Nat} {r : Int} {w : World} (h1 : Fr.bytes l = L) (h2 : Fr.err l = r) (h3 : L.length = m) (hb : Bytes w B A n l) (hB : B ≤ w.heap.size) (hn : n ≤ 9223372036854775807) :
    Calls Try.prog 15 #[.slice A n c] w fun e w' => ∃ A' c', e = .returned (.tuple #[.slice A' m c', .int .i64 r]) ∧ w'.ownsRow w.heap.size 5 1 (.slice A' m c') m (u8s L) ∧ Below w.heap.size w w' := by
  subst h1
  subst h2
  subst h3
  exact fPut7_any n c B A l w hb hB hn
theorem take7_let {n c B m : Nat} {A : Option Addr} {b L : List Nat} {at_ nx r : Int} {w : World} (h1 : Fr.tk b at_ = (L, nx, r)) (h3 : L.length = m) (hb : Bytes w B A n b) (hB : B ≤ w.heap.size) (hn : n ≤ 1000000) (hc : n ≤ c) (hat : -9223372036854775808 ≤ at_ ∧ at_ ≤ 9223372036854775807) :
    Calls Try.prog 18 #[.slice A n c, .int .i64 at_] w fun e w' => ∃ A' c', e = .returned (.tuple #[.slice A' m c', .int .i64 nx, .int .i64 r]) ∧ w'.ownsRow w.heap.size 5 1 (.slice A' m c') m (u8s L) ∧ Below w.heap.size w w' := by
  subst h3
  have := fTake7_any n c B A b at_ w hb hB hn hc hat
  rw [h1] at this
  exact this
theorem bytes_lit7 (w : World) (t : TypeId) (n : Nat) (l : List Nat) (cs : Array Value) (hcs : cs = (u8s l).toArray) (hl : ∀ x ∈ l, x < 256) (hn : l.length = n) : Bytes (w.alloc (.cells cs t)) (w.heap.size + 1) (some ⟨w.heap.size, 0, none⟩) n l := by
  subst hcs
  refine ⟨hn, hl, fun _ => ⟨w.heap.size, 0, rfl, by omega, fun i hi => ?_⟩⟩
  rw [Nat.zero_add, (Blk.new w t _).cell i, ← u8s_at (by omega)]
  simp
theorem bytes_marked (w : World) (t : TypeId) (n : Nat) (l : List Nat) (cs : Array Value) (mk : Nat × Nat) (hcs : cs = (u8s l).toArray) (hl : ∀ x ∈ l, x < 256) (hn : l.length = n) : Bytes (w.alloc (.cells cs t mk)) (w.heap.size + 1) (some ⟨w.heap.size, 0, none⟩) n l := by
  subst hcs
  refine ⟨hn, hl, fun _ => ⟨w.heap.size, 0, rfl, by omega, fun i hi => ?_⟩⟩
  rw [Nat.zero_add, cell_of_row _ w.heap.size i _ t mk (heap_alloc_new w _), ← u8s_at (by omega)]
  simp
theorem make7_ex (w : World) (N : Nat) (v : Int) (hv : v = N) (hN : N ≤ 65536) : ∃ w', (Instr.makeSlice 24 (.int .i64 v) (.int .i64 v)).run Try.prog w = .ok (.slice (some ⟨w.heap.size, 0, none⟩) N N) w' ∧ Below w.heap.size w w' ∧ Bytes w' w'.heap.size (some ⟨w.heap.size, 0, none⟩) N (List.replicate N 0) := by
  subst hv
  obtain ⟨i0, hi, hz0, hz1, hz2⟩ := info_parts Try.info5
  obtain ⟨w', hr, ho, hg⟩ := run_make_full (P := Try.prog) (w := w) w.heap.size 24 5 i0 (.int .u8 0) 1 Try.underlying24 hi hz0 hz1 .i64 .i64 N (by rw [hz2]; omega) (by unfold maxLen; omega) (Nat.le_refl _)
  have e : (madeCells (Value.int .u8 0).cells (N * 1)).toList = u8s (List.replicate N 0) := by
    show (madeCells #[Value.int .u8 0] (N * 1)).toList = _
    rw [toList_madeCells_one, Nat.mul_one]
    simp [u8s]
  rw [e] at ho
  exact ⟨w', hr, below_none hg, Bytes.of_own ho (by intro x hx; have := (List.mem_replicate.1 hx).2; omega)⟩
theorem own_bytes7 {w : World} {base n c : Nat} {A : Option Addr} {l : List Nat} {e : TypeId} (h : w.ownsRow base e 1 (.slice A n c) n (u8s l)) (hl : ∀ x ∈ l, x < 256) {w' : World} (hb : Below w.heap.size w w') : Bytes w' w'.heap.size A n l := ((Bytes.of_own h hl).below hb (Nat.le_refl _)).more hb.size
abbrev exA : List Nat := [0, 0, 0, 1, 97, 232, 183, 190, 67]
theorem fx1 : Fr.bytes [] = [0, 0, 0, 0, 0, 0, 0, 0] := by decide +kernel
theorem fx2 : Fr.bytes [97] = exA := by decide +kernel
theorem fx3 : Fr.tk exA 0 = ([97], 9, 0) := by decide +kernel
theorem fx4 : Fr.tk (exA.take 8) 0 = ([], 0, 70) := by decide +kernel
theorem fx5 : Fr.tk (exA.set 4 98) 0 = ([], 9, 72) := by decide +kernel
theorem fx6 : Fr.tk [0, 0, 32, 1] 0 = ([], 0, 71) := by decide +kernel
set_option maxRecDepth 100000 in
set_option maxHeartbeats 4000000 in
theorem works7_any (w : World) : Calls Try.prog 10 #[] w (LawP w) := by
  obtain ⟨iu, hi, hz0, hz1, hz2⟩ := info_parts Try.info5
  have HI := Lib.hid hi
  clear hi hz0 hz1 hz2
  have kc := fun (w : World) (C : Array Value) (n c : Nat) => Lib.run_convert_bytes_const (P := Try.prog) w 24 5 C n c Try.underlying24 Try.underlying5
  go_enter Try.func10, Try.ntmps10
  go_wp2_with fail
  refine (put7_let (B := 0) (m := 8) (r := 0) fx1 rfl rfl Bytes.nil (by omega) (by omega)).mono ?_
  rintro e w1 ⟨A1, c1, rfl, o1, b1⟩
  have O1 := Lib.hid o1
  have D1 := Lib.hid b1
  clear o1 b1
  go_wp2_with fail
  refine (put7_let (m := 9) (r := 0) fx2 rfl rfl (bytes_marked w1 5 1 [97] #[.int .u8 97] _ rfl (by decide) rfl) (by simp) (by omega)).mono ?_
  rintro e w2 ⟨A2, c2, rfl, o2, b2⟩
  have D12 : Hid (Below w1.heap.size w1 w2) := Lib.hid (((Below.refl w1.heap.size w1).alloc (Nat.le_refl _) _).trans (b2.mono (by simp)))
  have O2 := Lib.hid o2
  clear kc
  have C2 := Lib.hid (own_cap o2)
  obtain ⟨w3, hmk, hb3, hy3⟩ := make7_ex w2 8 8 rfl (by omega)
  have D23 := Lib.hid hb3
  have Y3 := Lib.hid hy3
  clear o2 b2 hb3 hy3
  go_wp2_with fail
  clear hmk
  have D13 := Lib.hid (D12.out.trans (D23.out.mono D12.out.size))
  refine (same_fit 8 c1 8 A1 _ [0, 0, 0, 0, 0, 0, 0, 0] w3 (own_bytes7 O1.out (by decide) D13.out) Y3.out (by omega)).mono ?_
  rintro e w4 ⟨rfl, b4⟩
  have D24 := Lib.hid (D23.out.trans (b4.mono D23.out.size))
  clear b4
  go_wp2_with fail
  have HL9 := Lib.hid (bytes_lit7 w4 5 9 exA #[.int .u8 0, .int .u8 0, .int .u8 0, .int .u8 1, .int .u8 97, .int .u8 232, .int .u8 183, .int .u8 190, .int .u8 67] rfl (by decide) rfl)
  have D25 := Lib.hid (D24.out.alloc D24.out.size (.cells #[.int .u8 0, .int .u8 0, .int .u8 0, .int .u8 1, .int .u8 97, .int .u8 232, .int .u8 183, .int .u8 190, .int .u8 67] 5))
  refine (same_fit 9 c2 9 A2 _ exA _ (own_bytes7 O2.out (by decide) D25.out) (HL9.out.more (by simp)) (by omega)).mono ?_
  rintro e w5 ⟨rfl, b5⟩
  have E5 := Lib.hid (D25.out.trans (b5.mono D25.out.size))
  clear b5 D24 D25 HL9 D23 Y3 D13
  go_wp2_with fail
  refine (take7_let (m := 1) (at_ := 0) fx3 rfl (own_bytes7 O2.out (by decide) E5.out) (Nat.le_refl _) (by omega) C2.out (by omega)).mono ?_
  rintro e w6 ⟨A6, c6, rfl, o6, b6⟩
  have O6 := Lib.hid o6
  have E6 := Lib.hid (below_next E5.out b6)
  have hcut : ∀ W : World, (Instr.sliceAt 24 (.slice A2 9 c2) none (some (.int .i64 8)) none).run Try.prog W = .ok (.slice A2 8 c2) W := run_cut_h (P := Try.prog) 24 5 iu Try.underlying24 HI.out A2 9 c2 8 (by have := C2.out; omega)
  clear o6 b6
  go_wp2_with fail
  clear hcut
  refine (take7_let (m := 0) (at_ := 0) fx4 rfl ((own_bytes7 O2.out (by decide) E6.out).head (j := 8) (by omega)) (Nat.le_refl _) (by omega) (by have := C2.out; omega) (by omega)).mono ?_
  rintro e w7 ⟨A7, c7, rfl, o7, b7⟩
  have E7 := Lib.hid (below_next E6.out b7)
  have F7 := Lib.hid b7
  clear o7 b7
  go_wp2_with fail
  refine (own_any 9 c2 _ A2 exA _ (own_bytes7 O2.out (by decide) E7.out) (by omega)).mono ?_
  rintro e w8 ⟨A8, c8, rfl, o8, b8⟩
  obtain ⟨g8, rfl, hc8⟩ := own_some o8 (by omega)
  have E8 := Lib.hid (below_next E7.out b8)
  have F8 := Lib.hid (below_next F7.out b8)
  have hcell : w8.cell? ⟨g8, 4, none⟩ = some (.int .u8 97) := by
    have := o8.cellAt 4 (by omega)
    rw [this]
    rfl
  have hfz := o8.frozenAt 4
  have hst := (o8.stored 4 (.int .u8 98)).1
  have hlo := (o8.lt g8 rfl).1
  have F8s := Lib.hid (F8.out.setCell (p := ⟨g8, 4, none⟩) (Nat.le_trans F7.out.size hlo) (.int .u8 98))
  have E8s := Lib.hid (E8.out.setCell (p := ⟨g8, 4, none⟩) (Nat.le_trans E7.out.size hlo) (.int .u8 98))
  have hs8 := own_cap o8
  have O8 := Lib.hid (show (w8.setCell ⟨g8, 4, none⟩ (.int .u8 98)).ownsRow w7.heap.size 5 1 (.slice (some ⟨g8, 0, none⟩) 9 c8) 9 (u8s (exA.set 4 98)) from hst)
  clear o8 b8 hc8 hst hlo
  go_wp2_with fail
  clear hcell hfz
  refine (take7_let (m := 0) (at_ := 0) fx5 rfl (Bytes.of_own O8.out (by decide)) (Nat.le_refl _) (by omega) hs8 (by omega)).mono ?_
  rintro e w9 ⟨A9, c9, rfl, o9, b9⟩
  have E9 := Lib.hid (below_next E8s.out b9)
  have F9 := Lib.hid (below_next F8s.out b9)
  clear o9 b9
  go_wp2_with fail
  refine (take7_let (m := 0) (at_ := 0) fx6 rfl (bytes_lit7 w9 5 4 [0, 0, 32, 1] #[.int .u8 0, .int .u8 0, .int .u8 32, .int .u8 1] rfl (by decide) rfl) (by simp) (by omega) (by omega) (by omega)).mono ?_
  rintro e wa ⟨Aa, ca, rfl, oa, ba⟩
  have Fa := Lib.hid ((F9.out.alloc F9.out.size (.cells #[.int .u8 0, .int .u8 0, .int .u8 32, .int .u8 1] 5)).trans (ba.mono (F9.out.alloc F9.out.size (.cells #[.int .u8 0, .int .u8 0, .int .u8 32, .int .u8 1] 5)).size))
  have Ea := Lib.hid ((E9.out.alloc E9.out.size (.cells #[.int .u8 0, .int .u8 0, .int .u8 32, .int .u8 1] 5)).trans (ba.mono (E9.out.alloc E9.out.size (.cells #[.int .u8 0, .int .u8 0, .int .u8 32, .int .u8 1] 5)).size))
  have hcv : (convert 24 9 (.slice A6 1 c6)).run Try.prog wa = .ok (.string ⟨#[97]⟩) wa := (conv_bytes (own_bytes7 (l := [97]) O6.out (by decide) Fa.out)).2.2
  clear oa ba
  go_wp2_with fail
  go_ret
  exact ⟨rfl, D1.out.trans ((D12.out.trans (Ea.out.mono D12.out.size)).mono D1.out.size)⟩
end Go.Proofs.Ytnokbnobnhkmgaa
