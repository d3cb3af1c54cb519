/- The document's own reader: what it takes. -/
import Derived.Test.YtadcjllfabihbaaPackW
import Derived.BigRegion
namespace Go.Proofs.Ytadcjllfabihbaa
open Go.ChangeShapes Go.WideShapes Go.ChangeAt Go.RowKit

/-- Where the document's reader stands behind k bytes. -/
def goes (f : Bool) (l : List Nat) (at_ k : Nat) : Nat := if Pk.fails f l k = true then at_ else at_ + k
theorem goes_yes {f : Bool} {l : List Nat} {a k : Nat} (h : Pk.fails f l k = true) : goes f l a k = a := by unfold goes; rw [if_pos h]
theorem goes_no {f : Bool} {l : List Nat} {a k : Nat} (h : Pk.fails f l k = false) : goes f l a k = a + k := by unfold goes; rw [if_neg (by simp [h])]
/-- The document's reader, as a value. -/
abbrev rv (A : Option Addr) (n c a : Nat) (f : Bool) : Value := .agg #[.slice A n c, .int .i64 (a : Int), .bool f]
def RTake (w : World) (A : Option Addr) (n c a k : Nat) (b : List Nat) (f : Bool) (e : Ending) (w' : World) : Prop :=
  e = .returned (.tuple #[.int .u64 ((Pk.num (Pk.taken f (b.drop a) k) : Nat) : Int), rv A n c (goes f (b.drop a) a k) (Pk.fails f (b.drop a) k)]) ∧ Below w.heap.size w w'

theorem drop_getD (b : List Nat) (a i : Nat) : (b.drop a).getD i 0 = b.getD (a + i) 0 := by
  rw [List.getD_eq_getElem?_getD, List.getD_eq_getElem?_getD, List.getElem?_drop]
theorem below_2d (w : World) (o o' : Obj) : Below w.heap.size w ((w.alloc o).alloc o').drew := (((Below.refl _ _).alloc (Nat.le_refl _) _).alloc (by simp) _).drew
set_option maxRecDepth 100000 in
set_option maxHeartbeats 1000000 in
theorem refTake_any (n c a k B : Nat) (A : Option Addr) (b : List Nat) (f : Bool) (w : World) (hb : Bytes w B A n b) (hB : B ≤ w.heap.size) (hn : n ≤ 1000000) (ha : a ≤ n) (hk : k ≤ 8) :
    Calls Try.prog 40 #[rv A n c a f, .int .i64 (k : Int)] w (RTake w A n c a k b f) := by
  have hbl : b.length = n := hb.1
  have HBL := Lib.hid hbl
  have hdl : (b.drop a).length = n - a := by rw [List.length_drop, hbl]
  have HDL := Lib.hid hdl
  have HB := Lib.hid hb
  clear hbl hdl hb
  unfold rv
  by_cases hf : f = true
  · subst hf
    have HF := Lib.hid (Pk.fails_yes (f := true) (l := b.drop a) (k := k) (.inl rfl))
    go_enter Try.func40, Try.ntmps40
    go_wp2_with fail
    go_region
    all_goals
      go_wp2_with fail
      refine bodyPost_ret (v := .tuple #[.int .u64 0, .agg #[.slice A n c, .int .i64 (a : Int), .bool true]]) ?_ rfl ⟨?_, ?_⟩
      · simp [results, Try.results40, go_sem]
      · rw [Pk.taken_yes HF.out, goes_yes HF.out, HF.out]; rfl
      · exact below_2d w _ _
  · obtain rfl : f = false := by simpa using hf
    clear hf
    by_cases hlt : n < a + k
    · have HF := Lib.hid (Pk.fails_yes (f := false) (l := b.drop a) (k := k) (.inr (by have := HDL.out; omega)))
      have hlt' : (n : Int) - a < k := by omega
      go_enter Try.func40, Try.ntmps40
      go_wp2_with fail
      go_region
      all_goals
        go_wp2_with fail
        refine bodyPost_ret (v := .tuple #[.int .u64 0, .agg #[.slice A n c, .int .i64 (a : Int), .bool true]]) ?_ rfl ⟨?_, ?_⟩
        · simp [results, Try.results40, go_sem]
        · rw [Pk.taken_yes HF.out, goes_yes HF.out, HF.out]; rfl
        · exact below_2d w _ _
    · have HF := Lib.hid (Pk.fails_no (l := b.drop a) (k := k) (by have := HDL.out; omega))
      have hlt' : (k : Int) ≤ (n : Int) - a := by omega
      have hb2 := ((HB.out.alloc hB (.cells #[.slice A n c, .int .i64 (a : Int), .bool false] 47)).alloc (by simp; omega) (.cells #[.slice none 0 0, .int .i64 0, .bool false] 47))
      have HB2 := Lib.hid hb2
      have HX := Lib.hid HB.out.2.1
      clear hb2
      go_enter Try.func40, Try.ntmps40
      go_wp2_with fail
      go_loop [6, 7] (fun t i => ∃ j x : Nat, j ≤ k ∧ i = .int .i64 j ∧ Pk.num ((b.drop a).take j) = x ∧ t = .int .u64 (x : Int)) (fun _ i => k - (intOf i).toNat)
      case atStart => exact ⟨0, 0, by omega, rfl, rfl, rfl⟩
      case round =>
        obtain ⟨j, x, hj, rfl, hx, rfl⟩ := hrel
        by_cases hjk : j < k
        · obtain ⟨bb, off, rfl, hbB, hc⟩ := HB2.out.2.2 (by omega)
          have hck := hc (a + j) (by omega)
          have h8 := HB2.out.lt (a + j)
          have hst : Pk.num ((b.drop a).take (j + 1)) = Pk.num ((b.drop a).take j) * 256 + b.getD (a + j) 0 := by
            rw [take_snoc (b.drop a) j (by have := HDL.out; omega), Pk.num_snoc, drop_getD]
          have hx7 : x < 72057594037927936 := by
            rw [← hx]
            exact Nat.lt_of_lt_of_le (Pk.num_take_lt (b.drop a) j (fun y hy => HX.out y (List.mem_of_mem_drop hy)) (by have := HDL.out; omega)) (Nat.le_trans (Nat.pow_le_pow_right (by decide) (show j ≤ 7 by omega)) (by decide))
          rw [hx] at hst
          have HS := Lib.hid hst
          clear hc hx hst
          generalize b.getD (a + j) 0 = y at *
          go_wp2_with fail
          go_round
          case rel => exact ⟨j + 1, x * 256 + y, by omega, by go_num, HS.out, by go_num⟩
          case measure => simp [intOf]; omega
        · obtain rfl : k = j := by omega
          have HXX := Lib.hid hx
          clear hx
          go_wp2_with fail
          go_region
          all_goals
            go_wp2_with fail
            refine bodyPost_ret (v := .tuple #[.int .u64 (x : Int), .agg #[.slice A n c, .int .i64 ((a : Int) + k), .bool false]]) ?_ rfl ⟨?_, ?_⟩
            · simp [results, Try.results40, go_sem]
            · rw [Pk.taken_no HF.out, goes_no HF.out, HF.out, HXX.out]; rfl
            · exact below_2d w _ _
end Go.Proofs.Ytadcjllfabihbaa
