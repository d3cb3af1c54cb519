/- More calls of layer 1, the document's own, and what statements share. -/
import Derived.Test.YtflfmcicidgkmaaWalkF
import Derived.Outline
import Derived.Deep.QuietTactic
import Derived.BigQuiet
namespace Go.Proofs.Ytflfmcicidgkmaa
open Go.ChangeShapes Go.WideShapes Go.ChangeAt Go.RowKit

set_option maxRecDepth 100000 in
theorem methTake_any (g r b : Nat) (w : World) (hT : Blank w g ∨ Made w g) (hr : r < 4294967296) (hb : b < 256) :
    Calls Try.prog 17 #[.pointer (some ⟨g, 0, none⟩), .int .u32 (r : Int), .int .u8 (b : Int)] w fun e w' => e = .returned (.int .u32 ((Crc.take r b : Nat) : Int)) ∧ (Made w' g ∧ w.grownBy w' (some g)) := by
  go_enter Try.func17, Try.ntmps17
  go_wp2_with fail
  refine (do_any g _ hT).mono ?_
  rintro e w1 ⟨rfl, hm, hg⟩
  clear hT
  go_wp2_with fail
  refine (tableTake_any g r b _ hm hr hb).mono ?_
  rintro e w' ⟨rfl, rfl⟩
  go_wp2_with fail
  go_ret
  exact ⟨rfl, hm, hg⟩
theorem methTake_nil (r b : Nat) (w : World) (hr : r < 4294967296) (hb : b < 256) :
    Calls Try.prog 17 #[.pointer none, .int .u32 (r : Int), .int .u8 (b : Int)] w fun e w' => e = .returned (.int .u32 ((Crc.take r b : Nat) : Int)) ∧ w = w' := by
  go_enter Try.func17, Try.ntmps17
  go_wp2_with fail
  refine (take_any r b _ (by omega) (by omega) (by omega) (by omega)).mono ?_
  rintro e w' ⟨rfl, rfl⟩
  go_wp2_with fail
  go_ret
  exact ⟨rfl, rfl⟩

set_option maxRecDepth 100000 in
theorem refUpdate_any (s n c B : Nat) (A : Option Addr) (l : List Nat) (w : World) (hs : s < 4294967296) (hb : Bytes w B A n l) (hn : n ≤ 9223372036854775807) :
    Calls Try.prog 13 #[.int .u32 (s : Int), .slice A n c] w fun e w' => e = .returned (.int .u32 ((Crc.upd s l : Nat) : Int)) ∧ w = w' := by
  have hu : Crc.upd s l = 4294967295 - Crc.run (4294967295 - s) l := rfl
  have hr0 : 4294967295 - s < 4294967296 := by omega
  have hc0 : (4294967295 : Int) - s = ((4294967295 - s : Nat) : Int) := by omega
  have HU := Lib.hid hu
  clear hu
  go_enter Try.func13, Try.ntmps13
  go_wp2_with fail
  go_loop [5, 6] (fun t i => ∃ k : Nat, k ≤ n ∧ i = .int .i64 k ∧ t = .int .u32 ((Crc.run (4294967295 - s) (l.take k) : Nat) : Int)) (fun _ i => n - (intOf i).toNat)
  case atStart => exact ⟨0, by omega, rfl, rfl⟩
  case round =>
    obtain ⟨k, hk, rfl, rfl⟩ := hrel
    clear hc0
    generalize 4294967295 - s = r0 at *
    have hlr : Crc.run r0 (l.take k) < 4294967296 := Crc.run_lt hr0 (hb.take_lt k)
    by_cases hlt : k < n
    · obtain ⟨b, off, rfl, hbB, hc⟩ := hb.2.2 (by omega)
      have hck := hc k hlt
      have h8 := hb.lt k
      have HS := Lib.hid (run_step hb hlt r0)
      generalize l.getD k 0 = x at *
      generalize Crc.run r0 (l.take k) = r at *
      clear hc
      go_wp2_with (go_at_call 15; refine (refTake_any _ _ _ (by omega) (by omega) (by omega) (by omega)).mono ?_; rintro e w' ⟨rfl, rfl⟩)
      go_round
      case rel => exact ⟨k + 1, by omega, by go_num, by rw [HS.out]⟩
      case measure => simp [intOf]; omega
    · have HA := Lib.hid (run_all hb hlt r0)
      rw [HA.out] at hlr ⊢
      go_wp2_with fail
      go_ret
      exact ⟨ret_int (by rw [HU.out]; omega), rfl⟩

theorem runs_step {ls : List (List Nat)} {n k : Nat} (h : ls.length = n) (hk : k < n) (r : Nat) : Crc.runs r (ls.take (k + 1)) = Crc.run (Crc.runs r (ls.take k)) (ls.getD k []) := by
  rw [take_snoc' ls k (by omega), Crc.runs_snoc]
theorem runs_take_lt {ls : List (List Nat)} (ha : ∀ l ∈ ls, ∀ b ∈ l, b < 256) (k : Nat) : Crc.runs 4294967295 (ls.take k) < 4294967296 := Crc.runs_lt (by omega) fun l hl => ha l (List.mem_of_mem_take hl)
theorem runs_take0 (r : Nat) (ls : List (List Nat)) : Crc.runs r (ls.take 0) = r := by rw [List.take_zero]; rfl

set_option maxRecDepth 100000 in
theorem refSum_any (n c B : Nat) (A : Option Addr) (ls : List (List Nat)) (w : World) (hb : RowsOf w B A n ls) (hn : n ≤ 9223372036854775807) :
    Calls Try.prog 11 #[.slice A n c] w fun e w' => e = .returned (.int .u32 ((Crc.sum ls : Nat) : Int)) ∧ w = w' := by
  have hu : Crc.sum ls = 4294967295 - Crc.runs 4294967295 ls := rfl
  have HU := Lib.hid hu
  have hall := Lib.hid hb.all
  have hlen := Lib.hid hb.1
  clear hu
  go_enter Try.func11, Try.ntmps11
  go_wp2_with fail
  go_loop [3, 4] (fun t i => ∃ k : Nat, k ≤ n ∧ i = .int .i64 k ∧ t = .int .u32 ((Crc.runs 4294967295 (ls.take k) : Nat) : Int)) (fun _ i => n - (intOf i).toNat)
  case atStart => exact ⟨0, by omega, rfl, by rw [runs_take0]; rfl⟩
  case round =>
    obtain ⟨k, hk, rfl, rfl⟩ := hrel
    have hlr := runs_take_lt hall.out k
    by_cases hlt : k < n
    · obtain ⟨b, off, rfl, hbB, hc⟩ := hb.2 (by omega)
      obtain ⟨a, m, c', hck, hm, hbm⟩ := hc k hlt
      have HS := Lib.hid (runs_step hlen.out hlt 4294967295)
      clear hc hb
      generalize ls.getD k [] = l at *
      generalize Crc.runs 4294967295 (ls.take k) = r0 at *
      go_wp2_with fail
      go_loop [3, 5] (fun t j => ∃ q : Nat, q ≤ m ∧ j = .int .i64 q ∧ t = .int .u32 ((Crc.run r0 (l.take q) : Nat) : Int)) (fun _ j => m - (intOf j).toNat)
      case atStart => exact ⟨0, by omega, rfl, rfl⟩
      case round =>
        obtain ⟨q, hq, rfl, rfl⟩ := hrel
        have hlq : Crc.run r0 (l.take q) < 4294967296 := Crc.run_lt hlr (hbm.take_lt q)
        by_cases hqm : q < m
        · obtain ⟨b', off', rfl, hbB', hc'⟩ := hbm.2.2 (by omega)
          have hcq := hc' q hqm
          have h8 := hbm.lt q
          have HQ := Lib.hid (run_step hbm hqm r0)
          generalize l.getD q 0 = x at *
          generalize Crc.run r0 (l.take q) = r at *
          clear hc'
          go_wp2_with (go_at_call 15; refine (refTake_any _ _ _ (by omega) (by omega) (by omega) (by omega)).mono ?_; rintro e w' ⟨rfl, rfl⟩)
          go_round
          case rel => exact ⟨q + 1, by omega, by go_num, by rw [HQ.out]⟩
          case measure => simp [intOf]; omega
        · have HA := Lib.hid (run_all hbm hqm r0)
          rw [HA.out] at hlq ⊢
          go_wp2_with fail
          go_round
          case rel => exact ⟨k + 1, by omega, by go_num, by rw [HS.out]⟩
          case measure => simp [intOf]; omega
    · have hta : ls.take k = ls := List.take_of_length_le (by rw [hlen.out]; omega)
      rw [hta] at hlr ⊢
      clear hta
      go_wp2_with fail
      go_ret
      exact ⟨ret_int (by rw [HU.out]; omega), rfl⟩

theorem pick_eq (i n : Int) : (i.tmod n + n) % n = i % n := by
  rw [Int.add_emod_right, Int.tmod_def, Int.sub_eq_add_neg, ← Int.mul_neg, Int.add_mul_emod_self_left]
/-- A number brought from 0 up to n. -/
theorem pick_any (i n : Int) (w : World) (h0 : 0 < n) (h1 : n < 1000000) :
    Calls Try.prog 23 #[.int .i64 i, .int .i64 n] w fun e w' => e = .returned (.int .i64 (i % n)) ∧ w = w' := by
  have t1 : -n < i.tmod n := by have := Int.lt_tmod_of_pos i h0; omega
  have t2 : i.tmod n < n := Int.tmod_lt_of_pos i h0
  go_enter Try.func23, Try.ntmps23
  go_wp2_with fail
  go_ret
  exact ⟨ret_int (pick_eq i n), rfl⟩

/-- Two rows of bytes, held against each other. -/
theorem getD_eq_all {a b : List Nat} (h : a.length = b.length) (hk : ∀ i, i < a.length → a.getD i 0 = b.getD i 0) : a = b := by
  apply List.ext_getElem h
  intro i h1 h2
  have := hk i h1
  rw [List.getD_eq_getElem?_getD, List.getD_eq_getElem?_getD, List.getElem?_eq_getElem h1, List.getElem?_eq_getElem h2] at this
  exact this

set_option maxRecDepth 100000 in
theorem same_yes (n c n' c' B : Nat) (A A' : Option Addr) (l : List Nat) (w : World) (hb : Bytes w B A n l) (hb' : Bytes w B A' n' l) (hn : n ≤ 9223372036854775807) :
    Calls Try.prog 19 #[.slice A n c, .slice A' n' c'] w fun e w' => e = .returned (.bool true) ∧ ∃ m, w' = w.drewN m := by
  obtain rfl : n = n' := by rw [← hb.1, ← hb'.1]
  go_enter Try.func19, Try.ntmps19
  go_wp2_with fail
  go_loopw [5] (fun i wr => ∃ k : Nat, k ≤ n ∧ i = .int .i64 k ∧ ∃ m, wr = w.drewN m) (fun i _ => n - (intOf i).toNat)
  case atStart => exact ⟨0, by omega, rfl, 0, rfl⟩
  case round =>
    obtain ⟨k, hk, rfl, m, rfl⟩ := hrel
    by_cases hlt : k < n
    · obtain ⟨b, off, rfl, hbB, hc⟩ := hb.2.2 (by omega)
      obtain ⟨b', off', rfl, hbB', hc'⟩ := hb'.2.2 (by omega)
      have hck := hc k hlt
      have hck' := hc' k hlt
      clear hc hc' hb hb'
      generalize l.getD k 0 = x at *
      go_wp2_with fail
      go_quiet (fail)
      go_wp2_with fail
      go_roundw
      case rel => exact ⟨k + 1, by omega, by go_num, _, rfl⟩
      case measure => simp [intOf]; omega
    · clear hb hb'
      go_wp2_with fail
      go_ret
      exact ⟨rfl, m, rfl⟩
end Go.Proofs.Ytflfmcicidgkmaa
