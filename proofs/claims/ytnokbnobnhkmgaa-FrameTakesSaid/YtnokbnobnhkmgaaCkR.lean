/- Layer 1's reference, as later stages lean on it (stage 1's walks, over the common words of memory). -/
import Derived.Test.YtnokbnobnhkmgaaKit
import Derived.Test.YtnokbnobnhkmgaaCrc
import Derived.WalkKit
import Derived.ProofKit
import Derived.Laws.BitsAllLaws
import Derived.Lib.Hide
import Derived.Below
import Derived.Laws.OwnMore
import Derived.Deep.Draws
import Derived.Laws.Rows
import Derived.Deep.RegionWith
import Derived.Outline
import Derived.Tactics
import Derived.Tactics2
import Derived.Defers
import Derived.Laws.Pointers
import Derived.Laws.LoneSync
import Derived.RegionTactic
import Derived.RegionCalls
import Derived.ChangeAlike
import Derived.Laws.NewBlocks
import Derived.Maps.AppendAt
import Derived.Deep.QuietTactic
import Derived.BigQuiet
import Derived.Laws.AppendOwn
import Derived.Laws.AppendOwnNone
import Derived.Deep.AppendLies
import Derived.Lib.ConvBytes
import Derived.Laws.BytesArg
namespace Go.Proofs.Ytnokbnobnhkmgaa
open Go.ChangeShapes Go.WideShapes Go.ChangeAt Go.RowKit

theorem bits_xor_poly (c : Nat) (hc : c < 4294967296) : bits .xor .u32 ((c : Int) / 2) 3988292384 = ((c / 2 ^^^ 3988292384 : Nat) : Int) :=
  u32_xor_nat (c / 2) 3988292384 (by omega) (by omega)
theorem bits_xor (a b : Int) (h1 : 0 ≤ a) (h2 : a < 4294967296) (h3 : 0 ≤ b) (h4 : b < 4294967296) : bits .xor .u32 a b = ((a.toNat ^^^ b.toNat : Nat) : Int) := u32_xor a b h1 h2 h3 h4
theorem half_odd (c : Nat) (h : c % 2 = 1) : Crc.half c = c / 2 ^^^ 3988292384 := by unfold Crc.half; rw [if_pos h]
theorem half_even (c : Nat) (h : ¬ c % 2 = 1) : Crc.half c = c / 2 := by unfold Crc.half; rw [if_neg h]
theorem halves_step {k c n : Nat} (h : k < 8) (hh : Crc.halves (8 - k) c = n) : Crc.halves (8 - (k + 1)) (Crc.half c) = n := by
  rw [← hh, show 8 - k = (8 - (k + 1)) + 1 from by omega]; rfl
theorem halves_end {k c n : Nat} (h : ¬ k < 8) (hh : Crc.halves (8 - k) c = n) : c = n := by
  rw [← hh, show 8 - k = 0 from by omega]; rfl
theorem ckRefTake (n b : Int) (w : World) (h0 : 0 ≤ n) (h1 : n < 4294967296) (h2 : 0 ≤ b) (h3 : b < 256) :
    Calls Try.prog 48 #[.int .u32 n, .int .u8 b] w fun e w' => e = .returned (.int .u32 ((Crc.take n.toNat b.toNat : Nat) : Int)) ∧ w = w' := by
  have hx := bits_xor n b h0 h1 h2 (by omega)
  have hl := Crc.xor_lt (a := n.toNat) (b := b.toNat) (by omega) (by omega)
  go_enter Try.func48, Try.ntmps48
  go_wp2
  go_loop [5, 6] (fun t i => ∃ k c : Nat, k ≤ 8 ∧ i = .int .i64 k ∧ c < 4294967296 ∧ Crc.halves (8 - k) c = Crc.take n.toNat b.toNat ∧ t = .int .u32 c) (fun _ i => 8 - (intOf i).toNat)
  case atStart => exact ⟨0, _, by omega, rfl, hl, rfl, rfl⟩
  case round =>
    obtain ⟨k, c, hk, rfl, hc, hh, rfl⟩ := hrel
    have HH := Lib.hid hh
    clear hh hx hl
    by_cases hlt : k < 8
    · by_cases hp : c % 2 = 1
      · have hb : (((c : Int) % 2) == 1) = true := by simp; omega
        have HP := Lib.hid hp
        clear hp
        go_wp2
        go_round
        case rel => exact ⟨k + 1, Crc.half c, by omega, by go_num, Crc.half_lt hc, halves_step hlt HH.out, int_eq (by rw [bits_xor_poly c hc, half_odd c HP.out])⟩
        case measure => simp [intOf]; omega
      · have hb : (((c : Int) % 2) == 1) = false := by simp; omega
        have HP := Lib.hid hp
        clear hp
        go_wp2
        go_round
        case rel => exact ⟨k + 1, Crc.half c, by omega, by go_num, Crc.half_lt hc, halves_step hlt HH.out, int_eq (by rw [half_even c HP.out]; omega)⟩
        case measure => simp [intOf]; omega
    · go_wp2
      go_ret
      exact ⟨ret_int (by rw [halves_end hlt HH.out]), rfl⟩
/-- Behind k bytes of a row. -/
theorem run_step {w : World} {B n k : Nat} {A : Option Addr} {l : List Nat} (h : Bytes w B A n l) (hk : k < n) (r : Nat) : Crc.run r (l.take (k + 1)) = Crc.take (Crc.run r (l.take k)) (l.getD k 0) := by
  rw [take_snoc l k (by rw [h.1]; exact hk), Crc.run_snoc]
theorem run_all {w : World} {B n k : Nat} {A : Option Addr} {l : List Nat} (h : Bytes w B A n l) (hk : ¬ k < n) (r : Nat) : Crc.run r (l.take k) = Crc.run r l := by
  rw [List.take_of_length_le (by rw [h.1]; omega)]
theorem runs_step {ls : List (List Nat)} {n k : Nat} (h : ls.length = n) (hk : k < n) (r : Nat) : Crc.runs r (ls.take (k + 1)) = Crc.run (Crc.runs r (ls.take k)) (ls.getD k []) := by
  rw [take_snoc' ls k (by omega), Crc.runs_snoc]
theorem runs_take_lt {ls : List (List Nat)} (ha : ∀ l ∈ ls, ∀ b ∈ l, b < 256) (k : Nat) : Crc.runs 4294967295 (ls.take k) < 4294967296 := Crc.runs_lt (by omega) fun l hl => ha l (List.mem_of_mem_take hl)
theorem runs_take0 (r : Nat) (ls : List (List Nat)) : Crc.runs r (ls.take 0) = r := by rw [List.take_zero]; rfl
set_option maxRecDepth 100000 in
theorem refSum_any (n c B : Nat) (A : Option Addr) (ls : List (List Nat)) (w : World) (hb : RowsOf w B A n ls) (hn : n ≤ 9223372036854775807) :
    Calls Try.prog 39 #[.slice A n c] w fun e w' => e = .returned (.int .u32 ((Crc.sum ls : Nat) : Int)) ∧ w = w' := by
  have hu : Crc.sum ls = 4294967295 - Crc.runs 4294967295 ls := rfl
  have HU := Lib.hid hu
  have hall := Lib.hid hb.all
  have hlen := Lib.hid hb.1
  clear hu
  go_enter Try.func39, Try.ntmps39
  go_wp2_with fail
  go_loop [3, 4] (fun t i => ∃ k : Nat, k ≤ n ∧ i = .int .i64 k ∧ t = .int .u32 ((Crc.runs 4294967295 (ls.take k) : Nat) : Int)) (fun _ i => n - (intOf i).toNat)
  case atStart => exact ⟨0, by omega, rfl, by rw [runs_take0]; rfl⟩
  case round =>
    obtain ⟨k, hk, rfl, rfl⟩ := hrel
    have hlr := runs_take_lt hall.out k
    by_cases hlt : k < n
    · obtain ⟨b, off, rfl, hbB, hc⟩ := hb.2 (by omega)
      obtain ⟨a, m, c', hck, hm, hbm⟩ := hc k hlt
      have HS := Lib.hid (runs_step hlen.out hlt 4294967295)
      clear hc hb
      generalize ls.getD k [] = l at *
      generalize Crc.runs 4294967295 (ls.take k) = r0 at *
      go_wp2_with fail
      go_loop [3, 5] (fun t j => ∃ q : Nat, q ≤ m ∧ j = .int .i64 q ∧ t = .int .u32 ((Crc.run r0 (l.take q) : Nat) : Int)) (fun _ j => m - (intOf j).toNat)
      case atStart => exact ⟨0, by omega, rfl, rfl⟩
      case round =>
        obtain ⟨q, hq, rfl, rfl⟩ := hrel
        have hlq : Crc.run r0 (l.take q) < 4294967296 := Crc.run_lt hlr (hbm.take_lt q)
        by_cases hqm : q < m
        · obtain ⟨b', off', rfl, hbB', hc'⟩ := hbm.2.2 (by omega)
          have hcq := hc' q hqm
          have h8 := hbm.lt q
          have HQ := Lib.hid (run_step hbm hqm r0)
          generalize l.getD q 0 = x at *
          generalize Crc.run r0 (l.take q) = r at *
          clear hc'
          go_wp2_with (go_at_call 48; refine (ckRefTake _ _ _ (by omega) (by omega) (by omega) (by omega)).mono ?_; rintro e w' ⟨rfl, rfl⟩)
          go_round
          case rel => exact ⟨q + 1, by omega, by go_num, by rw [HQ.out]⟩
          case measure => simp [intOf]; omega
        · have HA := Lib.hid (run_all hbm hqm r0)
          rw [HA.out] at hlq ⊢
          go_wp2_with fail
          go_round
          case rel => exact ⟨k + 1, by omega, by go_num, by rw [HS.out]⟩
          case measure => simp [intOf]; omega
    · have hta : ls.take k = ls := List.take_of_length_le (by rw [hlen.out]; omega)
      rw [hta] at hlr ⊢
      clear hta
      go_wp2_with fail
      go_ret
      exact ⟨ret_int (by rw [HU.out]; omega), rfl⟩
/-- The four bytes of a number, the greatest first. -/
def be4 (s : Nat) : List Nat := [s / 16777216, s / 65536 % 256, s / 256 % 256, s % 256]
theorem own_new4 (w1 : World) (t : TypeId) (g base a b c d : Nat) (hg : g = w1.heap.size) (hB : base ≤ w1.heap.size) (v0 v1 v2 v3 : Int) (h0 : v0 = a) (h1 : v1 = b) (h2 : v2 = c) (h3 : v3 = d) :
    (w1.alloc (.cells #[.int .u8 v0, .int .u8 v1, .int .u8 v2, .int .u8 v3] t)).ownsRow base t 1 (.slice (some ⟨g, 0, none⟩) 4 4) 4 (u8s [a, b, c, d]) := by
  subst hg h0 h1 h2 h3
  exact ⟨rfl, .inr ⟨_, 4, _, rfl, hB, Blk.new w1 t _, by omega, by decide, rfl, rfl⟩⟩
set_option maxRecDepth 100000 in
theorem refOf_some (s n c B : Nat) (A : Option Addr) (l : List Nat) (w : World) (hs : Crc.sum [l] = s) (hb : Bytes w B A n l) (hB : B ≤ w.heap.size) (hn : n ≤ 9223372036854775807) :
    Calls Try.prog 33 #[.slice A n c] w (OwnPost w 4 (be4 s)) := by
  have hlt : s < 4294967296 := by rw [← hs]; exact Crc.sum_lt [l]
  have HE := Lib.hid hs
  clear hs
  go_enter Try.func33, Try.ntmps33
  go_wp2_with fail
  refine (refSum_any 1 1 (w.heap.size + 1) _ [l] _ (RowsOf.made hb hB hn) (by omega)).mono ?_
  rintro e w1 ⟨rfl, rfl⟩
  rw [HE.out]
  go_wp2_with fail
  go_ret
  refine ⟨some ⟨w.heap.size + 1, 0, none⟩, 4, rfl, own_new4 (w.alloc (.cells #[.slice A n c] 24)) 5 (w.heap.size + 1) w.heap.size (s / 16777216) (s / 65536 % 256) (s / 256 % 256) (s % 256) (by simp) (by simp) ((s : Int) / 16777216) ((s : Int) / 65536 % 256) ((s : Int) / 256 % 256) ((s : Int) % 256) (by omega) (by omega) (by omega) (by omega), ?_⟩
  exact ((Below.refl _ _).alloc (Nat.le_refl _) _).alloc (by simp) _
end Go.Proofs.Ytnokbnobnhkmgaa
