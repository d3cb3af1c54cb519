/- Layer 2, the program, as stage 8 leans on it (made by tools/slice.py). -/
import Derived.Test.YtognlgklepgemaaGreatRd6
import Derived.Test.YtognlgklepgemaaGreatHeld
import Derived.Test.YtognlgklepgemaaGreatJoin2
import Derived.Test.YtognlgklepgemaaGreatKit
import Derived.Test.YtognlgklepgemaaGreatAppNil
namespace Go.Proofs.YtognlgklepgemaaGreat
open Go.ChangeShapes Go.WideShapes Go.ChangeAt Go.RowKit

set_option maxRecDepth 100000 in
theorem packed_uint8_any (v : Int) (n s : Nat) (w : World) (hv : v = n) (hn : n < 18446744073709551616) (hs : Size s) :
    Calls Tryz.prog 67 #[.int .u8 v, .int .i64 (s : Int)] w (OwnPost w s (Pk.be s n)) := by
  obtain ⟨o, hmk, ho⟩ := makes hs w
  have hst := Part.begin w s n o ho
  have hs8 := hs.le
  have HS := Lib.hid hs
  subst hv
  clear hs ho
  go_enter Tryz.func67, Tryz.ntmps67
  go_wp2_with fail
  generalize w.alloc (.cells o 5) = w0 at *
  clear hmk
  go_loopw [6, 7] (fun r i wr => ∃ j d : Nat, j + d = s ∧ i = .int .i64 ((j : Int) - 1) ∧ r = .int .u64 ((n / 256 ^ d : Nat) : Int) ∧ Part w wr j d n) (fun _ i _ => (intOf i + 1).toNat)
  case atStart => exact ⟨s, 0, by omega, rfl, by simp, hst⟩
  case round =>
    obtain ⟨j, d, hj, rfl, rfl, hp⟩ := hrel
    have hr : n / 256 ^ d < 18446744073709551616 := Nat.lt_of_le_of_lt (Nat.div_le_self _ _) hn
    have HD := Lib.hid (div_step n d)
    have HJ := Lib.hid hj
    clear hj
    by_cases hj0 : j = 0
    · subst hj0
      obtain rfl : d = s := by have := HJ.out; omega
      rw [show ((0 : Nat) : Int) - 1 = -1 from rfl]
      go_wp2_with fail
      go_ret
      exact hp.own hs8
    · obtain ⟨i, rfl⟩ : ∃ i, j = i + 1 := ⟨j - 1, by omega⟩
      rw [show ((i + 1 : Nat) : Int) - 1 = (i : Int) from by omega]
      obtain ⟨⟨u, hc⟩, hz⟩ := hp.cell
      have his : i < s := by have := HJ.out; omega
      have HP := Lib.hid hp
      clear hp hst
      generalize hq : n / 256 ^ d = q at *
      have HQ := Lib.hid hq
      clear hq
      go_wp2_with fail
      go_roundw
      case rel => exact ⟨i, d + 1, by have := HJ.out; omega, rfl, int_eq (by rw [← HD.out]; omega), HP.out.step (by rw [HQ.out]; omega)⟩
      case measure => simp [intOf]
set_option maxRecDepth 100000 in
theorem packed_uint16_any (v : Int) (n s : Nat) (w : World) (hv : v = n) (hn : n < 18446744073709551616) (hs : Size s) :
    Calls Tryz.prog 113 #[.int .u16 v, .int .i64 (s : Int)] w (OwnPost w s (Pk.be s n)) := by
  obtain ⟨o, hmk, ho⟩ := makes hs w
  have hst := Part.begin w s n o ho
  have hs8 := hs.le
  have HS := Lib.hid hs
  subst hv
  clear hs ho
  go_enter Tryz.func113, Tryz.ntmps113
  go_wp2_with fail
  generalize w.alloc (.cells o 5) = w0 at *
  clear hmk
  go_loopw [6, 7] (fun r i wr => ∃ j d : Nat, j + d = s ∧ i = .int .i64 ((j : Int) - 1) ∧ r = .int .u64 ((n / 256 ^ d : Nat) : Int) ∧ Part w wr j d n) (fun _ i _ => (intOf i + 1).toNat)
  case atStart => exact ⟨s, 0, by omega, rfl, by simp, hst⟩
  case round =>
    obtain ⟨j, d, hj, rfl, rfl, hp⟩ := hrel
    have hr : n / 256 ^ d < 18446744073709551616 := Nat.lt_of_le_of_lt (Nat.div_le_self _ _) hn
    have HD := Lib.hid (div_step n d)
    have HJ := Lib.hid hj
    clear hj
    by_cases hj0 : j = 0
    · subst hj0
      obtain rfl : d = s := by have := HJ.out; omega
      rw [show ((0 : Nat) : Int) - 1 = -1 from rfl]
      go_wp2_with fail
      go_ret
      exact hp.own hs8
    · obtain ⟨i, rfl⟩ : ∃ i, j = i + 1 := ⟨j - 1, by omega⟩
      rw [show ((i + 1 : Nat) : Int) - 1 = (i : Int) from by omega]
      obtain ⟨⟨u, hc⟩, hz⟩ := hp.cell
      have his : i < s := by have := HJ.out; omega
      have HP := Lib.hid hp
      clear hp hst
      generalize hq : n / 256 ^ d = q at *
      have HQ := Lib.hid hq
      clear hq
      go_wp2_with fail
      go_roundw
      case rel => exact ⟨i, d + 1, by have := HJ.out; omega, rfl, int_eq (by rw [← HD.out]; omega), HP.out.step (by rw [HQ.out]; omega)⟩
      case measure => simp [intOf]
set_option maxRecDepth 100000 in
theorem packed_uint32_any (v : Int) (n s : Nat) (w : World) (hv : v = n) (hn : n < 18446744073709551616) (hs : Size s) :
    Calls Tryz.prog 68 #[.int .u32 v, .int .i64 (s : Int)] w (OwnPost w s (Pk.be s n)) := by
  obtain ⟨o, hmk, ho⟩ := makes hs w
  have hst := Part.begin w s n o ho
  have hs8 := hs.le
  have HS := Lib.hid hs
  subst hv
  clear hs ho
  go_enter Tryz.func68, Tryz.ntmps68
  go_wp2_with fail
  generalize w.alloc (.cells o 5) = w0 at *
  clear hmk
  go_loopw [6, 7] (fun r i wr => ∃ j d : Nat, j + d = s ∧ i = .int .i64 ((j : Int) - 1) ∧ r = .int .u64 ((n / 256 ^ d : Nat) : Int) ∧ Part w wr j d n) (fun _ i _ => (intOf i + 1).toNat)
  case atStart => exact ⟨s, 0, by omega, rfl, by simp, hst⟩
  case round =>
    obtain ⟨j, d, hj, rfl, rfl, hp⟩ := hrel
    have hr : n / 256 ^ d < 18446744073709551616 := Nat.lt_of_le_of_lt (Nat.div_le_self _ _) hn
    have HD := Lib.hid (div_step n d)
    have HJ := Lib.hid hj
    clear hj
    by_cases hj0 : j = 0
    · subst hj0
      obtain rfl : d = s := by have := HJ.out; omega
      rw [show ((0 : Nat) : Int) - 1 = -1 from rfl]
      go_wp2_with fail
      go_ret
      exact hp.own hs8
    · obtain ⟨i, rfl⟩ : ∃ i, j = i + 1 := ⟨j - 1, by omega⟩
      rw [show ((i + 1 : Nat) : Int) - 1 = (i : Int) from by omega]
      obtain ⟨⟨u, hc⟩, hz⟩ := hp.cell
      have his : i < s := by have := HJ.out; omega
      have HP := Lib.hid hp
      clear hp hst
      generalize hq : n / 256 ^ d = q at *
      have HQ := Lib.hid hq
      clear hq
      go_wp2_with fail
      go_roundw
      case rel => exact ⟨i, d + 1, by have := HJ.out; omega, rfl, int_eq (by rw [← HD.out]; omega), HP.out.step (by rw [HQ.out]; omega)⟩
      case measure => simp [intOf]
set_option maxRecDepth 100000 in
theorem packed_uint64_any (v : Int) (n s : Nat) (w : World) (hv : v = n) (hn : n < 18446744073709551616) (hs : Size s) :
    Calls Tryz.prog 114 #[.int .u64 v, .int .i64 (s : Int)] w (OwnPost w s (Pk.be s n)) := by
  obtain ⟨o, hmk, ho⟩ := makes hs w
  have hst := Part.begin w s n o ho
  have hs8 := hs.le
  have HS := Lib.hid hs
  subst hv
  clear hs ho
  go_enter Tryz.func114, Tryz.ntmps114
  go_wp2_with fail
  generalize w.alloc (.cells o 5) = w0 at *
  clear hmk
  go_loopw [6, 7] (fun r i wr => ∃ j d : Nat, j + d = s ∧ i = .int .i64 ((j : Int) - 1) ∧ r = .int .u64 ((n / 256 ^ d : Nat) : Int) ∧ Part w wr j d n) (fun _ i _ => (intOf i + 1).toNat)
  case atStart => exact ⟨s, 0, by omega, rfl, by simp, hst⟩
  case round =>
    obtain ⟨j, d, hj, rfl, rfl, hp⟩ := hrel
    have hr : n / 256 ^ d < 18446744073709551616 := Nat.lt_of_le_of_lt (Nat.div_le_self _ _) hn
    have HD := Lib.hid (div_step n d)
    have HJ := Lib.hid hj
    clear hj
    by_cases hj0 : j = 0
    · subst hj0
      obtain rfl : d = s := by have := HJ.out; omega
      rw [show ((0 : Nat) : Int) - 1 = -1 from rfl]
      go_wp2_with fail
      go_ret
      exact hp.own hs8
    · obtain ⟨i, rfl⟩ : ∃ i, j = i + 1 := ⟨j - 1, by omega⟩
      rw [show ((i + 1 : Nat) : Int) - 1 = (i : Int) from by omega]
      obtain ⟨⟨u, hc⟩, hz⟩ := hp.cell
      have his : i < s := by have := HJ.out; omega
      have HP := Lib.hid hp
      clear hp hst
      generalize hq : n / 256 ^ d = q at *
      have HQ := Lib.hid hq
      clear hq
      go_wp2_with fail
      go_roundw
      case rel => exact ⟨i, d + 1, by have := HJ.out; omega, rfl, int_eq (by rw [← HD.out]; omega), HP.out.step (by rw [HQ.out]; omega)⟩
      case measure => simp [intOf]
set_option maxRecDepth 100000 in
theorem packed_int64_any (v : Int) (n s : Nat) (w : World) (hv : v % 18446744073709551616 = n) (hn : n < 18446744073709551616) (hs : Size s) :
    Calls Tryz.prog 117 #[.int .i64 v, .int .i64 (s : Int)] w (OwnPost w s (Pk.be s n)) := by
  obtain ⟨o, hmk, ho⟩ := makes hs w
  have hst := Part.begin w s n o ho
  have hs8 := hs.le
  have HS := Lib.hid hs
  have hw : IntKind.u64.wrap v = (n : Int) := by rw [IntKind.wrap_u64]; omega
  clear hv
  clear hs ho
  go_enter Tryz.func117, Tryz.ntmps117
  go_wp2_with fail
  generalize w.alloc (.cells o 5) = w0 at *
  clear hmk
  go_loopw [6, 7] (fun r i wr => ∃ j d : Nat, j + d = s ∧ i = .int .i64 ((j : Int) - 1) ∧ r = .int .u64 ((n / 256 ^ d : Nat) : Int) ∧ Part w wr j d n) (fun _ i _ => (intOf i + 1).toNat)
  case atStart => exact ⟨s, 0, by omega, rfl, by simp, hst⟩
  case round =>
    obtain ⟨j, d, hj, rfl, rfl, hp⟩ := hrel
    have hr : n / 256 ^ d < 18446744073709551616 := Nat.lt_of_le_of_lt (Nat.div_le_self _ _) hn
    have HD := Lib.hid (div_step n d)
    have HJ := Lib.hid hj
    clear hj
    by_cases hj0 : j = 0
    · subst hj0
      obtain rfl : d = s := by have := HJ.out; omega
      rw [show ((0 : Nat) : Int) - 1 = -1 from rfl]
      go_wp2_with fail
      go_ret
      exact hp.own hs8
    · obtain ⟨i, rfl⟩ : ∃ i, j = i + 1 := ⟨j - 1, by omega⟩
      rw [show ((i + 1 : Nat) : Int) - 1 = (i : Int) from by omega]
      obtain ⟨⟨u, hc⟩, hz⟩ := hp.cell
      have his : i < s := by have := HJ.out; omega
      have HP := Lib.hid hp
      clear hp hst
      generalize hq : n / 256 ^ d = q at *
      have HQ := Lib.hid hq
      clear hq
      go_wp2_with fail
      go_roundw
      case rel => exact ⟨i, d + 1, by have := HJ.out; omega, rfl, int_eq (by rw [← HD.out]; omega), HP.out.step (by rw [HQ.out]; omega)⟩
      case measure => simp [intOf]
theorem put8_any (v : Int) (n : Nat) (w : World) (hv : v = n) (hn : n < 256) : Calls Tryz.prog 37 #[.int .u8 v] w (OwnPost w 1 (Pk.be 1 n)) := by
  have HV := Lib.hid hv
  clear hv
  go_enter Tryz.func37, Tryz.ntmps37
  go_wp2_with fail
  refine (packed_uint8_any v n 1 w HV.out (by omega) (by unfold Size; omega)).mono ?_
  rintro e w1 ⟨A, c, rfl, hown, hb⟩
  go_wp2_with fail
  go_ret
  exact ⟨A, c, rfl, hown, hb⟩
theorem put16_any (v : Int) (n : Nat) (w : World) (hv : v = n) (hn : n < 65536) : Calls Tryz.prog 107 #[.int .u16 v] w (OwnPost w 2 (Pk.be 2 n)) := by
  have HV := Lib.hid hv
  clear hv
  go_enter Tryz.func107, Tryz.ntmps107
  go_wp2_with fail
  refine (packed_uint16_any v n 2 w HV.out (by omega) (by unfold Size; omega)).mono ?_
  rintro e w1 ⟨A, c, rfl, hown, hb⟩
  go_wp2_with fail
  go_ret
  exact ⟨A, c, rfl, hown, hb⟩
theorem put32_any (v : Int) (n : Nat) (w : World) (hv : v = n) (hn : n < 4294967296) : Calls Tryz.prog 38 #[.int .u32 v] w (OwnPost w 4 (Pk.be 4 n)) := by
  have HV := Lib.hid hv
  clear hv
  go_enter Tryz.func38, Tryz.ntmps38
  go_wp2_with fail
  refine (packed_uint32_any v n 4 w HV.out (by omega) (by unfold Size; omega)).mono ?_
  rintro e w1 ⟨A, c, rfl, hown, hb⟩
  go_wp2_with fail
  go_ret
  exact ⟨A, c, rfl, hown, hb⟩
theorem put64_any (v : Int) (n : Nat) (w : World) (hv : v = n) (hn : n < 18446744073709551616) : Calls Tryz.prog 108 #[.int .u64 v] w (OwnPost w 8 (Pk.be 8 n)) := by
  have HV := Lib.hid hv
  clear hv
  go_enter Tryz.func108, Tryz.ntmps108
  go_wp2_with fail
  refine (packed_uint64_any v n 8 w HV.out (by omega) (by unfold Size; omega)).mono ?_
  rintro e w1 ⟨A, c, rfl, hown, hb⟩
  go_wp2_with fail
  go_ret
  exact ⟨A, c, rfl, hown, hb⟩
theorem putInt_any (v : Int) (n : Nat) (w : World) (hv : v % 18446744073709551616 = n) (hn : n < 18446744073709551616) : Calls Tryz.prog 116 #[.int .i64 v] w (OwnPost w 8 (Pk.be 8 n)) := by
  have HV := Lib.hid hv
  clear hv
  go_enter Tryz.func116, Tryz.ntmps116
  go_wp2_with fail
  refine (packed_int64_any v n 8 w HV.out (by omega) (by unfold Size; omega)).mono ?_
  rintro e w1 ⟨A, c, rfl, hown, hb⟩
  go_wp2_with fail
  go_ret
  exact ⟨A, c, rfl, hown, hb⟩
set_option maxRecDepth 100000 in
theorem join_any (n c B : Nat) (A : Option Addr) (ls : List (List Nat)) (w : World) (hr : RowsOf w B A n ls) (hB : B ≤ w.heap.size) (hn : n ≤ 1000000) (hl : ls.flatten.length ≤ 1000000) :
    Calls Tryz.prog 40 #[.slice A n c] w (OwnPost w ls.flatten.length ls.flatten) := by
  obtain ⟨i0, hi, hz0, hz1, hz2⟩ := info_parts Tryz.info5
  have HI := Lib.hid hi
  have HZ0 := Lib.hid hz0
  have HZ1 := Lib.hid hz1
  have HZ2 := Lib.hid hz2
  have HL := Lib.hid hr.1
  have HF := Lib.hid hl
  clear hi hz0 hz1 hz2 hl
  go_enter Tryz.func40, Tryz.ntmps40
  go_wp2_with fail
  go_loop [3, 11] (fun s i => ∃ k m : Nat, k ≤ n ∧ i = .int .i64 k ∧ (ls.take k).flatten.length = m ∧ s = .int .i64 m) (fun _ i => n - (intOf i).toNat)
  case atStart => exact ⟨0, 0, by omega, rfl, rfl, rfl⟩
  case round =>
    obtain ⟨k, m, hk, rfl, hm, rfl⟩ := hrel
    have hm1 : m ≤ 1000000 := by have := flat_le ls k; have := HF.out; omega
    have HM := Lib.hid hm
    clear hm
    by_cases hlt : k < n
    · obtain ⟨b, off, rfl, hbB, hc⟩ := hr.2 (by omega)
      obtain ⟨a, q, cq, hck, hq, hbq⟩ := hc k hlt
      have hS := flat_step (ls := ls) (k := k) (by have := HL.out; omega)
      have hS2 : (ls.take (k + 1)).flatten.length = m + q := by rw [hS, List.length_append, HM.out, hbq.1]
      have hq1 : m + q ≤ 1000000 := by have := flat_le ls (k + 1); have := HF.out; omega
      have HS := Lib.hid hS2
      clear hS hS2 hc hbq hr
      go_wp2_with fail
      go_round
      case rel => exact ⟨k + 1, m + q, by omega, by go_num, HS.out, by go_num⟩
      case measure => simp [intOf]; omega
    · obtain rfl : n = k := by omega
      obtain ⟨w', hmk, hown, hgr⟩ := run_make_own (P := Tryz.prog) w w.heap.size 33 5 i0 (.int .u8 0) 1 Tryz.underlying33 HI.out HZ0.out HZ1.out .i64 .i64 m (by rw [HZ2.out]; omega) (by unfold maxLen; omega) (Nat.le_refl _)
      have hb0 : Below w.heap.size w w' := below_none hgr
      clear hgr
      go_wp2_with fail
      clear hmk
      go_loopw [6, 24] (fun v i wr => ∃ k : Nat, k ≤ n ∧ i = .int .i64 k ∧ Joined w wr ls k v) (fun _ i _ => n - (intOf i).toNat)
      case atStart => exact ⟨0, by omega, rfl, _, _, _, rfl, hown, hb0⟩
      case round =>
        obtain ⟨k, hk, rfl, A1, n1, c1, rfl, ho, hb⟩ := hrel
        clear hown hb0
        have hr1 := hr.below hb hB
        by_cases hlt : k < n
        · obtain ⟨b, off, rfl, hbB, hc⟩ := hr1.2 (by omega)
          obtain ⟨a, q, cq, hck, hq, hbq⟩ := hc k hlt
          have hS := flat_step (ls := ls) (k := k) (by have := HL.out; omega)
          have hn1 : n1 = (ls.take k).flatten.length := by have := ho.1; rw [u8s_len] at this; omega
          have hq1 : n1 + q ≤ 1000000 := by
            have h1 := flat_le ls (k + 1)
            rw [hS, List.length_append, ← hn1, hbq.1] at h1
            have := HF.out
            omega
          have HS := Lib.hid hS
          have hz := hb.size
          clear hS hn1 hc hr1 hr
          rcases a with _ | ad
          · obtain ⟨rfl, hl0⟩ := hbq.none_len
            have HL0 := Lib.hid hl0
            clear hl0 hbq
            go_wp2_with (at_builtin; refine wpList_append_own_nil rfl _ _ 33 rfl w.heap.size 5 i0 1 Tryz.underlying33 HI.out _ n1 cq _ rfl ho rfl ?_)
            go_roundw
            case rel => exact ⟨k + 1, by omega, by go_num, _, _, _, rfl, by rw [HS.out, HL0.out, List.append_nil]; exact ho, hb⟩
            case measure => simp [intOf]; omega
          · have hcells := Lib.hid hbq.cells
            have hlen : (u8s (ls.getD k [])).length = q * 1 := by rw [u8s_len, hbq.1]; omega
            have HLEN := Lib.hid hlen
            clear hlen hbq
            go_wp2_with (at_builtin; refine wpList_append_own _ rfl _ _ 33 rfl w.heap.size 5 i0 (.int .u8 0) 1 1 Tryz.underlying33 HI.out HZ0.out HZ1.out HZ2.out rfl (by decide) _ n1 _ rfl ho ad q cq _ rfl HLEN.out hcells.out (u8s_one _) (by unfold maxLen; omega) (by omega) hz ?_; intro v' w1 hown hgrow _)
            rw [u8s_append, ← HS.out] at hown
            obtain ⟨A2, c2, rfl⟩ := own_slice hown
            have hb1 := grow_own hb ho (Nat.le_refl _) hgrow
            clear hgrow ho hb
            go_roundw
            case rel => exact ⟨k + 1, by omega, by go_num, _, _, _, rfl, hown, hb1⟩
            case measure => simp [intOf]; omega
        · have hall : ls.take k = ls := List.take_of_length_le (by have := HL.out; omega)
          rw [hall] at ho
          have hn1 : n1 = ls.flatten.length := by have := ho.1; rw [u8s_len] at this; omega
          subst hn1
          clear hr hr1 hall
          go_wp2_with fail
          go_ret
          exact ⟨_, _, rfl, ho, hb⟩
/-- A row of two slices, just made. -/
theorem rows_two {w : World} {B n1 n2 c1 c2 : Nat} {a1 a2 : Option Addr} {l1 l2 : List Nat} {t : TypeId} (h1 : Bytes w B a1 n1 l1) (h2 : Bytes w B a2 n2 l2) (hB : B ≤ w.heap.size) (m1 : n1 ≤ 9223372036854775807) (m2 : n2 ≤ 9223372036854775807) :
    RowsOf (w.alloc (.cells #[.slice a1 n1 c1, .slice a2 n2 c2] t)) (w.heap.size + 1) (some ⟨w.heap.size, 0, none⟩) 2 [l1, l2] := by
  have hk := Blk.new w t #[.slice a1 n1 c1, .slice a2 n2 c2]
  refine ⟨rfl, fun _ => ⟨w.heap.size, 0, rfl, by omega, fun i hi => ?_⟩⟩
  match i, hi with
  | 0, _ => exact ⟨a1, n1, c1, hk.cell 0, m1, (h1.alloc hB _).more (by omega)⟩
  | 1, _ => exact ⟨a2, n2, c2, hk.cell 1, m2, (h2.alloc hB _).more (by omega)⟩
set_option maxRecDepth 100000 in
theorem putText_any (s : ByteArray) (w : World) (hs : s.size ≤ 65535) :
    Calls Tryz.prog 115 #[.string s] w (OwnPost2 w (s.size + 2) (Pk.tx (nums s)) 0) := by
  have hcv := fun W : World => Lib.run_convert_string_bytes (P := Tryz.prog) W 9 33 5 s Tryz.underlying9 Tryz.underlying33 Tryz.underlying5
  go_enter Tryz.func115, Tryz.ntmps115
  go_wp2_with fail
  refine (put16_any _ s.size _ rfl (by omega)).mono ?_
  rintro e w1 ⟨A1, c1, rfl, ho1, b1⟩
  have f1 := Bytes.of_own ho1 (Pk.be_lt 2 s.size)
  have f2 := (f1.below (below_bytes w1 5 s) (Nat.le_refl _)).more (B' := w1.heap.size + 1) (by omega)
  have f3 := bytes_text w1 5 s
  have z3 := Lib.bytesWorld_size w1 5 s
  have b3 : Below w.heap.size w (Lib.bytesWorld w1 5 s) := b1.trans ((below_bytes w1 5 s).mono b1.size)
  have Z3 := Lib.hid z3
  clear ho1 f1 z3
  go_wp2_with fail
  clear hcv
  generalize Lib.bytesWorld w1 5 s = w3 at *
  have hfl : ([Pk.be 2 s.size, nums s] : List (List Nat)).flatten = Pk.tx (nums s) := by simp [Pk.tx, nums_len]
  have hfn : (Pk.tx (nums s)).length = s.size + 2 := by simp [Pk.tx, nums_len, Pk.be_len]; omega
  have HFL := Lib.hid hfl
  have HFN := Lib.hid hfn
  clear hfl hfn
  refine (join_any 2 2 (w3.heap.size + 1) _ [Pk.be 2 s.size, nums s] _ (by rw [← Z3.out] at f2 f3; exact rows_two f2 f3 (Nat.le_refl _) (by omega) (by omega)) (by simp) (by omega) (by rw [HFL.out, HFN.out]; omega)).mono ?_
  rintro e w4 ⟨A4, c4, rfl, ho4, b4⟩
  rw [HFL.out, HFN.out] at ho4 ⊢
  have hb : Below w.heap.size w w4 := (b3.alloc b3.size _).trans (b4.mono (by have := b3.size; simp; omega))
  have ho := own_lower ho4 (b' := w.heap.size) (by have := b3.size; simp; omega)
  clear ho4 b4 f2 f3 b3 b1
  go_wp2_with fail
  go_ret2
  exact ⟨A4, c4, rfl, ho, hb⟩
/-- A reader at block g: it stands at l, and has failed or not; its bytes lie from block lo on, below g. -/
def Rd (w : World) (lo g : Nat) (l : List Nat) (f : Bool) : Prop :=
  ∃ A n c, Blk w g 136 #[.slice A n c, .bool f] ∧ Bytes w g A n l ∧ n ≤ c ∧ n ≤ 1000000 ∧ ∀ b off s, A = some ⟨b, off, s⟩ → lo ≤ b
theorem Rd.lt {w : World} {lo g : Nat} {l : List Nat} {f : Bool} (h : Rd w lo g l f) : ∀ x ∈ l, x < 256 := by
  obtain ⟨A, n, c, _, hb, _⟩ := h
  exact hb.2.1
theorem Rd.len {w : World} {lo g : Nat} {l : List Nat} {f : Bool} (h : Rd w lo g l f) : l.length ≤ 1000000 := by
  obtain ⟨A, n, c, _, hb, _, hn, _⟩ := h
  have := hb.1
  omega
theorem Rd.here {w : World} {lo g : Nat} {l : List Nat} {f : Bool} (h : Rd w lo g l f) : g < w.heap.size := by
  obtain ⟨A, n, c, hb, _⟩ := h
  exact hb.lt
theorem Bytes.keepIn {w w' : World} {B n lo : Nat} {A : Option Addr} {l : List Nat} (h : Bytes w B A n l) (hlo : ∀ b off s, A = some ⟨b, off, s⟩ → lo ≤ b) (hk : ∀ b o, lo ≤ b → b < B → w'.cell? ⟨b, o, none⟩ = w.cell? ⟨b, o, none⟩) : Bytes w' B A n l :=
  ⟨h.1, h.2.1, fun hn => by
    obtain ⟨b, off, e, hb, hc⟩ := h.2.2 hn
    exact ⟨b, off, e, hb, fun i hi => (hk b _ (hlo b off none e) hb).trans (hc i hi)⟩⟩
theorem Rd.below {w w' : World} {lo g B : Nat} {l : List Nat} {f : Bool} (hr : Rd w lo g l f) (hb : Below B w w') (hg : g < B) : Rd w' lo g l f := by
  obtain ⟨A, n, c, hk, hy, h1, h2, h3⟩ := hr
  exact ⟨A, n, c, hk.below hb hg, hy.below hb (by omega), h1, h2, h3⟩
theorem run_eql_none {P : Program} (w : World) (t e : TypeId) (a : Option Addr) (l c : Nat) (h : P.underlying t = some (.slice e)) : (binOp .eql t (.slice a l c) (.slice none 0 0)).run P w = .ok (.bool a.isNone) w := by
  have h0 : ∀ d, (Op.equalIn (d + 1) t (.slice a l c) (.slice none 0 0)).run P w = .ok a.isNone w := fun d => by
    cases a <;> simp [Op.equalIn, run_underlying h]
  have h1 : (Op.equal t (.slice a l c) (.slice none 0 0)).run P w = .ok a.isNone w := h0 9999
  simp [binOp, h1]
def OfPost (w : World) (l : List Nat) (e : Ending) (w' : World) : Prop := ∃ g, e = .returned (.pointer (some ⟨g, 0, none⟩)) ∧ Rd w' w.heap.size g l false ∧ w.heap.size ≤ g ∧ Below w.heap.size w w'
theorem clone_any (n c B : Nat) (A : Option Addr) (l : List Nat) (w : World) (hb : Bytes w B A n l) (hB : B ≤ w.heap.size) (hn : n ≤ 1000000) :
    Calls Tryz.prog 76 #[.slice A n c] w (OwnPost w n l) := by
  obtain ⟨i0, hi, hz0, hz1, hz2⟩ := info_parts Tryz.info5
  have HI := Lib.hid hi
  have HZ0 := Lib.hid hz0
  have HZ1 := Lib.hid hz1
  have HZ2 := Lib.hid hz2
  clear hi hz0 hz1 hz2
  rcases A with _ | ad
  · obtain ⟨rfl, rfl⟩ := hb.none_len
    clear hb
    have hq := fun W : World => run_eql_none (P := Tryz.prog) W 33 5 none 0 c Tryz.underlying33
    go_enter Tryz.func76, Tryz.ntmps76
    go_wp2_with fail
    go_ret
    exact ⟨none, 0, rfl, own_nil _ _ _ _, Below.refl _ _⟩
  · have hb1 := hb.alloc hB (.cells #[] 5)
    have hcells := Lib.hid hb1.cells
    have hlen : (u8s l).length = n * 1 := by rw [u8s_len, hb.1]; omega
    have HLEN := Lib.hid hlen
    clear hb hb1 hlen
    have hq := fun W : World => run_eql_none (P := Tryz.prog) W 33 5 (some ad) n c Tryz.underlying33
    go_enter Tryz.func76, Tryz.ntmps76
    go_wp2_with (at_builtin; refine wpList_append_own _ rfl _ _ 33 rfl w.heap.size 5 i0 (.int .u8 0) 1 1 Tryz.underlying33 HI.out HZ0.out HZ1.out HZ2.out rfl (by decide) _ 0 [] rfl (World.ownsRow_made w #[] 0 (Nat.le_refl _) (by decide) rfl) ad n c (u8s l) rfl HLEN.out hcells.out (u8s_one l) (by unfold maxLen; omega) (by omega) (by simp) ?_; intro v' w1 hown hgrow _)
    rw [Nat.zero_add, List.nil_append] at hown
    obtain ⟨A', c', rfl⟩ := own_slice hown
    have hbw : Below w.heap.size w w1 := grow_below (Below.refl _ _) hgrow (fun g hg => by injection hg with hg; simp at hg; omega)
    clear hgrow
    go_ret
    exact ⟨A', c', rfl, hown, hbw⟩
theorem own_cap {w : World} {b e s n c : Nat} {a : Option Addr} {xs : List Value} (h : w.ownsRow b e s (.slice a n c) n xs) : n ≤ c := by
  rcases h.2 with ⟨hv, h0⟩ | ⟨g, cap, cur, hv, _, _, h1, _⟩
  · omega
  · injection hv with _ _ hc
    omega
theorem own_from {w : World} {b e s n c : Nat} {a : Option Addr} {xs : List Value} (h : w.ownsRow b e s (.slice a n c) n xs) : ∀ k off q, a = some ⟨k, off, q⟩ → b ≤ k := by
  intro k off q ha
  subst ha
  exact (h.lt k rfl).1
theorem of_any (n c B : Nat) (A : Option Addr) (l : List Nat) (w : World) (hb : Bytes w B A n l) (hB : B ≤ w.heap.size) (hn : n ≤ 1000000) :
    Calls Tryz.prog 54 #[.slice A n c] w (OfPost w l) := by
  have HB := Lib.hid hb
  clear hb
  go_enter Tryz.func54, Tryz.ntmps54
  go_wp2_with fail
  refine (clone_any n c B A l w HB.out hB hn).mono ?_
  rintro e w1 ⟨A1, c1, rfl, ho, b1⟩
  have hy := Bytes.of_own ho HB.out.2.1
  have hr : Rd (w1.alloc (.cells #[.slice A1 n c1, .bool false] 136)) w.heap.size w1.heap.size l false := ⟨A1, n, c1, Blk.new w1 _ _, hy.alloc (Nat.le_refl _) _, own_cap ho, hn, own_from ho⟩
  have hz := b1.size
  clear hy ho
  go_wp2_with fail
  go_ret
  exact ⟨_, rfl, hr, hz, b1.alloc hz _⟩
def TakePost (w : World) (lo g k : Nat) (l : List Nat) (f : Bool) (e : Ending) (w' : World) : Prop :=
  ∃ A n c, e = .returned (.slice A n c) ∧ Bytes w' g A n (Pk.taken f l k) ∧ n ≤ k ∧ Rd w' lo g (Pk.left f l k) (Pk.fails f l k) ∧ w.grownBy w' (some g)
theorem Rd.cells {w : World} {lo g : Nat} {l : List Nat} {f : Bool} (h : Rd w lo g l f) : ∃ A c, w.cell? ⟨g, 0, none⟩ = some (.slice A l.length c) ∧ w.cell? ⟨g, 1, none⟩ = some (.bool f) ∧ w.frozen? ⟨g, 0, none⟩ = false ∧ w.frozen? ⟨g, 1, none⟩ = false ∧ Bytes w g A l.length l ∧ l.length ≤ c ∧ ∀ b off s, A = some ⟨b, off, s⟩ → lo ≤ b := by
  obtain ⟨A, n, c, hk, hy, h1, h2, h3⟩ := h
  obtain rfl : l.length = n := hy.1
  exact ⟨A, c, hk.cell 0, hk.cell 1, hk.frozen 0, hk.frozen 1, hy, h1, h3⟩
theorem Rd.failed {w : World} {lo g : Nat} {l : List Nat} {f : Bool} (h : Rd w lo g l f) (b : Bool) : Rd (w.setCell ⟨g, 1, none⟩ (.bool b)) lo g l b := by
  obtain ⟨A, n, c, hk, hy, h1, h2, h3⟩ := h
  exact ⟨A, n, c, hk.set_ 1 _, hy.keepIn h3 (fun x o _ hx => World.cell?_of_block (a := ⟨x, o, none⟩) (Below.heap_setCell w ⟨g, 1, none⟩ _ x (by show x ≠ g; omega))), h1, h2, h3⟩
theorem Rd.moved {w : World} {lo g : Nat} {l : List Nat} {A : Option Addr} {c k : Nat} {f : Bool} (h : Rd w lo g l f) (hA : w.cell? ⟨g, 0, none⟩ = some (.slice A l.length c)) (hk : k ≤ l.length) :
    Rd (w.setCell ⟨g, 0, none⟩ (.slice (if c = k then A else A.map (·.add k)) (l.length - k) (c - k))) lo g (l.drop k) f := by
  obtain ⟨A', n, c', hb, hy, h1, h2, h3⟩ := h
  have e := (hb.cell 0).symm.trans hA
  simp at e
  obtain ⟨rfl, rfl, rfl⟩ := e
  have hcut := hy.cut hk h1
  have hlo : ∀ b off s, (if c' = k then A' else A'.map (·.add k)) = some ⟨b, off, s⟩ → lo ≤ b := by
    intro b off s he
    split at he
    · exact h3 b off s he
    · rcases A' with _ | ⟨b0, o0, s0⟩
      · simp at he
      · simp only [Option.map_some, Option.some.injEq] at he
        have : b0 = b := by unfold Addr.add at he; split at he <;> (injection he)
        exact this ▸ h3 b0 o0 s0 rfl
  generalize (if c' = k then A' else A'.map (·.add k)) = A2 at *
  exact ⟨_, _, _, hb.set_ 0 _, hcut.keepIn hlo (fun x o _ hx => World.cell?_of_block (a := ⟨x, o, none⟩) (Below.heap_setCell w ⟨g, 0, none⟩ _ x (by show x ≠ g; omega))), by omega, by omega, hlo⟩
theorem Bytes.far {w : World} {g n o : Nat} {A : Option Addr} {l : List Nat} {v : Value} (h : Bytes w g A n l) : Bytes (w.setCell ⟨g, o, none⟩ v) g A n l :=
  h.keep fun x o' hx => World.cell?_of_block (a := ⟨x, o', none⟩) (Below.heap_setCell w ⟨g, o, none⟩ _ x (by show x ≠ g; omega))
set_option maxRecDepth 100000 in
theorem take_any (lo g k : Nat) (l : List Nat) (f : Bool) (w : World) (hr : Rd w lo g l f) (hk : k ≤ 1000000) :
    Calls Tryz.prog 78 #[.pointer (some ⟨g, 0, none⟩), .int .i64 (k : Int)] w (TakePost w lo g k l f) := by
  obtain ⟨i0, hi, hz0, hz1, hz2⟩ := info_parts Tryz.info5
  have hll := hr.len
  obtain ⟨A, c, c0, c1, z0, z1, hy, hc, -⟩ := hr.cells
  have HR := Lib.hid hr
  have HC0 := Lib.hid c0
  have r1 := run_cut_h (P := Tryz.prog) 33 5 i0 Tryz.underlying33 hi A l.length c k
  have r2 := run_cut_l (P := Tryz.prog) 33 5 i0 Tryz.underlying33 hi hz1 A l.length c k (k : Int) rfl
  clear hi hz0 hz1 hz2 hr
  by_cases hf : f = true
  · subst hf
    clear r1 r2
    go_enter Tryz.func78, Tryz.ntmps78
    go_wp2_with fail
    go_ret
    have hF : Pk.fails true l k = true := Pk.fails_yes (.inl rfl)
    exact ⟨none, 0, 0, rfl, by rw [Pk.taken_yes hF]; exact Bytes.nil, by omega, by rw [Pk.left_yes hF, hF]; exact HR.out.failed true, only_setCell (World.grownBy.refl _ _) _ _⟩
  · obtain rfl : f = false := by simpa using hf
    clear hf
    by_cases hlt : l.length < k
    · clear r1 r2
      have hF : Pk.fails false l k = true := Pk.fails_yes (.inr hlt)
      have HF := Lib.hid hF
      clear hF
      go_enter Tryz.func78, Tryz.ntmps78
      go_wp2_with fail
      go_ret
      exact ⟨none, 0, 0, rfl, by rw [Pk.taken_yes HF.out]; exact Bytes.nil, by omega, by rw [Pk.left_yes HF.out, HF.out]; exact HR.out.failed true, only_setCell (World.grownBy.refl _ _) _ _⟩
    · have hF : Pk.fails false l k = false := Pk.fails_no (by omega)
      have HF := Lib.hid hF
      have q1 := r1 (by omega)
      have q2 := r2 (by omega)
      have HY := Lib.hid hy
      have hc1 : (w.setCell ⟨g, 1, none⟩ (.bool false)).cell? ⟨g, 0, none⟩ = some (.slice A l.length c) := by rw [World.cell?_setCell_other _ _ _ _ (by simp), c0]
      have hM := (HR.out.failed false).moved (k := k) hc1 (by omega)
      have hB := (((hy.far (o := 1) (v := .bool false)).head (j := k) (by omega))).far (o := 0) (v := .slice (if c = k then A else A.map (·.add k)) (l.length - k) (c - k))
      have HM := Lib.hid hM
      have HB := Lib.hid hB
      clear hF r1 r2 hy hM hB hc1
      generalize (if c = k then A else A.map (·.add k)) = A2 at *
      go_enter Tryz.func78, Tryz.ntmps78
      go_wp2_with fail
      go_ret
      exact ⟨A, k, c, rfl, by rw [Pk.taken_no HF.out]; exact HB.out, Nat.le_refl _, by rw [Pk.left_no HF.out, HF.out]; exact HM.out, only_setCell (only_setCell (World.grownBy.refl _ _) _ _) _ _⟩
theorem or_u64 (x c : Nat) (hx : x < 72057594037927936) (hc : c < 256) : bits .or .u64 ((x : Int) * 256) (c : Int) = ((x * 256 + c : Nat) : Int) := by
  have h := u64_or_nat (x * 256) c (by omega) (by omega)
  have h2 := Nat.two_pow_add_eq_or_of_lt (i := 8) (b := c) (by simpa using hc) x
  rw [show (2 : Nat) ^ 8 = 256 from rfl, Nat.mul_comm 256 x] at h2
  rw [← h2] at h
  exact h
theorem num_step {w : World} {B n k : Nat} {A : Option Addr} {l : List Nat} (h : Bytes w B A n l) (hk : k < n) : Pk.num (l.take (k + 1)) = Pk.num (l.take k) * 256 + l.getD k 0 := by
  rw [take_snoc l k (by rw [h.1]; exact hk), Pk.num_snoc]
theorem num_small {l : List Nat} {k : Nat} (h : ∀ x ∈ l, x < 256) (hk : k < l.length) (h8 : l.length ≤ 8) : Pk.num (l.take k) < 72057594037927936 :=
  Nat.lt_of_lt_of_le (Pk.num_take_lt l k h (by omega)) (Nat.le_trans (Nat.pow_le_pow_right (by decide) (show k ≤ 7 by omega)) (by decide))
/-- A number of eight bytes, as a whole number. -/
def sg (m : Nat) : Int := IntKind.i64.wrap (m : Int)
set_option maxRecDepth 100000 in
theorem unpacked_uint8_any (n c B : Nat) (A : Option Addr) (l : List Nat) (w : World) (hb : Bytes w B A n l) (hn : n ≤ 8) (hl : Pk.num l < 256) :
    Calls Tryz.prog 77 #[.slice A n c] w fun e w' => e = .returned (.int .u8 ((Pk.num l : Nat) : Int)) ∧ w = w' := by
  have HB := Lib.hid hb
  clear hb
  go_enter Tryz.func77, Tryz.ntmps77
  go_wp2_with fail
  go_loop [3, 8] (fun t i => ∃ k x : Nat, k ≤ n ∧ i = .int .i64 k ∧ Pk.num (l.take k) = x ∧ t = .int .u64 (x : Int)) (fun _ i => n - (intOf i).toNat)
  case atStart => exact ⟨0, 0, by omega, rfl, rfl, rfl⟩
  case round =>
    obtain ⟨k, x, hk, rfl, hx, rfl⟩ := hrel
    by_cases hlt : k < n
    · obtain ⟨b, off, rfl, hbB, hc⟩ := HB.out.2.2 (by omega)
      have hck := hc k hlt
      have h8 := HB.out.lt k
      have HS := Lib.hid (num_step HB.out hlt)
      have hx7 : x < 72057594037927936 := by rw [← hx]; exact num_small HB.out.2.1 (by have := HB.out.1; omega) (by have := HB.out.1; omega)
      have HX := Lib.hid hx
      clear hc hx
      generalize l.getD k 0 = y at *
      have hor := or_u64 x y hx7 h8
      go_wp2_with fail
      go_round
      case rel => exact ⟨k + 1, x * 256 + y, by omega, by go_num, by rw [HS.out, HX.out], rfl⟩
      case measure => simp [intOf]; omega
    · rw [List.take_of_length_le (by have := HB.out.1; omega)] at hx
      have HX := Lib.hid hx
      rw [hx] at hl
      clear hx
      go_wp2_with fail
      go_ret
      exact ⟨ret_int (by rw [HX.out]), rfl⟩
def U8Post (w : World) (lo g : Nat) (l : List Nat) (f : Bool) (e : Ending) (w' : World) : Prop :=
  e = .returned (.int .u8 ((Pk.num (Pk.taken f l 1) : Nat))) ∧ Rd w' lo g (Pk.left f l 1) (Pk.fails f l 1) ∧ w.grownBy w' (some g)
theorem u8_any (lo g : Nat) (l : List Nat) (f : Bool) (w : World) (hr : Rd w lo g l f) :
    Calls Tryz.prog 55 #[.pointer (some ⟨g, 0, none⟩)] w (U8Post w lo g l f) := by
  have HR := Lib.hid hr
  clear hr
  go_enter Tryz.func55, Tryz.ntmps55
  go_wp2_with fail
  refine (take_any lo g 1 l f w HR.out (by omega)).mono ?_
  rintro e w1 ⟨A, n, c, rfl, hy, hn, hr1, hg⟩
  have HP := Lib.hid hr1
  clear hr1
  go_wp2_with fail
  refine (unpacked_uint8_any n c g A _ _ hy (by omega) (Nat.lt_of_lt_of_le (Pk.taken_num_lt f l 1 HR.out.lt) (by decide))).mono ?_
  rintro e w2 ⟨rfl, rfl⟩
  clear hy
  go_wp2_with fail
  go_ret
  exact ⟨rfl, HP.out, hg⟩
set_option maxRecDepth 100000 in
theorem unpacked_uint16_any (n c B : Nat) (A : Option Addr) (l : List Nat) (w : World) (hb : Bytes w B A n l) (hn : n ≤ 8) (hl : Pk.num l < 65536) :
    Calls Tryz.prog 130 #[.slice A n c] w fun e w' => e = .returned (.int .u16 ((Pk.num l : Nat) : Int)) ∧ w = w' := by
  have HB := Lib.hid hb
  clear hb
  go_enter Tryz.func130, Tryz.ntmps130
  go_wp2_with fail
  go_loop [3, 8] (fun t i => ∃ k x : Nat, k ≤ n ∧ i = .int .i64 k ∧ Pk.num (l.take k) = x ∧ t = .int .u64 (x : Int)) (fun _ i => n - (intOf i).toNat)
  case atStart => exact ⟨0, 0, by omega, rfl, rfl, rfl⟩
  case round =>
    obtain ⟨k, x, hk, rfl, hx, rfl⟩ := hrel
    by_cases hlt : k < n
    · obtain ⟨b, off, rfl, hbB, hc⟩ := HB.out.2.2 (by omega)
      have hck := hc k hlt
      have h8 := HB.out.lt k
      have HS := Lib.hid (num_step HB.out hlt)
      have hx7 : x < 72057594037927936 := by rw [← hx]; exact num_small HB.out.2.1 (by have := HB.out.1; omega) (by have := HB.out.1; omega)
      have HX := Lib.hid hx
      clear hc hx
      generalize l.getD k 0 = y at *
      have hor := or_u64 x y hx7 h8
      go_wp2_with fail
      go_round
      case rel => exact ⟨k + 1, x * 256 + y, by omega, by go_num, by rw [HS.out, HX.out], rfl⟩
      case measure => simp [intOf]; omega
    · rw [List.take_of_length_le (by have := HB.out.1; omega)] at hx
      have HX := Lib.hid hx
      rw [hx] at hl
      clear hx
      go_wp2_with fail
      go_ret
      exact ⟨ret_int (by rw [HX.out]), rfl⟩
def U16Post (w : World) (lo g : Nat) (l : List Nat) (f : Bool) (e : Ending) (w' : World) : Prop :=
  e = .returned (.int .u16 ((Pk.num (Pk.taken f l 2) : Nat))) ∧ Rd w' lo g (Pk.left f l 2) (Pk.fails f l 2) ∧ w.grownBy w' (some g)
theorem u16_any (lo g : Nat) (l : List Nat) (f : Bool) (w : World) (hr : Rd w lo g l f) :
    Calls Tryz.prog 124 #[.pointer (some ⟨g, 0, none⟩)] w (U16Post w lo g l f) := by
  have HR := Lib.hid hr
  clear hr
  go_enter Tryz.func124, Tryz.ntmps124
  go_wp2_with fail
  refine (take_any lo g 2 l f w HR.out (by omega)).mono ?_
  rintro e w1 ⟨A, n, c, rfl, hy, hn, hr1, hg⟩
  have HP := Lib.hid hr1
  clear hr1
  go_wp2_with fail
  refine (unpacked_uint16_any n c g A _ _ hy (by omega) (Nat.lt_of_lt_of_le (Pk.taken_num_lt f l 2 HR.out.lt) (by decide))).mono ?_
  rintro e w2 ⟨rfl, rfl⟩
  clear hy
  go_wp2_with fail
  go_ret
  exact ⟨rfl, HP.out, hg⟩
set_option maxRecDepth 100000 in
theorem unpacked_uint32_any (n c B : Nat) (A : Option Addr) (l : List Nat) (w : World) (hb : Bytes w B A n l) (hn : n ≤ 8) (hl : Pk.num l < 4294967296) :
    Calls Tryz.prog 79 #[.slice A n c] w fun e w' => e = .returned (.int .u32 ((Pk.num l : Nat) : Int)) ∧ w = w' := by
  have HB := Lib.hid hb
  clear hb
  go_enter Tryz.func79, Tryz.ntmps79
  go_wp2_with fail
  go_loop [3, 8] (fun t i => ∃ k x : Nat, k ≤ n ∧ i = .int .i64 k ∧ Pk.num (l.take k) = x ∧ t = .int .u64 (x : Int)) (fun _ i => n - (intOf i).toNat)
  case atStart => exact ⟨0, 0, by omega, rfl, rfl, rfl⟩
  case round =>
    obtain ⟨k, x, hk, rfl, hx, rfl⟩ := hrel
    by_cases hlt : k < n
    · obtain ⟨b, off, rfl, hbB, hc⟩ := HB.out.2.2 (by omega)
      have hck := hc k hlt
      have h8 := HB.out.lt k
      have HS := Lib.hid (num_step HB.out hlt)
      have hx7 : x < 72057594037927936 := by rw [← hx]; exact num_small HB.out.2.1 (by have := HB.out.1; omega) (by have := HB.out.1; omega)
      have HX := Lib.hid hx
      clear hc hx
      generalize l.getD k 0 = y at *
      have hor := or_u64 x y hx7 h8
      go_wp2_with fail
      go_round
      case rel => exact ⟨k + 1, x * 256 + y, by omega, by go_num, by rw [HS.out, HX.out], rfl⟩
      case measure => simp [intOf]; omega
    · rw [List.take_of_length_le (by have := HB.out.1; omega)] at hx
      have HX := Lib.hid hx
      rw [hx] at hl
      clear hx
      go_wp2_with fail
      go_ret
      exact ⟨ret_int (by rw [HX.out]), rfl⟩
def U32Post (w : World) (lo g : Nat) (l : List Nat) (f : Bool) (e : Ending) (w' : World) : Prop :=
  e = .returned (.int .u32 ((Pk.num (Pk.taken f l 4) : Nat))) ∧ Rd w' lo g (Pk.left f l 4) (Pk.fails f l 4) ∧ w.grownBy w' (some g)
theorem u32_any (lo g : Nat) (l : List Nat) (f : Bool) (w : World) (hr : Rd w lo g l f) :
    Calls Tryz.prog 56 #[.pointer (some ⟨g, 0, none⟩)] w (U32Post w lo g l f) := by
  have HR := Lib.hid hr
  clear hr
  go_enter Tryz.func56, Tryz.ntmps56
  go_wp2_with fail
  refine (take_any lo g 4 l f w HR.out (by omega)).mono ?_
  rintro e w1 ⟨A, n, c, rfl, hy, hn, hr1, hg⟩
  have HP := Lib.hid hr1
  clear hr1
  go_wp2_with fail
  refine (unpacked_uint32_any n c g A _ _ hy (by omega) (Nat.lt_of_lt_of_le (Pk.taken_num_lt f l 4 HR.out.lt) (by decide))).mono ?_
  rintro e w2 ⟨rfl, rfl⟩
  clear hy
  go_wp2_with fail
  go_ret
  exact ⟨rfl, HP.out, hg⟩
set_option maxRecDepth 100000 in
theorem unpacked_uint64_any (n c B : Nat) (A : Option Addr) (l : List Nat) (w : World) (hb : Bytes w B A n l) (hn : n ≤ 8) (_hl : Pk.num l < 18446744073709551616) :
    Calls Tryz.prog 131 #[.slice A n c] w fun e w' => e = .returned (.int .u64 ((Pk.num l : Nat) : Int)) ∧ w = w' := by
  have HB := Lib.hid hb
  clear hb
  go_enter Tryz.func131, Tryz.ntmps131
  go_wp2_with fail
  go_loop [3, 8] (fun t i => ∃ k x : Nat, k ≤ n ∧ i = .int .i64 k ∧ Pk.num (l.take k) = x ∧ t = .int .u64 (x : Int)) (fun _ i => n - (intOf i).toNat)
  case atStart => exact ⟨0, 0, by omega, rfl, rfl, rfl⟩
  case round =>
    obtain ⟨k, x, hk, rfl, hx, rfl⟩ := hrel
    by_cases hlt : k < n
    · obtain ⟨b, off, rfl, hbB, hc⟩ := HB.out.2.2 (by omega)
      have hck := hc k hlt
      have h8 := HB.out.lt k
      have HS := Lib.hid (num_step HB.out hlt)
      have hx7 : x < 72057594037927936 := by rw [← hx]; exact num_small HB.out.2.1 (by have := HB.out.1; omega) (by have := HB.out.1; omega)
      have HX := Lib.hid hx
      clear hc hx
      generalize l.getD k 0 = y at *
      have hor := or_u64 x y hx7 h8
      go_wp2_with fail
      go_round
      case rel => exact ⟨k + 1, x * 256 + y, by omega, by go_num, by rw [HS.out, HX.out], rfl⟩
      case measure => simp [intOf]; omega
    · rw [List.take_of_length_le (by have := HB.out.1; omega)] at hx
      have HX := Lib.hid hx
      clear hx
      go_wp2_with fail
      go_ret
      exact ⟨ret_int (by rw [HX.out]), rfl⟩
def U64Post (w : World) (lo g : Nat) (l : List Nat) (f : Bool) (e : Ending) (w' : World) : Prop :=
  e = .returned (.int .u64 ((Pk.num (Pk.taken f l 8) : Nat))) ∧ Rd w' lo g (Pk.left f l 8) (Pk.fails f l 8) ∧ w.grownBy w' (some g)
theorem u64_any (lo g : Nat) (l : List Nat) (f : Bool) (w : World) (hr : Rd w lo g l f) :
    Calls Tryz.prog 125 #[.pointer (some ⟨g, 0, none⟩)] w (U64Post w lo g l f) := by
  have HR := Lib.hid hr
  clear hr
  go_enter Tryz.func125, Tryz.ntmps125
  go_wp2_with fail
  refine (take_any lo g 8 l f w HR.out (by omega)).mono ?_
  rintro e w1 ⟨A, n, c, rfl, hy, hn, hr1, hg⟩
  have HP := Lib.hid hr1
  clear hr1
  go_wp2_with fail
  refine (unpacked_uint64_any n c g A _ _ hy (by omega) (Nat.lt_of_lt_of_le (Pk.taken_num_lt f l 8 HR.out.lt) (by decide))).mono ?_
  rintro e w2 ⟨rfl, rfl⟩
  clear hy
  go_wp2_with fail
  go_ret
  exact ⟨rfl, HP.out, hg⟩
set_option maxRecDepth 100000 in
theorem unpacked_int64_any (n c B : Nat) (A : Option Addr) (l : List Nat) (w : World) (hb : Bytes w B A n l) (hn : n ≤ 8) (_hl : Pk.num l < 18446744073709551616) :
    Calls Tryz.prog 133 #[.slice A n c] w fun e w' => e = .returned (.int .i64 (sg (Pk.num l))) ∧ w = w' := by
  have HB := Lib.hid hb
  clear hb
  go_enter Tryz.func133, Tryz.ntmps133
  go_wp2_with fail
  go_loop [3, 8] (fun t i => ∃ k x : Nat, k ≤ n ∧ i = .int .i64 k ∧ Pk.num (l.take k) = x ∧ t = .int .u64 (x : Int)) (fun _ i => n - (intOf i).toNat)
  case atStart => exact ⟨0, 0, by omega, rfl, rfl, rfl⟩
  case round =>
    obtain ⟨k, x, hk, rfl, hx, rfl⟩ := hrel
    by_cases hlt : k < n
    · obtain ⟨b, off, rfl, hbB, hc⟩ := HB.out.2.2 (by omega)
      have hck := hc k hlt
      have h8 := HB.out.lt k
      have HS := Lib.hid (num_step HB.out hlt)
      have hx7 : x < 72057594037927936 := by rw [← hx]; exact num_small HB.out.2.1 (by have := HB.out.1; omega) (by have := HB.out.1; omega)
      have HX := Lib.hid hx
      clear hc hx
      generalize l.getD k 0 = y at *
      have hor := or_u64 x y hx7 h8
      go_wp2_with fail
      go_round
      case rel => exact ⟨k + 1, x * 256 + y, by omega, by go_num, by rw [HS.out, HX.out], rfl⟩
      case measure => simp [intOf]; omega
    · rw [List.take_of_length_le (by have := HB.out.1; omega)] at hx
      have HX := Lib.hid hx
      clear hx
      go_wp2_with fail
      go_ret
      exact ⟨ret_int (by rw [HX.out]; unfold sg wrap64; rw [IntKind.wrap_i64]), rfl⟩
def IntPost (w : World) (lo g : Nat) (l : List Nat) (f : Bool) (e : Ending) (w' : World) : Prop :=
  e = .returned (.int .i64 (sg (Pk.num (Pk.taken f l 8)))) ∧ Rd w' lo g (Pk.left f l 8) (Pk.fails f l 8) ∧ w.grownBy w' (some g)
theorem int_any (lo g : Nat) (l : List Nat) (f : Bool) (w : World) (hr : Rd w lo g l f) :
    Calls Tryz.prog 118 #[.pointer (some ⟨g, 0, none⟩)] w (IntPost w lo g l f) := by
  have HR := Lib.hid hr
  clear hr
  go_enter Tryz.func118, Tryz.ntmps118
  go_wp2_with fail
  refine (take_any lo g 8 l f w HR.out (by omega)).mono ?_
  rintro e w1 ⟨A, n, c, rfl, hy, hn, hr1, hg⟩
  have HP := Lib.hid hr1
  clear hr1
  go_wp2_with fail
  refine (unpacked_int64_any n c g A _ _ hy (by omega) (Nat.lt_of_lt_of_le (Pk.taken_num_lt f l 8 HR.out.lt) (by decide))).mono ?_
  rintro e w2 ⟨rfl, rfl⟩
  clear hy
  go_wp2_with fail
  go_ret
  exact ⟨rfl, HP.out, hg⟩
def TextPost (w : World) (lo g : Nat) (l : List Nat) (f : Bool) (e : Ending) (w' : World) : Prop :=
  e = .returned (.string (textOf (Pk.ttaken f l))) ∧ Rd w' lo g (Pk.tleft f l) (Pk.tfails f l) ∧ w.grownBy w' (some g)
theorem Rd.back {w w' : World} {lo g : Nat} {l l' : List Nat} {f f' : Bool} {A : Option Addr} {c : Nat} (h : Rd w lo g l f) (h' : Rd w' lo g l' f') (hA : w.cell? ⟨g, 0, none⟩ = some (.slice A l.length c)) (hg : w.grownBy w' (some g)) :
    Rd (w'.setCell ⟨g, 0, none⟩ (.slice A l.length c)) lo g l f' := by
  have hlt := h.here
  obtain ⟨A', n, c', hb, hy, h1, h2, h3⟩ := h
  have e := (hb.cell 0).symm.trans hA
  simp at e
  obtain ⟨rfl, rfl, rfl⟩ := e
  obtain ⟨A2, n2, c2, hb2, -⟩ := h'
  refine ⟨_, _, _, hb2.set_ 0 _, hy.keepIn h3 (fun x o _ hx => ?_), h1, h2, h3⟩
  refine (World.cell?_of_block (a := ⟨x, o, none⟩) (Below.heap_setCell w' ⟨g, 0, none⟩ _ x (by show x ≠ g; omega))).trans ?_
  exact World.cell?_of_block (a := ⟨x, o, none⟩) (hg.block x (by omega) (fun e => by injection e with e; omega))
set_option maxRecDepth 100000 in
theorem text_any (lo g : Nat) (l : List Nat) (f : Bool) (w : World) (hr : Rd w lo g l f) :
    Calls Tryz.prog 132 #[.pointer (some ⟨g, 0, none⟩)] w (TextPost w lo g l f) := by
  obtain ⟨A, c, c0, -, -, -, hy, hc, -⟩ := hr.cells
  have HR := Lib.hid hr
  have HC0 := Lib.hid c0
  have hm := tlen_lt f l hr.lt
  clear hr hy
  go_enter Tryz.func132, Tryz.ntmps132
  go_wp2_with fail
  refine (u16_any lo g l f w HR.out).mono ?_
  rintro e w1 ⟨rfl, hr1, hg1⟩
  rw [show Pk.num (Pk.taken f l 2) = Pk.tlen f l from rfl]
  have HT := Lib.hid (show Pk.tfails f l = Pk.fails (Pk.fails f l 2) (Pk.left f l 2) (Pk.tlen f l) from rfl)
  have hth : ∀ m, Pk.tlen f l = m → True := fun _ _ => trivial
  clear hth
  obtain ⟨m, hme⟩ : ∃ m, Pk.tlen f l = m := ⟨_, rfl⟩
  rw [hme] at hm ⊢
  have HME := Lib.hid hme
  clear hme c0
  go_wp2_with fail
  refine (take_any lo g m (Pk.left f l 2) (Pk.fails f l 2) w1 hr1 (by omega)).mono ?_
  rintro e w2 ⟨A2, n2, c2, rfl, hy2, hn2, hr2, hg2⟩
  have HG := Lib.hid (hg1.trans hg2)
  clear hr1 hg1 hg2
  obtain ⟨A3, c3, d0, d1, z0, z1, -⟩ := hr2.cells
  have HR2 := Lib.hid hr2
  rcases Bool.eq_false_or_eq_true (Pk.fails (Pk.fails f l 2) (Pk.left f l 2) m) with hF | hF
  · have hTF : Pk.tfails f l = true := by rw [HT.out, HME.out]; exact hF
    have HTF := Lib.hid hTF
    rw [Pk.taken_yes hF] at hy2
    rw [hF] at d1 hr2
    have hE := HR.out.back hr2 HC0.out HG.out
    have HE := Lib.hid hE
    have hcv := (conv_bytes (c := c2) (hy2.far (o := 0) (v := .slice A l.length c))).2.2
    clear hTF hF hr2 hE hy2
    go_wp2_with fail
    go_ret
    exact ⟨by rw [Pk.ttaken_yes HTF.out]; rfl, by rw [Pk.tleft_yes HTF.out, HTF.out]; exact HE.out, only_setCell HG.out _ _⟩
  · have hTF : Pk.tfails f l = false := by rw [HT.out, HME.out]; exact hF
    have HTF := Lib.hid hTF
    have h2 := (Pk.tfails_iff.1 hTF).1
    rw [Pk.taken_no hF, Pk.left_no h2] at hy2
    rw [Pk.left_no hF, hF, Pk.left_no h2, List.drop_drop] at hr2
    rw [hF] at d1
    have hcv := (conv_bytes (c := c2) hy2).2.2
    have HE := Lib.hid hr2
    have hS := Lib.hid (show Pk.ttaken f l = (l.drop 2).take m from by rw [Pk.ttaken_no hTF, HME.out])
    have hS2 := Lib.hid (show Pk.tleft f l = l.drop (2 + m) from by rw [Pk.tleft_no hTF, HME.out])
    clear hTF hF hr2 hy2 h2
    go_wp2_with fail
    go_ret
    exact ⟨by rw [hS.out]; rfl, by rw [hS2.out, HTF.out]; exact HE.out, HG.out⟩
/-- What Err tells. -/
def errOf (f : Bool) : Int := if f = true then 20 else 0
theorem err_any (lo g : Nat) (l : List Nat) (f : Bool) (w : World) (hr : Rd w lo g l f) :
    Calls Tryz.prog 80 #[.pointer (some ⟨g, 0, none⟩)] w fun e w' => e = .returned (.int .i64 (errOf f)) ∧ w = w' := by
  obtain ⟨A, c, -, c1, -⟩ := hr.cells
  clear hr
  rcases Bool.eq_false_or_eq_true f with rfl | rfl
  · go_enter Tryz.func80, Tryz.ntmps80
    go_wp2_with fail
    go_ret
    exact ⟨rfl, rfl⟩
  · go_enter Tryz.func80, Tryz.ntmps80
    go_wp2_with fail
    go_ret
    exact ⟨rfl, rfl⟩
/-- What Done tells. -/
def doneOf (f : Bool) (n : Nat) : Int := if f = true then 20 else if 0 < n then 21 else 0
theorem done_any (lo g : Nat) (l : List Nat) (f : Bool) (w : World) (hr : Rd w lo g l f) :
    Calls Tryz.prog 57 #[.pointer (some ⟨g, 0, none⟩)] w fun e w' => e = .returned (.int .i64 (doneOf f l.length)) ∧ w = w' := by
  obtain ⟨A, c, c0, -⟩ := hr.cells
  have HR := Lib.hid hr
  clear hr
  rcases Bool.eq_false_or_eq_true f with rfl | rfl
  · go_enter Tryz.func57, Tryz.ntmps57
    go_wp2_with fail
    refine (err_any lo g l true w HR.out).mono ?_
    rintro e w' ⟨rfl, rfl⟩
    rw [show errOf true = 20 from rfl]
    go_wp2_with fail
    go_ret
    exact ⟨rfl, rfl⟩
  · obtain ⟨n, hn⟩ : ∃ n, l.length = n := ⟨_, rfl⟩
    rw [hn] at c0 ⊢
    clear hn
    by_cases h0 : 0 < n
    · have HD := Lib.hid (show doneOf false n = 21 from by simp [doneOf, h0])
      go_enter Tryz.func57, Tryz.ntmps57
      go_wp2_with fail
      refine (err_any lo g l false w HR.out).mono ?_
      rintro e w' ⟨rfl, rfl⟩
      rw [show errOf false = 0 from rfl]
      go_wp2_with fail
      go_ret
      exact ⟨by rw [HD.out]; rfl, rfl⟩
    · obtain rfl : n = 0 := by omega
      go_enter Tryz.func57, Tryz.ntmps57
      go_wp2_with fail
      refine (err_any lo g l false w HR.out).mono ?_
      rintro e w' ⟨rfl, rfl⟩
      rw [show errOf false = 0 from rfl]
      go_wp2_with fail
      go_ret
      exact ⟨rfl, rfl⟩
end Go.Proofs.YtognlgklepgemaaGreat
