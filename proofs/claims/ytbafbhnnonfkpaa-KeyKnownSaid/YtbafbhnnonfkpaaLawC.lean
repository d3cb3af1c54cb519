/- Stage 4's statements: a row of the kinds of another one; a row's kinds. -/
import Derived.Test.YtbafbhnnonfkpaaLawB
import Derived.Test.YtbafbhnnonfkpaaInts
import Derived.Test.YtbafbhnnonfkpaaStrs
namespace Go.Proofs.Ytbafbhnnonfkpaa
open Go.ChangeShapes Go.WideShapes Go.ChangeAt Go.RowKit

def rowOne (ns : List Int) (ss : List ByteArray) (i : Nat) (p : PT) : PT := if p.k = 1 then ⟨1, ns.getD (i % ns.length) 0, ⟨#[]⟩⟩ else ⟨2, 0, ss.getD (i % ss.length) ByteArray.empty⟩
def rowL (l : List PT) (ns : List Int) (ss : List ByteArray) : List PT := l.mapIdx fun i p => rowOne ns ss i p
theorem rowL_snoc (l : List PT) (ns : List Int) (ss : List ByteArray) (p : PT) : rowL (l ++ [p]) ns ss = rowL l ns ss ++ [rowOne ns ss l.length p] := by simp [rowL, List.mapIdx_append]
theorem rowL_len (l : List PT) (ns : List Int) (ss : List ByteArray) : (rowL l ns ss).length = l.length := by simp [rowL]
set_option maxRecDepth 100000 in
set_option maxHeartbeats 4000000 in
theorem row_any (n c m d k f B : Nat) (A A2 A3 : Option Addr) (l : List PT) (ns : List Int) (ss : List ByteArray) (w : World) (h : Parts w B A n l) (h2 : Ints w B A2 m ns) (h3 : Strs w B A3 k ss) (hB : B ≤ w.heap.size) (hn : n ≤ 1000) (hmm : m ≤ 9223372036854775807) (hkk : k ≤ 9223372036854775807) :
    Calls Try.prog 28 #[.slice A n c, .slice A2 m d, .slice A3 k f] w (RowP 39 w (rowL l ns ss)) := by
  obtain ⟨i0, hi, hz0, hz1, hz2⟩ := info_parts Try.info39
  have HI := Lib.hid (And.intro hi (And.intro hz0 (And.intro hz1 hz2)))
  have HP := Lib.hid (And.intro h (And.intro h2 h3))
  clear hi hz0 hz1 hz2 h h2 h3
  go_enter Try.func28, Try.ntmps28
  go_wp2_with fail
  go_loopw [7, 8] (fun r i wr => ∃ j : Nat, j ≤ n ∧ i = .int .i64 (j : Int) ∧ wr.ownsRow w.heap.size 39 3 r j (pcells (rowL (l.take j) ns ss)) ∧ Below w.heap.size w wr) (fun _ i _ => n - (intOf i).toNat)
  case atStart => exact ⟨0, by omega, rfl, own_nil _ _ _ _, Below.refl _ _⟩
  case round =>
    obtain ⟨j, hj, rfl, hown, hbel⟩ := hrel
    have HO := Lib.hid (And.intro hown hbel)
    clear hown
    by_cases hlt : j < n
    · obtain ⟨b, off, rfl, hb, hc⟩ := HP.out.1.2.2 (by omega)
      have hst := snoc_at l j (by rw [HP.out.1.1]; exact hlt)
      have hcj := (hc j hlt).1
      generalize l.getD j default = p at hcj hst
      have hck := (hbel.cell (p := ⟨b, off + j * 3, none⟩) (by show b < w.heap.size; omega)).trans hcj
      have i1 : (0 : Int) ≤ j := by omega
      have i2 : (j : Int) < n := by omega
      have i3 : b < wr.heap.size := by have := hbel.size; omega
      clear hc hcj hbel
      by_cases hm : m = 0
      · have hm0 : ¬ (0 : Int) < m := by omega
        by_cases hk : p.k = 1
        · have hns : ns = [] := List.eq_nil_of_length_eq_zero (by rw [HP.out.2.1.1]; exact hm)
          have hkt : (p.k : Int) = 1 := by omega
          have hkb : ((p.k : Int) == 1) = true := by rw [beq_iff_eq]; omega
          have hkn : ((p.k : Int) != 1) = false := by rw [hkt]; rfl
          have hst2 : rowL (l.take (j + 1)) ns ss = rowL (l.take j) ns ss ++ [⟨1, 0, ⟨#[]⟩⟩] := by
            rw [hst, rowL_snoc, List.length_take, HP.out.1.1, Nat.min_eq_left (by omega)]
            unfold rowOne; rw [if_pos hk, hns]; rfl
          have HS := Lib.hid hst2
          clear hst hst2
          clear hns
          go_wp2_with (at_builtin; refine wpList_append_own _ rfl _ _ 22 rfl w.heap.size 39 i0 (.agg #[.int .u8 0, .int .i64 0, .string ⟨#[]⟩]) 3 32 Try.underlying22 HI.out.1 HI.out.2.1 HI.out.2.2.1 HI.out.2.2.2 rfl (by decide) _ j _ rfl ((HO.out.1.alloc _).alloc _) ⟨wr.heap.size + 1, 0, none⟩ 1 1 [.int .u8 1, .int .i64 0, .string ⟨#[]⟩] rfl rfl (cells3' wr _ _ _ _ _) (by simp [Value.oneCell']) (by unfold maxLen; omega) (by omega) (by have := HO.out.2.size; simp; omega) ?_; intro v1 w2 ho1 hg1 _; have D1 := Lib.hid (grow_below (HO.out.2.alloc HO.out.2.size _) hg1 (fun g hg => (HO.out.1.lt g hg).1)))
          refine ⟨⟨j + 1, by omega, by go_num, ?_, D1.out⟩, by simp [intOf]; omega⟩
          rw [HS.out, pcells_snoc]
          exact ho1
        · have hkt : ¬ (p.k : Int) = 1 := by omega
          have hkb : ((p.k : Int) == 1) = false := by rw [beq_eq_false_iff_ne]; omega
          have hkn : ((p.k : Int) != 1) = true := by rw [bne, hkb]; rfl
          by_cases hks : k = 0
          · have hk0 : ¬ (0 : Int) < k := by omega
            have hss : ss = [] := List.eq_nil_of_length_eq_zero (by rw [HP.out.2.2.1]; exact hks)
            have hst2 : rowL (l.take (j + 1)) ns ss = rowL (l.take j) ns ss ++ [⟨2, 0, ⟨#[]⟩⟩] := by
              rw [hst, rowL_snoc, List.length_take, HP.out.1.1, Nat.min_eq_left (by omega)]
              unfold rowOne; rw [if_neg hk, hss]; rfl
            have HS := Lib.hid hst2
            clear hst hst2
            clear hss
            go_wp2_with (at_builtin; refine wpList_append_own _ rfl _ _ 22 rfl w.heap.size 39 i0 (.agg #[.int .u8 0, .int .i64 0, .string ⟨#[]⟩]) 3 32 Try.underlying22 HI.out.1 HI.out.2.1 HI.out.2.2.1 HI.out.2.2.2 rfl (by decide) _ j _ rfl ((HO.out.1.alloc _).alloc _) ⟨wr.heap.size + 1, 0, none⟩ 1 1 [.int .u8 2, .int .i64 0, .string ⟨#[]⟩] rfl rfl (cells3' wr _ _ _ _ _) (by simp [Value.oneCell']) (by unfold maxLen; omega) (by omega) (by have := HO.out.2.size; simp; omega) ?_; intro v1 w2 ho1 hg1 _; have D1 := Lib.hid (grow_below (HO.out.2.alloc HO.out.2.size _) hg1 (fun g hg => (HO.out.1.lt g hg).1)))
            refine ⟨⟨j + 1, by omega, by go_num, ?_, D1.out⟩, by simp [intOf]; omega⟩
            rw [HS.out, pcells_snoc]
            exact ho1
          · obtain ⟨bs, os, rfl, hbs, hcs⟩ := HP.out.2.2.2.2 (by omega)
            have hrl : j % k < k := Nat.mod_lt _ (by omega)
            have zbs : bs < wr.heap.size := by have := HO.out.2.size; omega
            have hcr := (HO.out.2.cell (p := ⟨bs, os + j % k, none⟩) (by show bs < w.heap.size; omega)).trans (hcs (j % k) hrl)
            have hrem2 : (j : Int).tmod (k : Int) = ((j % k : Nat) : Int) := Int.tmod_eq_emod_of_nonneg (by omega)
            obtain ⟨r, hr⟩ : ∃ r, j % k = r := ⟨_, rfl⟩
            rw [hr] at hcr hrem2 hrl
            have hr0 : (0 : Int) ≤ r := by omega
            have hr1 : (r : Int) < k := by omega
            have hk0 : (0 : Int) < k := by omega
            have hk1 : ¬ (k : Int) = 0 := by omega
            have hk2 : ((k : Int) == 0) = false := by rw [beq_eq_false_iff_ne]; omega
            clear hcs
            have hst2 : rowL (l.take (j + 1)) ns ss = rowL (l.take j) ns ss ++ [⟨2, 0, ss.getD r ByteArray.empty⟩] := by
              rw [hst, rowL_snoc, List.length_take, HP.out.1.1, Nat.min_eq_left (by omega)]
              unfold rowOne; rw [if_neg hk, HP.out.2.2.1, hr]
            have HS := Lib.hid hst2
            clear hst hst2
            go_wp2_with (at_builtin; refine wpList_append_own _ rfl _ _ 22 rfl w.heap.size 39 i0 (.agg #[.int .u8 0, .int .i64 0, .string ⟨#[]⟩]) 3 32 Try.underlying22 HI.out.1 HI.out.2.1 HI.out.2.2.1 HI.out.2.2.2 rfl (by decide) _ j _ rfl ((HO.out.1.alloc _).alloc _) ⟨wr.heap.size + 1, 0, none⟩ 1 1 [.int .u8 2, .int .i64 0, .string (ss.getD r ByteArray.empty)] rfl rfl (cells3' wr _ _ _ _ _) (by simp [Value.oneCell']) (by unfold maxLen; omega) (by omega) (by have := HO.out.2.size; simp; omega) ?_; intro v1 w2 ho1 hg1 _; have D1 := Lib.hid (grow_below (HO.out.2.alloc HO.out.2.size _) hg1 (fun g hg => (HO.out.1.lt g hg).1)))
            refine ⟨⟨j + 1, by omega, by go_num, ?_, D1.out⟩, by simp [intOf]; omega⟩
            rw [HS.out, pcells_snoc]
            exact ho1
      · obtain ⟨bn, on, rfl, hbn, hcn⟩ := HP.out.2.1.2.2 (by omega)
        have hql : j % m < m := Nat.mod_lt _ (by omega)
        have zbn : bn < wr.heap.size := by have := HO.out.2.size; omega
        have hcq := (HO.out.2.cell (p := ⟨bn, on + j % m, none⟩) (by show bn < w.heap.size; omega)).trans (hcn (j % m) hql)
        have hrem : (j : Int).tmod (m : Int) = ((j % m : Nat) : Int) := Int.tmod_eq_emod_of_nonneg (by omega)
        obtain ⟨q, hq⟩ : ∃ q, j % m = q := ⟨_, rfl⟩
        rw [hq] at hcq hrem hql
        have hq0 : (0 : Int) ≤ q := by omega
        have hq1 : (q : Int) < m := by omega
        have hm0 : (0 : Int) < m := by omega
        have hm1 : ¬ (m : Int) = 0 := by omega
        have hm2 : ((m : Int) == 0) = false := by rw [beq_eq_false_iff_ne]; omega
        clear hcn
        by_cases hk : p.k = 1
        · have hkt : (p.k : Int) = 1 := by omega
          have hkb : ((p.k : Int) == 1) = true := by rw [beq_iff_eq]; omega
          have hkn : ((p.k : Int) != 1) = false := by rw [hkt]; rfl
          have hst2 : rowL (l.take (j + 1)) ns ss = rowL (l.take j) ns ss ++ [⟨1, ns.getD q 0, ⟨#[]⟩⟩] := by
            rw [hst, rowL_snoc, List.length_take, HP.out.1.1, Nat.min_eq_left (by omega)]
            unfold rowOne; rw [if_pos hk, HP.out.2.1.1, hq]
          have HS := Lib.hid hst2
          clear hst hst2
          go_wp2_with (at_builtin; refine wpList_append_own _ rfl _ _ 22 rfl w.heap.size 39 i0 (.agg #[.int .u8 0, .int .i64 0, .string ⟨#[]⟩]) 3 32 Try.underlying22 HI.out.1 HI.out.2.1 HI.out.2.2.1 HI.out.2.2.2 rfl (by decide) _ j _ rfl ((HO.out.1.alloc _).alloc _) ⟨wr.heap.size + 1, 0, none⟩ 1 1 [.int .u8 1, .int .i64 (ns.getD q 0), .string ⟨#[]⟩] rfl rfl (cells3' wr _ _ _ _ _) (by simp [Value.oneCell']) (by unfold maxLen; omega) (by omega) (by have := HO.out.2.size; simp; omega) ?_; intro v1 w2 ho1 hg1 _; have D1 := Lib.hid (grow_below (HO.out.2.alloc HO.out.2.size _) hg1 (fun g hg => (HO.out.1.lt g hg).1)))
          refine ⟨⟨j + 1, by omega, by go_num, ?_, D1.out⟩, by simp [intOf]; omega⟩
          rw [HS.out, pcells_snoc]
          exact ho1
        · have hkt : ¬ (p.k : Int) = 1 := by omega
          have hkb : ((p.k : Int) == 1) = false := by rw [beq_eq_false_iff_ne]; omega
          have hkn : ((p.k : Int) != 1) = true := by rw [bne, hkb]; rfl
          by_cases hks : k = 0
          · have hk0 : ¬ (0 : Int) < k := by omega
            have hss : ss = [] := List.eq_nil_of_length_eq_zero (by rw [HP.out.2.2.1]; exact hks)
            have hst2 : rowL (l.take (j + 1)) ns ss = rowL (l.take j) ns ss ++ [⟨2, 0, ⟨#[]⟩⟩] := by
              rw [hst, rowL_snoc, List.length_take, HP.out.1.1, Nat.min_eq_left (by omega)]
              unfold rowOne; rw [if_neg hk, hss]; rfl
            have HS := Lib.hid hst2
            clear hst hst2
            clear hss
            go_wp2_with (at_builtin; refine wpList_append_own _ rfl _ _ 22 rfl w.heap.size 39 i0 (.agg #[.int .u8 0, .int .i64 0, .string ⟨#[]⟩]) 3 32 Try.underlying22 HI.out.1 HI.out.2.1 HI.out.2.2.1 HI.out.2.2.2 rfl (by decide) _ j _ rfl ((HO.out.1.alloc _).alloc _) ⟨wr.heap.size + 1, 0, none⟩ 1 1 [.int .u8 2, .int .i64 0, .string ⟨#[]⟩] rfl rfl (cells3' wr _ _ _ _ _) (by simp [Value.oneCell']) (by unfold maxLen; omega) (by omega) (by have := HO.out.2.size; simp; omega) ?_; intro v1 w2 ho1 hg1 _; have D1 := Lib.hid (grow_below (HO.out.2.alloc HO.out.2.size _) hg1 (fun g hg => (HO.out.1.lt g hg).1)))
            refine ⟨⟨j + 1, by omega, by go_num, ?_, D1.out⟩, by simp [intOf]; omega⟩
            rw [HS.out, pcells_snoc]
            exact ho1
          · obtain ⟨bs, os, rfl, hbs, hcs⟩ := HP.out.2.2.2.2 (by omega)
            have hrl : j % k < k := Nat.mod_lt _ (by omega)
            have zbs : bs < wr.heap.size := by have := HO.out.2.size; omega
            have hcr := (HO.out.2.cell (p := ⟨bs, os + j % k, none⟩) (by show bs < w.heap.size; omega)).trans (hcs (j % k) hrl)
            have hrem2 : (j : Int).tmod (k : Int) = ((j % k : Nat) : Int) := Int.tmod_eq_emod_of_nonneg (by omega)
            obtain ⟨r, hr⟩ : ∃ r, j % k = r := ⟨_, rfl⟩
            rw [hr] at hcr hrem2 hrl
            have hr0 : (0 : Int) ≤ r := by omega
            have hr1 : (r : Int) < k := by omega
            have hk0 : (0 : Int) < k := by omega
            have hk1 : ¬ (k : Int) = 0 := by omega
            have hk2 : ((k : Int) == 0) = false := by rw [beq_eq_false_iff_ne]; omega
            clear hcs
            have hst2 : rowL (l.take (j + 1)) ns ss = rowL (l.take j) ns ss ++ [⟨2, 0, ss.getD r ByteArray.empty⟩] := by
              rw [hst, rowL_snoc, List.length_take, HP.out.1.1, Nat.min_eq_left (by omega)]
              unfold rowOne; rw [if_neg hk, HP.out.2.2.1, hr]
            have HS := Lib.hid hst2
            clear hst hst2
            go_wp2_with (at_builtin; refine wpList_append_own _ rfl _ _ 22 rfl w.heap.size 39 i0 (.agg #[.int .u8 0, .int .i64 0, .string ⟨#[]⟩]) 3 32 Try.underlying22 HI.out.1 HI.out.2.1 HI.out.2.2.1 HI.out.2.2.2 rfl (by decide) _ j _ rfl ((HO.out.1.alloc _).alloc _) ⟨wr.heap.size + 1, 0, none⟩ 1 1 [.int .u8 2, .int .i64 0, .string (ss.getD r ByteArray.empty)] rfl rfl (cells3' wr _ _ _ _ _) (by simp [Value.oneCell']) (by unfold maxLen; omega) (by omega) (by have := HO.out.2.size; simp; omega) ?_; intro v1 w2 ho1 hg1 _; have D1 := Lib.hid (grow_below (HO.out.2.alloc HO.out.2.size _) hg1 (fun g hg => (HO.out.1.lt g hg).1)))
            refine ⟨⟨j + 1, by omega, by go_num, ?_, D1.out⟩, by simp [intOf]; omega⟩
            rw [HS.out, pcells_snoc]
            exact ho1
    · obtain rfl : n = j := by omega
      obtain ⟨A1, c1, rfl⟩ := own_slice HO.out.1
      have hfull := HO.out.1
      rw [List.take_of_length_le (by rw [HP.out.1.1]; omega)] at hfull
      have HF := Lib.hid hfull
      clear hfull hbel
      go_wp2_with fail
      go_ret
      obtain rfl : n = (rowL l ns ss).length := by rw [rowL_len]; exact HP.out.1.1.symm
      exact ⟨A1, c1, rfl, HF.out, HO.out.2⟩
end Go.Proofs.Ytbafbhnnonfkpaa
