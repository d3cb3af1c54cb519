/- Layer 4, the program: a row, read. -/
import Derived.Test.YtponelbfddfliaaKeyI
namespace Go.Proofs.Ytponelbfddfliaa
open Go.ChangeShapes Go.WideShapes Go.ChangeAt Go.RowKit

theorem Try.info67 : (Try.prog.info? 67).map (fun i => (i.zero, i.size, i.bytes)) = some (some (.agg #[.int .u8 0, .int .i64 0, .string ⟨#[]⟩]), 3, 32) := by kernel_rfl
def ParseK (w : World) (o : Option (List Ky.Part)) (e : Ending) (w' : World) : Prop := match o with
  | none => e = .returned (.tuple #[.slice none 0 0, .bool false]) ∧ Below w.heap.size w w'
  | some l => ∃ (lp : List PT) (A : Option Addr) (c : Nat), e = .returned (.tuple #[.slice A lp.length c, .bool true]) ∧ tos lp = l ∧ Parts w' w'.heap.size A lp.length lp ∧ w'.ownsRow w.heap.size 67 3 (.slice A lp.length c) lp.length (pcells lp) ∧ Below w.heap.size w w'
theorem strict_step (s ks : List Nat) (i : Nat) (hi : i < ks.length) : Ky.strict (ks.drop i) s = match Ky.sfst s (ks.getD i 0) with
    | none => none
    | some q => (Ky.strict (ks.drop (i + 1)) (s.drop q.2)).map (q.1 :: ·) := by
  rw [List.drop_eq_getElem_cons hi, List.getD_eq_getElem?_getD, List.getElem?_eq_getElem hi]
  rfl
theorem cells3' (w : World) (o : Obj) (t : TypeId) (u v x : Value) : ∀ j y, ([u, v, x] : List Value)[j]? = some y → ((w.alloc o).alloc (.cells #[u, v, x] t)).cell? ((⟨w.heap.size + 1, 0, none⟩ : Addr).add j) = some y := by
  have := cells3 (w.alloc o) t u v x
  rwa [World.size_alloc] at this
theorem str_not_empty {E : ByteArray} (h : E.size ≠ 0) : E.toList.isEmpty = false := by
  rw [ByteArray.toList_eq, List.isEmpty_eq_false_iff]
  intro e
  apply h
  have := congrArg List.length e
  simpa using this
set_option maxRecDepth 100000 in
set_option maxHeartbeats 2000000 in
theorem parse_any (s : ByteArray) (n c B : Nat) (A : Option Addr) (ks : List Nat) (w : World) (hk : Bytes w B A n ks) (hB : B ≤ w.heap.size) (hs : s.size ≤ 1000000) (hn : n ≤ 1000) :
    Calls Try.prog 72 #[.string s, .slice A n c] w (ParseK w (Ky.parse (nums s) ks)) := by
  rw [← Ky.strict_parse ks (nums s) (nums_byte s)]
  obtain ⟨i0, hi, hz0, hz1, hz2⟩ := info_parts Try.info67
  have HI := Lib.hid (And.intro hi (And.intro hz0 (And.intro hz1 hz2)))
  have HK := Lib.hid hk
  clear hi hz0 hz1 hz2 hk
  go_enter Try.func72, Try.ntmps72
  go_wp2_with fail
  go_loopw [0, 6, 14] (fun st r i wr => ∃ (j : Nat) (E : ByteArray) (l : List PT), j ≤ n ∧ i = .int .i64 (j : Int) ∧ st = .string E ∧ E.size ≤ 1000000 ∧ wr.ownsRow w.heap.size 67 3 r j (pcells l) ∧ (∀ p ∈ l, p.ok) ∧ Ky.strict ks (nums s) = (Ky.strict (ks.drop j) (nums E)).map (tos l ++ ·) ∧ Below w.heap.size w wr) (fun _ _ i _ => n - (intOf i).toNat)
  case atStart => exact ⟨0, s, [], by omega, rfl, rfl, hs, own_nil _ _ _ _, by simp, by simp [tos], Below.refl _ _⟩
  case round =>
    obtain ⟨j, E, l, hj, rfl, rfl, hE, hown, hok, hst, hbel⟩ := hrel
    have HO := Lib.hid (And.intro hown (And.intro hok (And.intro hst hbel)))
    clear hown hok hst
    by_cases hlt : j < n
    · obtain ⟨b, off, rfl, hb, hc⟩ := HK.out.2.2 (by omega)
      have hcj := (hbel.cell (p := ⟨b, off + j, none⟩) (by show b < w.heap.size; omega)).trans (hc j hlt)
      have hst := strict_step (nums E) ks j (by rw [HK.out.1]; exact hlt)
      generalize ks.getD j 0 = k at hcj hst
      have HS := Lib.hid hst
      have i1 : (0 : Int) ≤ j := by omega
      have i2 : (j : Int) < n := by omega
      clear hc hst hbel
      go_wp2_with fail
      refine (takePart_any k E wr hE).mono ?_
      rintro e w1 ⟨⟨pk, pn, ps⟩, L, ok, hR, rfl, b1⟩
      have HR := Lib.hid hR
      have HB1 := Lib.hid (And.intro (below_next HO.out.2.2.2 b1) (own_below HO.out.1 b1))
      clear hR b1 hcj
      simp only [PT.val, partV]
      cases ok
      · have hnone : Ky.strict ks (nums s) = none := by
          have h1 := HR.out.2
          rw [HO.out.2.2.1, HS.out]
          rcases hf : Ky.sfst (nums E) k with _ | q
          · rfl
          · rw [hf] at h1
            exact absurd h1.1 (by decide)
        have HN := Lib.hid hnone
        clear hnone
        go_wp2_with fail
        go_ret2
        rw [HN.out]
        exact ⟨rfl, HB1.out.1.alloc HB1.out.1.size _⟩
      · have hsome : ∃ q, Ky.sfst (nums E) k = some q ∧ (PT.mk pk pn ps).to = q.1 ∧ L = E.extract q.2 E.size := by
          have h1 := HR.out.2
          rcases hf : Ky.sfst (nums E) k with _ | q
          · rw [hf] at h1
            cases h1
          · rw [hf] at h1
            exact ⟨q, rfl, h1.2⟩
        obtain ⟨q, hq1, hq2, hq3⟩ := hsome
        have hnd := nums_drop E q.2
        rw [← hq3] at hnd
        have hLs : L.size ≤ 1000000 := by
          have := congrArg List.length hnd
          rw [nums_len, List.length_drop, nums_len] at this
          omega
        have hst2 : Ky.strict ks (nums s) = (Ky.strict (ks.drop (j + 1)) (nums L)).map (tos (l ++ [⟨pk, pn, ps⟩]) ++ ·) := by
          rw [HO.out.2.2.1, HS.out, hq1]
          simp only [Option.map_map]
          rw [← hnd]
          congr 1
          funext t
          simp [tos, ← hq2]
        have HS2 := Lib.hid hst2
        clear hq1 hq2 hq3 hnd hst2
        go_wp2_with (at_builtin; refine wpList_append_own _ rfl _ _ 87 rfl w.heap.size 67 i0 (.agg #[.int .u8 0, .int .i64 0, .string ⟨#[]⟩]) 3 32 Try.underlying87 HI.out.1 HI.out.2.1 HI.out.2.2.1 HI.out.2.2.2 rfl (by decide) _ j _ rfl ((HB1.out.2.alloc _).alloc _) ⟨w1.heap.size + 1, 0, none⟩ 1 1 [.int .u8 (pk : Int), .int .i64 pn, .string ps] rfl rfl (cells3' w1 _ _ _ _ _) (by simp [Value.oneCell']) (by unfold maxLen; omega) (by omega) (by have := HB1.out.1.size; simp; omega) ?_; intro v1 w2 ho1 hg1 _; have D1 := grow_below (HB1.out.1.alloc HB1.out.1.size _) hg1 (fun g hg => (HB1.out.2.lt g hg).1))
        refine ⟨⟨j + 1, L, l ++ [⟨pk, pn, ps⟩], by omega, by go_num, rfl, hLs, ?_, ?_, HS2.out, D1⟩, by simp [intOf]; omega⟩
        · rw [pcells_snoc]
          exact ho1
        · intro q hq
          rcases List.mem_append.1 hq with h | h
          · exact HO.out.2.1 q h
          · simp at h
            subst h
            exact HR.out.1
    · obtain rfl : n = j := by omega
      have hst : Ky.strict ks (nums s) = (Ky.strict [] (nums E)).map (tos l ++ ·) := by
        rw [HO.out.2.2.1, List.drop_eq_nil_of_le (by rw [HK.out.1]; omega)]
      by_cases hz : E.size = 0
      · have hEe : E = ⟨#[]⟩ := nums_inj (List.eq_nil_of_length_eq_zero (by rw [nums_len]; exact hz))
        subst hEe
        have hres : Ky.strict ks (nums s) = some (tos l) := by
          rw [hst]
          simp [Ky.strict, nums]
        have HR := Lib.hid hres
        obtain ⟨A1, c1, hu⟩ := own_slice HO.out.1
        subst hu
        clear hst hres
        go_wp2_with fail
        go_ret2
        rw [HR.out]
        have hparts := Parts.of_own HO.out.1 HO.out.2.1
        have hl := hparts.1
        subst hl
        exact ⟨l, A1, c1, rfl, rfl, hparts, HO.out.1, hbel⟩
      · have hres : Ky.strict ks (nums s) = none := by
          rw [hst]
          have : nums E ≠ [] := fun e => hz (by rw [← nums_len, e]; rfl)
          simp [Ky.strict, this]
        have HR := Lib.hid hres
        have hne := str_not_empty hz
        clear hst hres
        go_wp2_with fail
        go_ret2
        rw [HR.out]
        exact ⟨rfl, hbel⟩
end Go.Proofs.Ytponelbfddfliaa
