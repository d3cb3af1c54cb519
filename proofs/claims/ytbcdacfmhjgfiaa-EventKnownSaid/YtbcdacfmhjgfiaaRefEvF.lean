/- Layer 6's reference: bytes parsed, as operations in a row. -/
import Derived.Test.YtbcdacfmhjgfiaaRefEvE
namespace Go.Proofs.Ytbcdacfmhjgfiaa
open Go.ChangeShapes Go.WideShapes Go.ChangeAt Go.RowKit

def OpsP (t : TypeId) (w : World) (r : Int × List Evo) (e : Ending) (w' : World) : Prop := ∃ (A : Option Addr) (c : Nat), e = .returned (.tuple #[.slice A r.2.length c, .int .i64 r.1]) ∧ w'.ownsRow w.heap.size t 4 (.slice A r.2.length c) r.2.length (ecells r.2) ∧ Below w.heap.size w w'
theorem Try.info27 : (Try.prog.info? 27).map (fun i => (i.zero, i.size, i.bytes)) = some (some (.agg #[.int .u8 0, .string ⟨#[]⟩, .int .i64 0, .int .i64 0]), 4, 40) := by kernel_rfl
theorem ecells4 (w : World) (t : TypeId) (o : Evo) : ∀ j z, ([.int .u8 (o.k : Int), .string o.s, .int .i64 o.t, .int .i64 o.v] : List Value)[j]? = some z → (w.alloc (.cells #[.int .u8 (o.k : Int), .string o.s, .int .i64 o.t, .int .i64 o.v] t)).cell? ((⟨w.heap.size, 0, none⟩ : Addr).add j) = some z := by
  intro j z h
  rw [add_at, Nat.zero_add, (Blk.new w t _).cell]
  simpa using h
set_option maxRecDepth 100000 in
set_option maxHeartbeats 2000000 in
theorem refParseAll_any (n c B : Nat) (A : Option Addr) (b : List Nat) (w : World) (hb : Bytes w B A n b) (hB : B ≤ w.heap.size) (hn : n ≤ 1000000) (hc : n ≤ c) : Calls Try.prog 21 #[.slice A n c] w (OpsP 27 w (Ev.psAll b)) := by
  obtain ⟨i0, hi, hz0, hz1, hz2⟩ := info_parts Try.info27
  have HI := Lib.hid (And.intro hi (And.intro hz0 (And.intro hz1 hz2)))
  have hlen := hb.1
  have HBY : Hid (∀ W, Below w.heap.size w W → Bytes W B A n b) := Lib.hid fun W hW => hb.below hW hB
  have HBS : Hid (∀ W, Below w.heap.size w W → B ≤ W.heap.size) := Lib.hid fun W hW => Nat.le_trans hB hW.size
  clear hi hz0 hz1 hz2 hb hB
  go_enter Try.func21, Try.ntmps21
  go_wp2_with fail
  go_loopw [4, 5, 6, 7, 8] (fun v i _ _ _ wr => ∃ (a : Nat) (X : List Evo), a ≤ n ∧ i = .int .i64 (a : Int) ∧ wr.ownsRow w.heap.size 27 4 v X.length (ecells X) ∧ Ev.with_ X (Ev.psAll (b.drop a)) = Ev.psAll b ∧ X.length ≤ a ∧ Below w.heap.size w wr) (fun _ i _ _ _ _ => n - (intOf i).toNat)
  case atStart => exact ⟨0, [], by omega, rfl, own_nil _ _ _ _, by rw [List.drop_zero]; exact Ev.with_nil b, by simp, Below.refl _ _⟩
  case round =>
    obtain ⟨a, X, ha, rfl, hown, hw, hXa, hbel⟩ := hrel
    have HO := Lib.hid (And.intro hown (And.intro hw hbel))
    clear hown hw hbel
    by_cases hlt : a < n
    · obtain ⟨r, o, u, hnx⟩ : ∃ r o u, Ev.nx (b.drop a) = (r, o, u) := ⟨_, _, _, rfl⟩
      obtain ⟨q, hq⟩ : ∃ q, a + u = q := ⟨_, rfl⟩
      have hne : b.drop a ≠ [] := by
        intro e
        have := congrArg List.length e
        rw [List.length_drop, hlen] at this
        simp at this
        omega
      have i1 : (a : Int) < n := by omega
      have HNX := Lib.hid (And.intro hnx (And.intro hq hne))
      clear hnx hq hne
      go_wp2_with fail
      refine (next_let (c := c) (HBY.out wr HO.out.2.2) (HBS.out wr HO.out.2.2) hn ha hc HNX.out.1 HNX.out.2.1).mono ?_
      rintro e w1 ⟨rfl, b1⟩
      have HB1 := Lib.hid (And.intro (below_next HO.out.2.2 b1) (own_below HO.out.1 b1))
      clear b1
      by_cases h1 : r = 0
      · subst h1
        go_upto_region 6 with (fail)
        have hk := Blk.new w1 27 #[.int .u8 (o.k : Int), .string o.s, .int .i64 o.t, .int .i64 o.v]
        have D2 := Lib.hid (HB1.out.1.alloc HB1.out.1.size (.cells #[.int .u8 (o.k : Int), .string o.s, .int .i64 o.t, .int .i64 o.v] 27))
        have O2 := Lib.hid (HB1.out.2.alloc (.cells #[.int .u8 (o.k : Int), .string o.s, .int .i64 o.t, .int .i64 o.v] 27))
        obtain ⟨W2, hW⟩ : ∃ W, w1.alloc (.cells #[.int .u8 (o.k : Int), .string o.s, .int .i64 o.t, .int .i64 o.v] 27) = W := ⟨_, rfl⟩
        rw [hW] at hk D2 O2 ⊢
        have q0 := hk.cell 0
        have q1 := hk.cell 1
        have q2 := hk.cell 2
        have q3 := hk.cell 3
        have HK := Lib.hid hk
        clear hW hk
        go_wp2_with fail
        clear q0 q1 q2 q3
        refine (refRight6_any o W2).mono ?_
        rintro e w3 ⟨rfl, b3⟩
        have HB3 := Lib.hid (And.intro (below_next D2.out b3) (own_below O2.out b3))
        have hk := HK.out.below b3 HK.out.lt
        have q0 := hk.cell 0
        have q1 := hk.cell 1
        have q2 := hk.cell 2
        have q3 := hk.cell 3
        clear b3 hk
        by_cases h2 : Ev.right o = 0
        · rw [h2]
          have her : Ev.er (b.drop a) = 0 := by unfold Ev.er; rw [HNX.out.1]; simpa using h2
          have hu := Ev.nx_used (Ev.er_zero her).1
          have hst := Ev.psAll_with HNX.out.2.2 her X
          rw [HNX.out.1, HO.out.2.1] at hst
          rw [HNX.out.1] at hu
          dsimp only at hst hu
          rw [List.drop_drop, HNX.out.2.1] at hst
          rw [List.length_drop, hlen] at hu
          have HS := Lib.hid (And.intro hst hu)
          have hqa : a + 9 ≤ q ∧ q ≤ n := by have := HNX.out.2.1; omega
          clear hst hu her h2
          go_wp2_with (at_builtin; refine wpList_append_own _ rfl _ _ 24 rfl w.heap.size 27 i0 (.agg #[.int .u8 0, .string ⟨#[]⟩, .int .i64 0, .int .i64 0]) 4 40 Try.underlying24 HI.out.1 HI.out.2.1 HI.out.2.2.1 HI.out.2.2.2 rfl (by decide) _ X.length _ rfl (HB3.out.2.alloc _) ⟨w3.heap.size, 0, none⟩ 1 1 [.int .u8 (o.k : Int), .string o.s, .int .i64 o.t, .int .i64 o.v] rfl rfl (ecells4 w3 _ o) (by simp [Value.oneCell']) (by unfold maxLen; omega) (by omega) (by have := HB3.out.1.size; simp; omega) ?_; intro v' w4 hown hgrow _)
          have hb4 := grow_below HB3.out.1 hgrow (fun g hg => (HB3.out.2.lt g hg).1)
          refine ⟨⟨q, X ++ [o], hqa.2, rfl, ?_, HS.out.1.symm, by rw [List.length_append]; simp; omega, hb4⟩, by simp [intOf]; omega⟩
          rw [ecells_snoc, List.length_append]
          exact hown
        · have i3 : (Ev.right o != 0) = true := by rw [bne_iff_ne]; exact h2
          have i4 : (Ev.right o == 0) = false := by rw [beq_eq_false_iff_ne]; exact h2
          have her : Ev.er (b.drop a) = Ev.right o := by unfold Ev.er; rw [HNX.out.1]; simp
          have hpa : Ev.psAll b = (Ev.right o, []) := by
            rw [← HO.out.2.1, Ev.psAll_err HNX.out.2.2 (by rw [her]; exact h2), her]
            unfold Ev.with_
            rw [if_pos h2]
          have HP := Lib.hid hpa
          clear her hpa
          go_wp2_with fail
          go_ret2
          rw [HP.out]
          exact ⟨none, 0, rfl, own_nil _ _ _ _, HB3.out.1⟩
      · have i3 : (r != 0) = true := by rw [bne_iff_ne]; exact h1
        have i4 : (r == 0) = false := by rw [beq_eq_false_iff_ne]; exact h1
        have her : Ev.er (b.drop a) = r := by unfold Ev.er; rw [HNX.out.1]; simp [h1]
        have hpa : Ev.psAll b = (r, []) := by
          rw [← HO.out.2.1, Ev.psAll_err HNX.out.2.2 (by rw [her]; exact h1), her]
          unfold Ev.with_
          rw [if_pos h1]
        have HP := Lib.hid hpa
        clear her hpa
        go_wp2_with fail
        go_ret2
        rw [HP.out]
        exact ⟨none, 0, rfl, own_nil _ _ _ _, HB1.out.1.alloc HB1.out.1.size _⟩
    · obtain rfl : a = n := by omega
      obtain ⟨A1, c1, rfl⟩ := own_slice HO.out.1
      have hpa : Ev.psAll b = (0, X) := by
        rw [← HO.out.2.1, List.drop_eq_nil_of_le (by omega)]
        unfold Ev.with_
        rw [Ev.psAll_nil]
        simp
      have HP := Lib.hid hpa
      clear hpa
      go_wp2_with fail
      go_ret2
      rw [HP.out]
      exact ⟨A1, c1, rfl, HO.out.1, HO.out.2.2⟩
end Go.Proofs.Ytbcdacfmhjgfiaa
