/- Layer 6, the program: bytes parsed, as operations in a row. -/
import Derived.Test.YtbcdacfmhjgfiaaEvY
namespace Go.Proofs.Ytbcdacfmhjgfiaa
open Go.ChangeShapes Go.WideShapes Go.ChangeAt Go.RowKit

def leftOf (w : World) (g : Nat) : Nat := match w.cell? ⟨g, 0, none⟩ with | some (.slice _ n _) => n | _ => 0
theorem Rd.leftOf {w : World} {lo g : Nat} {l : List Nat} {f : Bool} (h : Rd w lo g l f) : leftOf w g = l.length := by
  obtain ⟨A, c, c0, -⟩ := h.cells
  unfold Go.Proofs.Ytbcdacfmhjgfiaa.leftOf
  rw [c0]
theorem Rd.grown {w w' : World} {lo g e s n : Nat} {l : List Nat} {f : Bool} {v : Value} {xs : List Value} (h : Rd w lo g l f) (hown : w.ownsRow (g + 1) e s v n xs) (hg : w.grownBy w' v.ownBlock) (hlg : lo ≤ g) : Rd w' lo g l f := by
  cases hv : v.ownBlock with
  | none => rw [hv] at hg; exact h.below (below_none hg) h.here
  | some k => rw [hv] at hg; exact h.kept hg (.inl (by have := (hown.lt k hv).1; omega)) hlg
theorem own_turn {w w' : World} {g e s n : Nat} {v : Value} {xs : List Value} (h : w.ownsRow (g + 1) e s v n xs) (hg : w.grownBy w' (some g)) : w'.ownsRow (g + 1) e s v n xs :=
  h.kept hg (by
    cases hv : v.ownBlock with
    | none => exact .inl rfl
    | some k => exact .inr (fun e => by injection e with e; have := (h.lt k hv).1; omega))
theorem nz_two (a b : Int) : nz [a, b] = if a = 0 then b else a := by
  unfold nz nz nz
  by_cases h : a = 0
  · by_cases h2 : b = 0 <;> simp [h, h2]
  · simp [h]
theorem er_of {l : List Nat} {o : Evo} {l' : List Nat} {f' : Bool} (h : (Ev.nx l).1 = 0 → o = (Ev.nx l).2.1 ∧ l' = l.drop (Ev.nx l).2.2 ∧ f' = false) : Ev.er l = nz [(Ev.nx l).1, Ev.right o] := by
  rw [nz_two]
  unfold Ev.er
  by_cases h1 : (Ev.nx l).1 = 0
  · rw [if_pos h1, if_pos h1, (h h1).1]
  · rw [if_neg h1, if_neg h1]
theorem Try.info26 : (Try.prog.info? 26).map (fun i => (i.zero, i.size, i.bytes)) = some (some (.agg #[.int .u8 0, .string ⟨#[]⟩, .int .i64 0, .int .i64 0]), 4, 40) := by kernel_rfl
set_option maxRecDepth 100000 in
set_option maxHeartbeats 4000000 in
theorem pParseAll_any (n c B : Nat) (A : Option Addr) (b : List Nat) (w : World) (hb : Bytes w B A n b) (hB : B ≤ w.heap.size) (hn : n ≤ 1000000) : Calls Try.prog 20 #[.slice A n c] w (OpsP 26 w (Ev.psAll b)) := by
  obtain ⟨i0, hi, hz0, hz1, hz2⟩ := info_parts Try.info26
  have HI := Lib.hid (And.intro hi (And.intro hz0 (And.intro hz1 hz2)))
  have HBL := Lib.hid hb.1
  have HB := Lib.hid hb
  clear hi hz0 hz1 hz2 hb
  go_enter Try.func20, Try.ntmps20
  go_wp2_with fail
  refine (of_any n c B A b _ HB.out hB hn).mono ?_
  rintro e w1 ⟨g, rfl, hr1, hg1, b1⟩
  have hlg := hr1.here
  obtain ⟨lo, hlo, hr1⟩ : ∃ lo, lo ≤ g ∧ Rd w1 lo g b false := ⟨_, hg1, hr1⟩
  have HR1 := Lib.hid (And.intro hr1 b1)
  have HG1 := Lib.hid hg1
  clear hr1 b1
  go_wp2_with fail
  go_loopw [4] (fun v wr => ∃ (a : Nat) (X : List Evo), a ≤ n ∧ Rd wr lo g (b.drop a) false ∧ wr.ownsRow (g + 1) 26 4 v X.length (ecells X) ∧ Ev.with_ X (Ev.psAll (b.drop a)) = Ev.psAll b ∧ X.length ≤ a ∧ Below w.heap.size w wr ∧ g < wr.heap.size) (fun _ wr => leftOf wr g)
  case atStart => exact ⟨0, [], by omega, by rw [List.drop_zero]; exact HR1.out.1, own_nil _ _ _ _, by rw [List.drop_zero]; exact Ev.with_nil b, by simp, HR1.out.2, hlg⟩
  case round =>
    obtain ⟨a, X, ha, hr, hown, hw, hXa, hbel, hgz⟩ := hrel
    have HO := Lib.hid (And.intro hown (And.intro hw hbel))
    have R0 := Lib.hid hr
    clear hown hw hbel hr
    obtain ⟨m, hm⟩ : ∃ m, (b.drop a).length = m := ⟨_, rfl⟩
    have hmn : m = n - a := by rw [← hm, List.length_drop, HBL.out]
    have HM := Lib.hid hm
    have HMN := Lib.hid hmn
    clear hm hmn
    go_wp2_with fail
    refine (left_any lo g _ _ _ R0.out).mono ?_
    rintro e w' ⟨rfl, rfl⟩
    rw [HM.out]
    by_cases hlt : a < n
    · have i1 : (0 : Int) < m := by have := HMN.out; omega
      have hne : b.drop a ≠ [] := by
        intro e
        have := HM.out
        rw [e] at this
        simp at this
        have := HMN.out
        omega
      have HNE := Lib.hid hne
      clear hne
      go_wp2_with fail
      refine (evTake_any lo g _ wr R0.out).mono ?_
      rintro e w2 ⟨o, l', f', rfl, hr2, hg2, hnx⟩
      have hz2 : g < w2.heap.size := hr2.here
      have O2 := own_turn HO.out.1 hg2
      have B2 : Below w.heap.size w w2 := HO.out.2.2.grown hg2 HO.out.2.2.size (fun k hk => by injection hk with hk; have := HR1.out.2.size; omega)
      have her := er_of hnx
      have hst := fun (h : Ev.er (b.drop a) = 0) => Ev.psAll_with HNE.out h X
      have hbad := fun (h : Ev.er (b.drop a) ≠ 0) => Ev.psAll_err HNE.out h
      obtain ⟨r0, hr0⟩ : ∃ x, (Ev.nx (b.drop a)).1 = x := ⟨_, rfl⟩
      obtain ⟨q0, hq0⟩ : ∃ x, Ev.right o = x := ⟨_, rfl⟩
      have HSM := Lib.hid (And.intro (nx_small (b.drop a)) (right_small o))
      have HRC := fun W => pRight6_any o W
      rw [hq0] at HRC her
      rw [hr0] at her
      rw [hr0, hq0] at HSM
      rw [hr0]
      have HRC' := Lib.hid HRC
      have HER := Lib.hid (And.intro her (And.intro hst (And.intro hbad (And.intro hnx hr0))))
      have hk := Blk.new w2 26 #[.int .u8 (o.k : Int), .string o.s, .int .i64 o.t, .int .i64 o.v]
      have R2 := Lib.hid (hr2.below (w' := w2.alloc (.cells #[.int .u8 (o.k : Int), .string o.s, .int .i64 o.t, .int .i64 o.v] 26)) ((Below.refl w2.heap.size w2).alloc (Nat.le_refl _) _) hz2)
      have O2 := Lib.hid (O2.alloc (.cells #[.int .u8 (o.k : Int), .string o.s, .int .i64 o.t, .int .i64 o.v] 26))
      have B2 := Lib.hid (B2.alloc B2.size (.cells #[.int .u8 (o.k : Int), .string o.s, .int .i64 o.t, .int .i64 o.v] 26))
      clear her hst hbad hnx hr0 hq0 HRC hr2 hg2
      go_upto_region 5 with (fail)
      obtain ⟨W2, hW⟩ : ∃ W, w2.alloc (.cells #[.int .u8 (o.k : Int), .string o.s, .int .i64 o.t, .int .i64 o.v] 26) = W := ⟨_, rfl⟩
      rw [hW] at hk R2 O2 B2 ⊢
      clear hW
      obtain ⟨⟨c0, c1, c2, c3⟩, -⟩ := cells4 hk
      have HK := Lib.hid hk
      clear hk
      go_wp2_with fail
      clear c0 c1 c2 c3
      refine (HRC'.out _).mono ?_
      rintro e w3 ⟨rfl, b3⟩
      have R3 := Lib.hid ((R2.out.below b3 R2.out.here).below (w' := w3.alloc (.cells #[.int .i64 r0, .int .i64 q0] 30)) ((Below.refl w3.heap.size w3).alloc (Nat.le_refl _) _) (Nat.lt_of_lt_of_le R2.out.here b3.size))
      have O3 := Lib.hid ((own_below O2.out b3).alloc (.cells #[.int .i64 r0, .int .i64 q0] 30))
      have B3 := Lib.hid ((below_next B2.out b3).alloc (below_next B2.out b3).size (.cells #[.int .i64 r0, .int .i64 q0] 30))
      have K3 := Lib.hid ((HK.out.below b3 HK.out.lt).below (w' := w3.alloc (.cells #[.int .i64 r0, .int .i64 q0] 30)) ((Below.refl w3.heap.size w3).alloc (Nat.le_refl _) _) (Nat.lt_of_lt_of_le HK.out.lt b3.size))
      have HT := Lib.hid (Ints.two (w := w3) (t := 30) HSM.out.1 HSM.out.2)
      clear b3
      go_wp2_with fail
      refine (orE_any 2 2 _ _ [r0, q0] _ HT.out (by omega)).mono ?_
      rintro e W3 ⟨rfl, rfl⟩
      obtain ⟨W3, hW⟩ : ∃ W, w3.alloc (.cells #[.int .i64 r0, .int .i64 q0] 30) = W := ⟨_, rfl⟩
      rw [hW] at R3 O3 B3 K3 ⊢
      clear hW HT
      rw [← HER.out.1]
      obtain ⟨⟨c0, c1, c2, c3⟩, -⟩ := cells4 K3.out
      by_cases h2 : Ev.er (b.drop a) = 0
      · rw [h2]
        have hst := HER.out.2.1 h2
        have h0 := Ev.er_zero h2
        have hnx := HER.out.2.2.2.1 h0.1
        have hu := Ev.nx_used h0.1
        rw [← hnx.1, HO.out.2.1, List.drop_drop] at hst
        rw [HM.out] at hu
        have hl' := hnx.2.1
        rw [List.drop_drop] at hl'
        obtain ⟨q, hq⟩ : ∃ q, a + (Ev.nx (b.drop a)).2.2 = q := ⟨_, rfl⟩
        rw [hq] at hst hl'
        have hqa : a + 9 ≤ q ∧ q ≤ n := by have := HMN.out; omega
        obtain rfl := hl'
        obtain rfl := hnx.2.2
        have HS := Lib.hid hst
        clear hst h0 hnx hu h2 hq
        have hgz3 : g < W3.heap.size := R3.out.here
        have hl4 := ecells4 W3 26 o
        have HL4 := Lib.hid hl4
        clear hl4
        go_wp2_with (at_builtin; refine wpList_append_own _ rfl _ _ 22 rfl (g + 1) 26 i0 (.agg #[.int .u8 0, .string ⟨#[]⟩, .int .i64 0, .int .i64 0]) 4 40 Try.underlying22 HI.out.1 HI.out.2.1 HI.out.2.2.1 HI.out.2.2.2 rfl (by decide) _ X.length _ rfl (O3.out.alloc _) ⟨W3.heap.size, 0, none⟩ 1 1 [.int .u8 (o.k : Int), .string o.s, .int .i64 o.t, .int .i64 o.v] rfl rfl HL4.out (by simp [Value.oneCell']) (by unfold maxLen; omega) (by omega) (by simp; omega) ?_; intro v' w4 hown hgrow _)
        have hb4 := grow_below B3.out hgrow (fun k hk => by have h1 := (O3.out.lt k hk).1; have := HR1.out.2.size; omega)
        have hr4 := (R3.out.below (w' := W3.alloc (.cells #[.int .u8 (o.k : Int), .string o.s, .int .i64 o.t, .int .i64 o.v] 26)) ((Below.refl W3.heap.size W3).alloc (Nat.le_refl _) _) R3.out.here).grown (O3.out.alloc _) hgrow hlo
        refine ⟨⟨q, X ++ [o], hqa.2, hr4, ?_, HS.out.symm, by rw [List.length_append]; simp; omega, hb4, hr4.here⟩, ?_⟩
        · rw [ecells_snoc, List.length_append]
          exact hown
        · rw [hr4.leftOf, R0.out.leftOf, List.length_drop, List.length_drop, HBL.out]; omega
      · have hbad := HER.out.2.2.1 h2
        have hpa : Ev.psAll b = (Ev.er (b.drop a), []) := by
          rw [← HO.out.2.1, hbad]
          unfold Ev.with_
          rw [if_pos h2]
        obtain ⟨en, hen⟩ : ∃ x, Ev.er (b.drop a) = x := ⟨_, rfl⟩
        rw [hen] at h2 hpa ⊢
        have i3 : (en != 0) = true := by rw [bne_iff_ne]; exact h2
        have i4 : (en == 0) = false := by rw [beq_eq_false_iff_ne]; exact h2
        have HP := Lib.hid hpa
        clear hbad hpa hen
        go_wp2_with fail
        go_ret2
        rw [HP.out]
        exact ⟨none, 0, rfl, own_nil _ _ _ _, B3.out⟩
    · obtain rfl : a = n := by omega
      obtain ⟨A1, c1, rfl⟩ := own_slice HO.out.1
      have hm0 : m = 0 := by have := HMN.out; omega
      have i1 : ¬ (0 : Int) < m := by omega
      have hpa : Ev.psAll b = (0, X) := by
        rw [← HO.out.2.1, List.drop_eq_nil_of_le (by rw [HBL.out]; exact Nat.le_refl _)]
        unfold Ev.with_
        rw [Ev.psAll_nil]
        simp
      have HP := Lib.hid hpa
      clear hpa hm0
      go_wp2_with fail
      go_ret2
      rw [HP.out]
      exact ⟨A1, c1, rfl, own_lower HO.out.1 (by have := HG1.out; omega), HO.out.2.2⟩
end Go.Proofs.Ytbcdacfmhjgfiaa
