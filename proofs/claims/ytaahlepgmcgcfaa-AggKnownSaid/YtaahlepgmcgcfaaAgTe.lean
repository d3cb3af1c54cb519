/- Stage 5's closed statement: AggTells, walked. -/
import Derived.Test.YtaahlepgmcgcfaaAgX
import Derived.Test.YtaahlepgmcgcfaaLaw5A
namespace Go.Proofs.Ytaahlepgmcgcfaa
open Go.ChangeShapes Go.WideShapes Go.ChangeAt Go.RowKit

def outR (o : Option Ag.A) : Int := if o.isSome then 0 else 30
theorem aggE_o {w w' : World} {o : Option Ag.A} {e : Ending} (h : AggE w o e w') : OutP w (o.getD Ag.none') (outR o) e w' := by
  cases o with
  | none => exact ⟨h.2, h.1⟩
  | some a => exact ⟨h.2, h.1⟩
theorem putE_o {w w' : World} {a : Ag.A} {o : Option Ag.A} {e : Ending} (h : PutE w a o e w') : OutP w (o.getD a) (outR o) e w' := by
  cases o with
  | none => exact ⟨h.2, h.1⟩
  | some a => exact ⟨h.2, h.1⟩
theorem ragg_self (x : Ag.A) (W : World) : (Op.equalIn 10000 55 (.agg #[.int .i64 x.c, .int .i64 x.s, .int .i64 x.lo, .int .i64 x.hi]) (.agg #[.int .i64 x.c, .int .i64 x.s, .int .i64 x.lo, .int .i64 x.hi])).run Try.prog W = .ok true W := by
  have := agg_equal x.c x.s x.lo x.hi x.c x.s x.lo x.hi W
  simpa using this
theorem all_one {v : Int} (h : i64ok v) : Ag.all [v] = some (Ag.one v) := by
  rw [all_yes (by unfold fitB; simp; exact h), Ag.of_one]
theorem ints_one (w : World) (t : TypeId) (a : Int) (ha : i64ok a) : Ints (w.alloc (.cells #[.int .i64 a] t)) (w.heap.size + 1) (some ⟨w.heap.size, 0, none⟩) 1 [a] := by
  have hk := Blk.new w t #[.int .i64 a]
  refine ⟨rfl, by intro x hx; simp at hx; subst hx; exact ha, fun _ => ⟨w.heap.size, 0, rfl, by omega, fun i hi => ?_⟩⟩
  obtain rfl : i = 0 := by omega
  rw [hk.cell]
  rfl
theorem outR_some (a : Ag.A) : outR (some a) = 0 := rfl
theorem refAll_one (v : Int) (W : World) (hv : i64ok v) {o : Ag.A} (ho : Ag.one v = o) : Calls Try.prog 40 #[.slice (some ⟨W.heap.size, 0, none⟩) 1 1] (W.alloc (.cells #[.int .i64 v] 2)) (OutP (W.alloc (.cells #[.int .i64 v] 2)) o 0) := by
  have h := refAll_any 1 1 _ _ [v] _ (ints_one W 2 v hv) (by simp) (by omega)
  rw [all_one hv, ho] at h
  refine h.mono fun e w' hq => ?_
  have h2 := aggE_o hq
  rw [outR_some] at h2
  exact h2
theorem one_o (v : Int) (W : World) {o : Ag.A} (ho : Ag.one v = o) : Calls Try.prog 25 #[.int .i64 v] W fun e w' => e = .returned (.agg #[.int .i64 o.c, .int .i64 o.s, .int .i64 o.lo, .int .i64 o.hi]) ∧ Below W.heap.size W w' := by
  have h := one_any v W
  rw [ho] at h
  exact h
theorem right_o (a : Ag.A) (W : World) {r : Bool} (hr : Ag.right a = r) : Calls Try.prog 20 #[.agg #[.int .i64 a.c, .int .i64 a.s, .int .i64 a.lo, .int .i64 a.hi]] W fun e w' => e = .returned (.bool r) ∧ Below W.heap.size W w' := by
  have h := right_any a W
  rw [hr] at h
  exact h
theorem refRight_o (a : Ag.A) (W : World) {r : Bool} (hr : Ag.right a = r) : Calls Try.prog 42 #[.agg #[.int .i64 a.c, .int .i64 a.s, .int .i64 a.lo, .int .i64 a.hi]] W fun e w' => e = .returned (.bool r) ∧ Below W.heap.size W w' := by
  have h := refRight_any a W
  rw [hr] at h
  exact h
theorem blank_o (a : Ag.A) (W : World) {r : Bool} (hr : Ag.blank a = r) : Calls Try.prog 37 #[.agg #[.int .i64 a.c, .int .i64 a.s, .int .i64 a.lo, .int .i64 a.hi]] W fun e w' => e = .returned (.bool r) ∧ Below W.heap.size W w' := by
  have h := blank_any a W
  rw [hr] at h
  exact h
theorem put_o (a : Ag.A) (v : Int) (W : World) (ha : aggOk a) (hv : i64ok v) {p : Ag.A} {g : Int} (hp : (Ag.put a v).getD a = p) (hg : outR (Ag.put a v) = g) : Calls Try.prog 22 #[.agg #[.int .i64 a.c, .int .i64 a.s, .int .i64 a.lo, .int .i64 a.hi], .int .i64 v] W (OutP W p g) := by
  refine (put_any a v W ha hv).mono fun e w' hq => ?_
  have h2 := putE_o hq
  rw [hp, hg] at h2
  exact h2
theorem refPut_o (a : Ag.A) (v : Int) (W : World) (ha : aggOk a) (hv : i64ok v) {p : Ag.A} {g : Int} (hp : (Ag.put a v).getD a = p) (hg : outR (Ag.put a v) = g) : Calls Try.prog 41 #[.agg #[.int .i64 a.c, .int .i64 a.s, .int .i64 a.lo, .int .i64 a.hi], .int .i64 v] W (OutP W p g) := by
  refine (refPut_any a v W ha hv).mono fun e w' hq => ?_
  have h2 := putE_o hq
  rw [hp, hg] at h2
  exact h2
theorem refAll_o (n c B : Nat) (A : Option Addr) (l : List Int) (w : World) (h : Ints w B A n l) (hB : B ≤ w.heap.size) (hn : n ≤ 1000000) {x : Ag.A} {r : Int} (hx : outA l = x) (hr : outE l = r) : Calls Try.prog 40 #[.slice A n c] w (OutP w x r) := by
  subst hx hr
  exact (refAll_any n c B A l w h hB hn).mono fun e w' hp => aggE_out hp
set_option maxRecDepth 100000 in
set_option maxHeartbeats 8000000 in
theorem aggTells_any (n c B : Nat) (A : Option Addr) (l : List Int) (a : Ag.A) (v : Int) (w : World) (h : Ints w B A n l) (hB : B ≤ w.heap.size) (hn : n ≤ 9223372036854775807) (ha : aggOk a) (hv : i64ok v) :
    Calls Try.prog 23 #[.slice A n c, .agg #[.int .i64 a.c, .int .i64 a.s, .int .i64 a.lo, .int .i64 a.hi], .int .i64 v] w fun e w' => e = .returned (.bool true) ∧ Below w.heap.size w w' := by
  have S0 := Lib.hid ((Held.start w).new #[.int .i64 a.c, .int .i64 a.s, .int .i64 a.lo, .int .i64 a.hi] 33)
  by_cases h60 : 60 < n
  · go_enter Try.func23, Try.ntmps23
    go_wp2_with fail
    refine (works_any _).mono ?_
    rintro e w5 ⟨rfl, b5⟩
    go_wp2_with fail
    go_ret
    exact ⟨rfl, S0.out.1.trans (b5.mono S0.out.1.size)⟩
  obtain ⟨x, hx⟩ : ∃ x, outA l = x := ⟨_, rfl⟩
  obtain ⟨y, hy⟩ : ∃ x, outE l = x := ⟨_, rfl⟩
  obtain ⟨p, hp⟩ : ∃ p, (Ag.put a v).getD a = p := ⟨_, rfl⟩
  obtain ⟨g, hg⟩ : ∃ g, outR (Ag.put a v) = g := ⟨_, rfl⟩
  obtain ⟨o, ho⟩ : ∃ o, Ag.one v = o := ⟨_, rfl⟩
  obtain ⟨rr, hrr⟩ : ∃ r, Ag.right a = r := ⟨_, rfl⟩
  obtain ⟨bl, hbl⟩ : ∃ r, Ag.blank a = r := ⟨_, rfl⟩
  have CAll := Lib.hid (fun W (hW : Below w.heap.size w W) => all_out n c B A l W (h.below hW hB) (Nat.le_trans hB hW.size) (by omega) hx hy)
  have CRef := Lib.hid (fun W (hW : Below w.heap.size w W) => refAll_o n c B A l W (h.below hW hB) (Nat.le_trans hB hW.size) (by omega) hx hy)
  have CPut := Lib.hid (fun W => put_o a v W ha hv hp hg)
  have CRPut := Lib.hid (fun W => refPut_o a v W ha hv hp hg)
  have CRone := Lib.hid (fun W => refAll_one v W hv ho)
  have COne := Lib.hid (fun W => one_o v W ho)
  have C1 := Lib.hid (fun W => right_o a W hrr)
  have C2 := Lib.hid (fun W => refRight_o a W hrr)
  have C3 := Lib.hid (fun W => blank_o a W hbl)
  have q1 := fun W => ragg_self x W
  have q2 := fun W => ragg_self p W
  have q3 := fun W => ragg_self o W
  have q4 := fun W => pagg_blank a W
  rw [hbl] at q4
  have g1 := agg_guard
  have g2 := pagg_guard
  have QQ := Lib.hid (And.intro q1 (And.intro q2 (And.intro q3 (And.intro q4 (And.intro g1 g2)))))
  clear h hB hx hy hp hg ho hrr hbl ha hv q1 q2 q3 q4 g1 g2
  go_enter Try.func23, Try.ntmps23
  go_wp2_with fail
  refine (CAll.out _ S0.out.1).mono ?_
  rintro e w1 ⟨rfl, b1⟩
  have S1 := Lib.hid ((S0.out.step b1).new #[.int .i64 x.c, .int .i64 x.s, .int .i64 x.lo, .int .i64 x.hi] 33)
  clear b1 S0
  obtain ⟨W1, hW1⟩ : ∃ W, w1.alloc (.cells #[.int .i64 x.c, .int .i64 x.s, .int .i64 x.lo, .int .i64 x.hi] 33) = W := ⟨_, rfl⟩
  rw [hW1] at S1
  go_wp2_with fail
  clear hW1
  refine (CRef.out _ S1.out.1).mono ?_
  rintro e w2 ⟨rfl, b1⟩
  have S2 := Lib.hid ((S1.out.step b1).new #[.int .i64 x.c, .int .i64 x.s, .int .i64 x.lo, .int .i64 x.hi] 55)
  clear b1 S1
  obtain ⟨W2, hW2⟩ : ∃ W, w2.alloc (.cells #[.int .i64 x.c, .int .i64 x.s, .int .i64 x.lo, .int .i64 x.hi] 55) = W := ⟨_, rfl⟩
  rw [hW2] at S2
  have hk0 := S2.out.at_ (List.mem_cons_of_mem _ (List.mem_cons_of_mem _ (List.mem_cons_self ..)))
  have p0 := hk0.cell 0
  have p1 := hk0.cell 1
  have p2 := hk0.cell 2
  have p3 := hk0.cell 3
  clear hk0
  go_wp2_with fail
  clear hW2 p0 p1 p2 p3
  refine (CPut.out _).mono ?_
  rintro e w3 ⟨rfl, b1⟩
  have S3 := Lib.hid ((S2.out.step b1).new #[.int .i64 p.c, .int .i64 p.s, .int .i64 p.lo, .int .i64 p.hi] 33)
  clear b1 S2
  obtain ⟨W3, hW3⟩ : ∃ W, w3.alloc (.cells #[.int .i64 p.c, .int .i64 p.s, .int .i64 p.lo, .int .i64 p.hi] 33) = W := ⟨_, rfl⟩
  rw [hW3] at S3
  have hk0 := S3.out.at_ (List.mem_cons_of_mem _ (List.mem_cons_of_mem _ (List.mem_cons_of_mem _ (List.mem_cons_self ..))))
  have p0 := hk0.cell 0
  have p1 := hk0.cell 1
  have p2 := hk0.cell 2
  have p3 := hk0.cell 3
  clear hk0
  go_wp2_with fail
  clear hW3 p0 p1 p2 p3
  refine (ref_any a.c a.s a.lo a.hi _).mono ?_
  rintro e w4 ⟨rfl, b1⟩
  have S4 := Lib.hid (S3.out.step b1)
  clear b1 S3
  go_wp2_with fail
  refine (CRPut.out _).mono ?_
  rintro e w5 ⟨rfl, b1⟩
  have S5 := Lib.hid ((S4.out.step b1).new #[.int .i64 p.c, .int .i64 p.s, .int .i64 p.lo, .int .i64 p.hi] 55)
  clear b1 S4
  obtain ⟨W5, hW5⟩ : ∃ W, w5.alloc (.cells #[.int .i64 p.c, .int .i64 p.s, .int .i64 p.lo, .int .i64 p.hi] 55) = W := ⟨_, rfl⟩
  rw [hW5] at S5
  go_wp2_with fail
  clear hW5
  refine (CRone.out _).mono ?_
  rintro e w6 ⟨rfl, b1⟩
  have S6 := Lib.hid (((S5.out.step ((Below.refl _ _).alloc (Nat.le_refl _) _)).step b1).new #[.int .i64 o.c, .int .i64 o.s, .int .i64 o.lo, .int .i64 o.hi] 55)
  clear b1 S5
  obtain ⟨wc, hwc⟩ : ∃ W, w6.alloc (.cells #[.int .i64 o.c, .int .i64 o.s, .int .i64 o.lo, .int .i64 o.hi] 55) = W := ⟨_, rfl⟩
  rw [hwc] at S6
  have P : Hid (∀ W, Below wc.heap.size wc W → W.cell? ⟨w.heap.size, 0, none⟩ = some (.int .i64 a.c) ∧ W.cell? ⟨w.heap.size, 1, none⟩ = some (.int .i64 a.s) ∧ W.cell? ⟨w.heap.size, 2, none⟩ = some (.int .i64 a.lo) ∧ W.cell? ⟨w.heap.size, 3, none⟩ = some (.int .i64 a.hi) ∧ W.cell? ⟨w1.heap.size, 0, none⟩ = some (.int .i64 x.c) ∧ W.cell? ⟨w1.heap.size, 1, none⟩ = some (.int .i64 x.s) ∧ W.cell? ⟨w1.heap.size, 2, none⟩ = some (.int .i64 x.lo) ∧ W.cell? ⟨w1.heap.size, 3, none⟩ = some (.int .i64 x.hi) ∧ W.cell? ⟨w2.heap.size, 0, none⟩ = some (.int .i64 x.c) ∧ W.cell? ⟨w2.heap.size, 1, none⟩ = some (.int .i64 x.s) ∧ W.cell? ⟨w2.heap.size, 2, none⟩ = some (.int .i64 x.lo) ∧ W.cell? ⟨w2.heap.size, 3, none⟩ = some (.int .i64 x.hi) ∧ W.cell? ⟨w3.heap.size, 0, none⟩ = some (.int .i64 p.c) ∧ W.cell? ⟨w3.heap.size, 1, none⟩ = some (.int .i64 p.s) ∧ W.cell? ⟨w3.heap.size, 2, none⟩ = some (.int .i64 p.lo) ∧ W.cell? ⟨w3.heap.size, 3, none⟩ = some (.int .i64 p.hi) ∧ W.cell? ⟨w5.heap.size, 0, none⟩ = some (.int .i64 p.c) ∧ W.cell? ⟨w5.heap.size, 1, none⟩ = some (.int .i64 p.s) ∧ W.cell? ⟨w5.heap.size, 2, none⟩ = some (.int .i64 p.lo) ∧ W.cell? ⟨w5.heap.size, 3, none⟩ = some (.int .i64 p.hi) ∧ W.cell? ⟨w6.heap.size, 0, none⟩ = some (.int .i64 o.c) ∧ W.cell? ⟨w6.heap.size, 1, none⟩ = some (.int .i64 o.s) ∧ W.cell? ⟨w6.heap.size, 2, none⟩ = some (.int .i64 o.lo) ∧ W.cell? ⟨w6.heap.size, 3, none⟩ = some (.int .i64 o.hi)) := Lib.hid fun W hW => by
      have h := S6.out.step hW
      have k0 := h.at_ (List.mem_cons_of_mem _ (List.mem_cons_of_mem _ (List.mem_cons_of_mem _ (List.mem_cons_of_mem _ (List.mem_cons_of_mem _ (List.mem_cons_self ..))))))
      have k1 := h.at_ (List.mem_cons_of_mem _ (List.mem_cons_of_mem _ (List.mem_cons_of_mem _ (List.mem_cons_of_mem _ (List.mem_cons_self ..)))))
      have k2 := h.at_ (List.mem_cons_of_mem _ (List.mem_cons_of_mem _ (List.mem_cons_of_mem _ (List.mem_cons_self ..))))
      have k3 := h.at_ (List.mem_cons_of_mem _ (List.mem_cons_of_mem _ (List.mem_cons_self ..)))
      have k4 := h.at_ (List.mem_cons_of_mem _ (List.mem_cons_self ..))
      have k5 := h.at_ (List.mem_cons_self ..)
      refine ⟨k0.cell 0, k0.cell 1, k0.cell 2, k0.cell 3, k1.cell 0, k1.cell 1, k1.cell 2, k1.cell 3, k2.cell 0, k2.cell 1, k2.cell 2, k2.cell 3, k3.cell 0, k3.cell 1, k3.cell 2, k3.cell 3, k4.cell 0, k4.cell 1, k4.cell 2, k4.cell 3, k5.cell 0, k5.cell 1, k5.cell 2, k5.cell 3⟩
  have E0 : Hid (Below wc.heap.size wc wc.drew) := Lib.hid (Below.refl _ _).drew
  clear CAll CRef CPut CRPut CRone
  have q1 := QQ.out.1
  have q2 := QQ.out.2.1
  have q3 := QQ.out.2.2.1
  have q4 := QQ.out.2.2.2.1
  have g1 := QQ.out.2.2.2.2.1
  have g2 := QQ.out.2.2.2.2.2
  go_wp2_with fail
  clear hwc
  go_region_held3 (fun W => W.cell? ⟨w.heap.size, 0, none⟩ = some (.int .i64 a.c) ∧ W.cell? ⟨w.heap.size, 1, none⟩ = some (.int .i64 a.s) ∧ W.cell? ⟨w.heap.size, 2, none⟩ = some (.int .i64 a.lo) ∧ W.cell? ⟨w.heap.size, 3, none⟩ = some (.int .i64 a.hi) ∧ W.cell? ⟨w1.heap.size, 0, none⟩ = some (.int .i64 x.c) ∧ W.cell? ⟨w1.heap.size, 1, none⟩ = some (.int .i64 x.s) ∧ W.cell? ⟨w1.heap.size, 2, none⟩ = some (.int .i64 x.lo) ∧ W.cell? ⟨w1.heap.size, 3, none⟩ = some (.int .i64 x.hi) ∧ W.cell? ⟨w2.heap.size, 0, none⟩ = some (.int .i64 x.c) ∧ W.cell? ⟨w2.heap.size, 1, none⟩ = some (.int .i64 x.s) ∧ W.cell? ⟨w2.heap.size, 2, none⟩ = some (.int .i64 x.lo) ∧ W.cell? ⟨w2.heap.size, 3, none⟩ = some (.int .i64 x.hi) ∧ W.cell? ⟨w3.heap.size, 0, none⟩ = some (.int .i64 p.c) ∧ W.cell? ⟨w3.heap.size, 1, none⟩ = some (.int .i64 p.s) ∧ W.cell? ⟨w3.heap.size, 2, none⟩ = some (.int .i64 p.lo) ∧ W.cell? ⟨w3.heap.size, 3, none⟩ = some (.int .i64 p.hi) ∧ W.cell? ⟨w5.heap.size, 0, none⟩ = some (.int .i64 p.c) ∧ W.cell? ⟨w5.heap.size, 1, none⟩ = some (.int .i64 p.s) ∧ W.cell? ⟨w5.heap.size, 2, none⟩ = some (.int .i64 p.lo) ∧ W.cell? ⟨w5.heap.size, 3, none⟩ = some (.int .i64 p.hi) ∧ W.cell? ⟨w6.heap.size, 0, none⟩ = some (.int .i64 o.c) ∧ W.cell? ⟨w6.heap.size, 1, none⟩ = some (.int .i64 o.s) ∧ W.cell? ⟨w6.heap.size, 2, none⟩ = some (.int .i64 o.lo) ∧ W.cell? ⟨w6.heap.size, 3, none⟩ = some (.int .i64 o.hi)) (first | with_reducible exact P.out _ E0.out | with_reducible exact P.out _ E1.out | with_reducible exact P.out _ E2.out | with_reducible exact P.out _ E3.out | with_reducible exact P.out _ E4.out | with_reducible exact P.out _ E5.out | with_reducible exact P.out _ E6.out | with_reducible exact P.out _ E7.out | with_reducible exact P.out _ E8.out | with_reducible exact P.out _ E9.out | fail) (first
    | (go_at_call 27; (with_reducible refine (ref_any x.c x.s x.lo x.hi wc.drew).mono ?_); rintro e V1 ⟨rfl, b1⟩; have E1 := Lib.hid (below_next E0.out b1); clear b1)
    | (go_at_call 27; (with_reducible refine (ref_any p.c p.s p.lo p.hi V1).mono ?_); rintro e V2 ⟨rfl, b2⟩; have E2 := Lib.hid (below_next E1.out b2); clear b2)
    | (go_at_call 25; (with_reducible refine (COne.out V2).mono ?_); rintro e V3 ⟨rfl, b3⟩; have E3 := Lib.hid (below_next E2.out b3); clear b3)
    | (go_at_call 27; (with_reducible refine (ref_any o.c o.s o.lo o.hi V3).mono ?_); rintro e V4 ⟨rfl, b4⟩; have E4 := Lib.hid (below_next E3.out b4); clear b4)
    | (go_at_call 20; (with_reducible refine (C1.out V4).mono ?_); rintro e V5 ⟨rfl, b5⟩; have E5 := Lib.hid (below_next E4.out b5); clear b5)
    | (go_at_call 27; (with_reducible refine (ref_any a.c a.s a.lo a.hi V5).mono ?_); rintro e V6 ⟨rfl, b6⟩; have E6 := Lib.hid (below_next E5.out b6); clear b6)
    | (go_at_call 42; (with_reducible refine (C2.out V6).mono ?_); rintro e V7 ⟨rfl, b7⟩; have E7 := Lib.hid (below_next E6.out b7); clear b7)
    | (go_at_call 37; (with_reducible refine (C3.out V7).mono ?_); rintro e V8 ⟨rfl, b8⟩; have E8 := Lib.hid (below_next E7.out b8); clear b8)
    | (go_at_call 7; (with_reducible refine (works_any V8).mono ?_); rintro e V9 ⟨rfl, b9⟩; have E9 := Lib.hid (below_next E8.out b9); clear b9))
  go_wp2_with fail
  go_ret
  exact ⟨rfl, S6.out.1.trans (E9.out.mono S6.out.1.size)⟩
end Go.Proofs.Ytaahlepgmcgcfaa
