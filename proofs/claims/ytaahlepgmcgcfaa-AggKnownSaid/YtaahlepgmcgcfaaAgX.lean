/- AggParts, walked. -/
import Derived.Test.YtaahlepgmcgcfaaAgM
import Derived.Test.YtaahlepgmcgcfaaAgW
import Derived.Test.YtaahlepgmcgcfaaPick
namespace Go.Proofs.Ytaahlepgmcgcfaa
open Go.ChangeShapes Go.WideShapes Go.ChangeAt Go.RowKit

theorem agg_lit4 (W : World) (a b c d : Ag.A) (ha : aggOk a) (hb : aggOk b) (hc : aggOk c) (hd : aggOk d) (cs : Array Value) (h : cs = (acells [a, b, c, d]).toArray) (g : Nat) (hg : g = W.heap.size) : Aggs (W.alloc (.cells cs 33)) (W.heap.size + 1) (some ⟨g, 0, none⟩) 4 [a, b, c, d] := by
  subst h hg
  refine ⟨rfl, by simp; exact ⟨ha, hb, hc, hd⟩, fun _ => ⟨W.heap.size, 0, rfl, by omega, fun i hi => ?_⟩⟩
  have hk := Blk.new W 33 (acells [a, b, c, d]).toArray
  obtain ⟨e1, e2, e3, e4⟩ := acells_at [a, b, c, d] i hi
  rw [Nat.zero_add, hk.cell, hk.cell, hk.cell, hk.cell]
  simp only [List.getElem?_toArray]
  exact ⟨e1, e2, e3, e4⟩
section
variable (W : World) {la lb lc l : List Int} {x0 x1 x2 x3 : Ag.A} {y0 : Int} (hp : la ++ lb ++ lc = l) (hl : l.length ≤ 1000) (hk : ∀ x ∈ l, i64ok x) (h0 : outA l = x0) (h1 : outA la = x1) (h2 : outA lb = x2) (h3 : outA lc = x3) (g0 : outE l = y0) (g1 : outE la = 0) (g2 : outE lb = 0) (g3 : outE lc = 0)
include hp hl hk h0 h1 h2 h3 g0 g1 g2 g3
theorem joins_three : Calls Try.prog 21 #[.slice (some ⟨W.heap.size, 0, none⟩) 3 3] (W.alloc (.cells #[.int .i64 x1.c, .int .i64 x1.s, .int .i64 x1.lo, .int .i64 x1.hi, .int .i64 x2.c, .int .i64 x2.s, .int .i64 x2.lo, .int .i64 x2.hi, .int .i64 x3.c, .int .i64 x3.s, .int .i64 x3.lo, .int .i64 x3.hi] 33)) (OutP (W.alloc (.cells #[.int .i64 x1.c, .int .i64 x1.s, .int .i64 x1.lo, .int .i64 x1.hi, .int .i64 x2.c, .int .i64 x2.s, .int .i64 x2.lo, .int .i64 x2.hi, .int .i64 x3.c, .int .i64 x3.s, .int .i64 x3.lo, .int .i64 x3.hi] 33)) x0 y0) := by
  subst hp h0 h1 h2 h3 g0
  have ka : aggOk (outA la) := outA_ok (fun x hx => hk x (by simp [hx])) (by simp at hl; omega)
  have kb : aggOk (outA lb) := outA_ok (fun x hx => hk x (by simp [hx])) (by simp at hl; omega)
  have kc : aggOk (outA lc) := outA_ok (fun x hx => hk x (by simp [hx])) (by simp at hl; omega)
  have := join_any 3 3 (W.heap.size + 1) _ _ _ (agg_lit W _ _ _ ka kb kc _ rfl _ rfl) (by simp) (by omega)
  rw [join_three g1 g2 g3 hl] at this
  exact this.mono fun e w' hp => aggE_out hp
theorem joins_four : Calls Try.prog 21 #[.slice (some ⟨W.heap.size, 0, none⟩) 4 4] (W.alloc (.cells #[.int .i64 x3.c, .int .i64 x3.s, .int .i64 x3.lo, .int .i64 x3.hi, .int .i64 x1.c, .int .i64 x1.s, .int .i64 x1.lo, .int .i64 x1.hi, .int .i64 0, .int .i64 0, .int .i64 0, .int .i64 0, .int .i64 x2.c, .int .i64 x2.s, .int .i64 x2.lo, .int .i64 x2.hi] 33)) (OutP (W.alloc (.cells #[.int .i64 x3.c, .int .i64 x3.s, .int .i64 x3.lo, .int .i64 x3.hi, .int .i64 x1.c, .int .i64 x1.s, .int .i64 x1.lo, .int .i64 x1.hi, .int .i64 0, .int .i64 0, .int .i64 0, .int .i64 0, .int .i64 x2.c, .int .i64 x2.s, .int .i64 x2.lo, .int .i64 x2.hi] 33)) x0 y0) := by
  subst hp h0 h1 h2 h3 g0
  have ka : aggOk (outA la) := outA_ok (fun x hx => hk x (by simp [hx])) (by simp at hl; omega)
  have kb : aggOk (outA lb) := outA_ok (fun x hx => hk x (by simp [hx])) (by simp at hl; omega)
  have kc : aggOk (outA lc) := outA_ok (fun x hx => hk x (by simp [hx])) (by simp at hl; omega)
  have := join_any 4 4 (W.heap.size + 1) _ _ _ (agg_lit4 W _ _ _ _ kc ka none_ok kb _ rfl _ rfl) (by simp) (by omega)
  rw [join_four g1 g2 g3 hl] at this
  exact this.mono fun e w' hp => aggE_out hp
end
theorem pagg_self (x : Ag.A) (W : World) : (Op.equalIn 10000 33 (.agg #[.int .i64 x.c, .int .i64 x.s, .int .i64 x.lo, .int .i64 x.hi]) (.agg #[.int .i64 x.c, .int .i64 x.s, .int .i64 x.lo, .int .i64 x.hi])).run Try.prog W = .ok true W := by
  have := pagg_same x x W
  rw [(aeq_iff x x).2 rfl] at this
  exact this

theorem Held.upd {w W : World} {l : List (Nat × TypeId × Array Value)} {g T : Nat} {x0 x1 x2 x3 : Value} {N : Nat × TypeId × Array Value} (h : Held w W (N :: (g, T, #[x0, x1, x2, x3]) :: l)) (hg : w.heap.size ≤ g) (hl : ∀ x ∈ l, x.1 ≠ g) (y0 y1 y2 y3 : Value) : Held w ((((W.setCell ⟨g, 0, none⟩ y0).setCell ⟨g, 1, none⟩ y1).setCell ⟨g, 2, none⟩ y2).setCell ⟨g, 3, none⟩ y3) ((g, T, #[y0, y1, y2, y3]) :: l) := by
  refine ⟨below_four' h.1 hg _ _ _ _, fun x hx => ?_⟩
  rcases List.mem_cons.1 hx with rfl | hx
  · exact blk_four (h.2 _ (List.mem_cons_of_mem _ (List.mem_cons_self ..))) _ _ _ _
  · have := h.2 x (List.mem_cons_of_mem _ (List.mem_cons_of_mem _ hx))
    have e : g ≠ x.1 := fun e => hl x hx e.symm
    exact (((this.far e _).far e _).far e _).far e _
/-- What a Put of the value at j tells. -/
theorem put_out {l : List Int} {j : Nat} (hj : j < l.length) (hl : l.length ≤ 1000) (hk : ∀ x ∈ l, i64ok x) (hf : fitB (l.take j).sum = true) {v : Int} (hv : l.getD j 0 = v) (hvk : i64ok v) {x : Ag.A} (hx : Ag.of (l.take j) = x) :
    ∃ (z : Ag.A) (r : Int), ((r = 0 ∧ Ag.of (l.take (j + 1)) = z ∧ fitB (l.take (j + 1)).sum = true) ∨ (r = 30 ∧ z = x)) ∧ ∀ W, Calls Try.prog 22 #[.agg #[.int .i64 x.c, .int .i64 x.s, .int .i64 x.lo, .int .i64 x.hi], .int .i64 v] W (OutP W z r) := by
  have ho : aggOk x := by rw [← hx]; exact of_ok (fun y hy => hk y (List.mem_of_mem_take hy)) (by simp; omega) hf
  have hp := put_round hj hl
  rw [hv, hx] at hp
  rcases hb : fitB (l.take (j + 1)).sum with _ | _
  · rw [all_no hb] at hp
    refine ⟨x, 30, .inr ⟨rfl, rfl⟩, fun W => (put_any x v W ho hvk).mono fun e w' h => ?_⟩
    rw [hp] at h
    exact ⟨h.2, h.1⟩
  · rw [all_yes hb] at hp
    refine ⟨_, 0, .inl ⟨rfl, rfl, rfl⟩, fun W => (put_any x v W ho hvk).mono fun e w' h => ?_⟩
    rw [hp] at h
    exact ⟨h.2, h.1⟩

set_option maxRecDepth 100000 in
set_option maxHeartbeats 8000000 in
theorem aggParts_any (n c : Nat) (A : Option Addr) (l : List Int) (at_ by_ : Int) (w : World) (h : Ints w w.heap.size A n l) (hn : n ≤ 9223372036854775807) (hc : n ≤ c) :
    Calls Try.prog 4 #[.slice A n c, .int .i64 at_, .int .i64 by_] w fun e w' => e = .returned (.bool true) ∧ Below w.heap.size w w' := by
  by_cases h60 : 60 < n
  · go_enter Try.func4, Try.ntmps4
    go_wp2_with (go_at_call 7; (with_reducible refine (works_any _).mono ?_); rintro e w5 ⟨rfl, b5⟩)
    go_ret
    exact ⟨rfl, b5⟩
  obtain ⟨i0, hi, hz0, hz1, hz2⟩ := info_parts Try.info2
  obtain ⟨k, hk, hp1⟩ := pick_any at_ (n + 1) w (by omega) (by omega)
  obtain ⟨q, hq, hp2⟩ := pick_any by_ (n - k + 1) w (by omega) (by omega)
  have e1 : ((n + 1 : Nat) : Int) = (n : Int) + 1 := by omega
  have e2 : ((n - k + 1 : Nat) : Int) = (n : Int) - k + 1 := by omega
  rw [e1] at hp1
  rw [e2] at hp2
  have r1 := run_cut_h (P := Try.prog) 41 2 i0 Try.underlying41 hi A n c k (by omega)
  obtain ⟨A2, n2, c2, r2, hn2, hI2⟩ : ∃ A2 n2 c2, (∀ W, (Instr.sliceAt 41 (.slice A n c) (some (.int .i64 (k : Int))) (some (.int .i64 ((k : Int) + q))) none).run Try.prog W = .ok (.slice A2 n2 c2) W) ∧ n2 ≤ n ∧ Ints w w.heap.size A2 n2 ((l.take (k + q)).drop k) :=
    ⟨_, _, _, run_cut_lh (P := Try.prog) 41 2 i0 Try.underlying41 hi hz1 A n c k (k + q) ((k : Int) + q) (by omega) (by omega) (by omega), by omega, (h.head (j := k + q) (by omega)).cut (by omega) (by omega)⟩
  obtain ⟨A3, n3, c3, r3, hn3, hI3⟩ : ∃ A3 n3 c3, (∀ W, (Instr.sliceAt 41 (.slice A n c) (some (.int .i64 ((k : Int) + q))) none none).run Try.prog W = .ok (.slice A3 n3 c3) W) ∧ n3 ≤ n ∧ Ints w w.heap.size A3 n3 (l.drop (k + q)) :=
    ⟨_, _, _, run_cut_l (P := Try.prog) 41 2 i0 Try.underlying41 hi hz1 A n c (k + q) ((k : Int) + q) (by omega) (by omega), by omega, h.cut (by omega) (by omega)⟩
  have hI1 : Ints w w.heap.size A k (l.take k) := h.head (by omega)
  have hparts := three_parts l k (k + q) (by omega)
  have hlen := h.1
  have hall : ∀ x ∈ l, i64ok x := h.2.1
  obtain ⟨la, hla⟩ : ∃ la, l.take k = la := ⟨_, rfl⟩
  obtain ⟨lb, hlb⟩ : ∃ lb, (l.take (k + q)).drop k = lb := ⟨_, rfl⟩
  obtain ⟨lc, hlc⟩ : ∃ lc, l.drop (k + q) = lc := ⟨_, rfl⟩
  rw [hla, hlb, hlc] at hparts
  rw [hla] at hI1
  rw [hlb] at hI2
  rw [hlc] at hI3
  clear hla hlb hlc
  obtain ⟨x0, hx0⟩ : ∃ x, outA l = x := ⟨_, rfl⟩
  obtain ⟨x1, hx1⟩ : ∃ x, outA la = x := ⟨_, rfl⟩
  obtain ⟨x2, hx2⟩ : ∃ x, outA lb = x := ⟨_, rfl⟩
  obtain ⟨x3, hx3⟩ : ∃ x, outA lc = x := ⟨_, rfl⟩
  obtain ⟨y0, hy0⟩ : ∃ x, outE l = x := ⟨_, rfl⟩
  obtain ⟨y1, hy1⟩ : ∃ x, outE la = x := ⟨_, rfl⟩
  obtain ⟨y2, hy2⟩ : ∃ x, outE lb = x := ⟨_, rfl⟩
  obtain ⟨y3, hy3⟩ : ∃ x, outE lc = x := ⟨_, rfl⟩
  have C0 := Lib.hid (fun W (hW : Below w.heap.size w W) => all_out n c w.heap.size A l W (h.below hW (Nat.le_refl _)) hW.size (by omega) hx0 hy0)
  have C1 := Lib.hid (fun W (hW : Below w.heap.size w W) => all_out k c w.heap.size A la W (hI1.below hW (Nat.le_refl _)) hW.size (by omega) hx1 hy1)
  have C2 := Lib.hid (fun W (hW : Below w.heap.size w W) => all_out n2 c2 w.heap.size A2 lb W (hI2.below hW (Nat.le_refl _)) hW.size (by omega) hx2 hy2)
  have C3 := Lib.hid (fun W (hW : Below w.heap.size w W) => all_out n3 c3 w.heap.size A3 lc W (hI3.below hW (Nat.le_refl _)) hW.size (by omega) hx3 hy3)
  have t0 : Ag.right x0 = true := by rw [← hx0]; exact outA_right _
  have t1 : Ag.right x1 = true := by rw [← hx1]; exact outA_right _
  have t2 : Ag.right x2 = true := by rw [← hx2]; exact outA_right _
  have t3 : Ag.right x3 = true := by rw [← hx3]; exact outA_right _
  have RT := Lib.hid (And.intro t0 (And.intro t1 (And.intro t2 t3)))
  have HX := Lib.hid (And.intro hx0 (And.intro hx1 (And.intro hx2 (And.intro hx3 (And.intro hy0 (And.intro hy1 (And.intro hy2 hy3)))))))
  have HH := Lib.hid (And.intro h (And.intro hparts (And.intro hlen hall)))
  have S0 := Lib.hid (Held.start w)
  clear h hI1 hI2 hI3 hparts hlen hall hx0 hx1 hx2 hx3 hy0 hy1 hy2 hy3 t0 t1 t2 t3 hn2 hn3 hi hz0 hz1 hz2
  go_enter Try.func4, Try.ntmps4
  go_wp2_with fail
  refine hp1.mono ?_
  rintro e w' ⟨rfl, rfl⟩
  go_wp2_with fail
  refine hp2.mono ?_
  rintro e w' ⟨rfl, rfl⟩
  go_wp2_with fail
  refine (C0.out _ S0.out.1).mono ?_
  rintro e w1 ⟨rfl, b1⟩
  have S1 := Lib.hid ((S0.out.step b1).new #[.int .i64 x0.c, .int .i64 x0.s, .int .i64 x0.lo, .int .i64 x0.hi] 33)
  clear b1 S0
  obtain ⟨W1, hW1⟩ : ∃ W, w1.alloc (.cells #[.int .i64 x0.c, .int .i64 x0.s, .int .i64 x0.lo, .int .i64 x0.hi] 33) = W := ⟨_, rfl⟩
  rw [hW1] at S1
  go_wp2_with fail
  clear hW1
  refine (C1.out _ S1.out.1).mono ?_
  rintro e w2 ⟨rfl, b1⟩
  have S2 := Lib.hid ((S1.out.step b1).new #[.int .i64 x1.c, .int .i64 x1.s, .int .i64 x1.lo, .int .i64 x1.hi] 33)
  clear b1 S1
  obtain ⟨W2, hW2⟩ : ∃ W, w2.alloc (.cells #[.int .i64 x1.c, .int .i64 x1.s, .int .i64 x1.lo, .int .i64 x1.hi] 33) = W := ⟨_, rfl⟩
  rw [hW2] at S2
  go_wp2_with fail
  clear hW2
  refine (C2.out _ S2.out.1).mono ?_
  rintro e w3 ⟨rfl, b1⟩
  have S3 := Lib.hid ((S2.out.step b1).new #[.int .i64 x2.c, .int .i64 x2.s, .int .i64 x2.lo, .int .i64 x2.hi] 33)
  clear b1 S2
  obtain ⟨W3, hW3⟩ : ∃ W, w3.alloc (.cells #[.int .i64 x2.c, .int .i64 x2.s, .int .i64 x2.lo, .int .i64 x2.hi] 33) = W := ⟨_, rfl⟩
  rw [hW3] at S3
  go_wp2_with fail
  clear hW3
  refine (C3.out _ S3.out.1).mono ?_
  rintro e w4 ⟨rfl, b1⟩
  have S4 := Lib.hid ((S3.out.step b1).new #[.int .i64 x3.c, .int .i64 x3.s, .int .i64 x3.lo, .int .i64 x3.hi] 33)
  clear b1 S3
  obtain ⟨W4, hW4⟩ : ∃ W, w4.alloc (.cells #[.int .i64 x3.c, .int .i64 x3.s, .int .i64 x3.lo, .int .i64 x3.hi] 33) = W := ⟨_, rfl⟩
  rw [hW4] at S4
  clear C0 C1 C2 C3 r1 r2 r3 hp1 hp2
  have hk0 := S4.out.at_ (List.mem_cons_of_mem _ (List.mem_cons_of_mem _ (List.mem_cons_of_mem _ (List.mem_cons_self ..))))
  have p0 := hk0.cell 0
  have p1 := hk0.cell 1
  have p2 := hk0.cell 2
  have p3 := hk0.cell 3
  clear hk0
  go_wp2_with fail
  clear hW4 p0 p1 p2 p3
  refine (right_true x0 _ RT.out.1).mono ?_
  rintro e w5 ⟨rfl, b1⟩
  have S5 := Lib.hid (S4.out.step b1)
  clear b1 S4
  have hk0 := S5.out.at_ (List.mem_cons_of_mem _ (List.mem_cons_of_mem _ (List.mem_cons_self ..)))
  have p0 := hk0.cell 0
  have p1 := hk0.cell 1
  have p2 := hk0.cell 2
  have p3 := hk0.cell 3
  clear hk0
  go_wp2_with fail
  clear p0 p1 p2 p3
  refine (right_true x1 _ RT.out.2.1).mono ?_
  rintro e w6 ⟨rfl, b1⟩
  have S6 := Lib.hid (S5.out.step b1)
  clear b1 S5
  have hk0 := S6.out.at_ (List.mem_cons_of_mem _ (List.mem_cons_self ..))
  have p0 := hk0.cell 0
  have p1 := hk0.cell 1
  have p2 := hk0.cell 2
  have p3 := hk0.cell 3
  clear hk0
  go_wp2_with fail
  clear p0 p1 p2 p3
  refine (right_true x2 _ RT.out.2.2.1).mono ?_
  rintro e w7 ⟨rfl, b1⟩
  have S7 := Lib.hid (S6.out.step b1)
  clear b1 S6
  have hk0 := S7.out.at_ (List.mem_cons_self ..)
  have p0 := hk0.cell 0
  have p1 := hk0.cell 1
  have p2 := hk0.cell 2
  have p3 := hk0.cell 3
  clear hk0
  go_wp2_with fail
  clear p0 p1 p2 p3
  refine (right_true x3 _ RT.out.2.2.2).mono ?_
  rintro e w8 ⟨rfl, b1⟩
  have S8 := Lib.hid (S7.out.step b1)
  clear b1 S7
  go_upto_region 11 with (fail)
  have rr : (y1 = 0 ∨ y1 = 30) ∧ (y2 = 0 ∨ y2 = 30) ∧ (y3 = 0 ∨ y3 = 30) := by
    obtain ⟨_, _, _, _, _, h1, h2, h3⟩ := HX.out
    rw [← h1, ← h2, ← h3]
    exact ⟨outE_range _, outE_range _, outE_range _⟩
  have RR := Lib.hid rr
  clear rr
  obtain ⟨bb, hbb⟩ : ∃ bb, decide (y1 = 0 ∧ y2 = 0 ∧ y3 = 0) = bb := ⟨_, rfl⟩
  have HBB := Lib.hid hbb
  clear hbb
  go_cut [97] (fun v wx => wx = w8 ∧ v = .bool bb)
  case first =>
    obtain ⟨h1, h2, h3⟩ := RR.out
    have hbb := HBB.out
    clear HX RR HBB
    rcases h1 with rfl | rfl
    · rcases h2 with rfl | rfl
      · rcases h3 with rfl | rfl
        · obtain rfl : bb = true := by rw [← hbb]; rfl
          go_wp2_with fail
          go_meet
          exact ⟨rfl, rfl⟩
        · obtain rfl : bb = false := by rw [← hbb]; rfl
          go_wp2_with fail
          go_meet
          exact ⟨rfl, rfl⟩
      · obtain rfl : bb = false := by rw [← hbb]; simp
        go_wp2_with fail
        go_meet
        exact ⟨rfl, rfl⟩
    · obtain rfl : bb = false := by rw [← hbb]; simp
      go_wp2_with fail
      go_meet
      exact ⟨rfl, rfl⟩
  case rest =>
  obtain ⟨rfl, rfl⟩ := hcut
  go_upto_if 97 with (fail)
  go_cut [17, 18, 19, 20] (fun _ _ _ _ wx => Held w wx [(w1.heap.size, 33, #[.int .i64 x0.c, .int .i64 x0.s, .int .i64 x0.lo, .int .i64 x0.hi])])
  case first =>
    rcases bb with _ | _
    · go_wp2_with fail
      go_meet
      exact S8.out.drop.drop.drop
    · have hb := of_decide_eq_true HBB.out
      obtain ⟨z1, z2, z3⟩ := hb
      have hk1 := S8.out.at_ (List.mem_cons_of_mem _ (List.mem_cons_of_mem _ (List.mem_cons_self ..)))
      have hk2 := S8.out.at_ (List.mem_cons_of_mem _ (List.mem_cons_self ..))
      have hk3 := S8.out.at_ (List.mem_cons_self ..)
      have p0 := hk1.cell 0
      have p1 := hk1.cell 1
      have p2 := hk1.cell 2
      have p3 := hk1.cell 3
      have p4 := hk2.cell 0
      have p5 := hk2.cell 1
      have p6 := hk2.cell 2
      have p7 := hk2.cell 3
      have p8 := hk3.cell 0
      have p9 := hk3.cell 1
      have pa := hk3.cell 2
      have pb := hk3.cell 3
      have ZZ := Lib.hid (And.intro z1 (And.intro z2 z3))
      clear hk1 hk2 hk3 z1 z2 z3
      go_wp2_with fail
      clear p0 p1 p2 p3 p4 p5 p6 p7 p8 p9 pa pb
      refine (joins_three wc HH.out.2.1 (by rw [HH.out.2.2.1]; omega) HH.out.2.2.2 HX.out.1 HX.out.2.1 HX.out.2.2.1 HX.out.2.2.2.1 HX.out.2.2.2.2.1 (HX.out.2.2.2.2.2.1.trans ZZ.out.1) (HX.out.2.2.2.2.2.2.1.trans ZZ.out.2.1) (HX.out.2.2.2.2.2.2.2.trans ZZ.out.2.2)).mono ?_
      rintro e w9 ⟨rfl, b1⟩
      have S9 := Lib.hid (((S8.out.step ((Below.refl _ _).alloc (Nat.le_refl _) _)).step b1).new #[.int .i64 x0.c, .int .i64 x0.s, .int .i64 x0.lo, .int .i64 x0.hi] 33)
      clear b1 S8
      obtain ⟨W9, hW9⟩ : ∃ W, w9.alloc (.cells #[.int .i64 x0.c, .int .i64 x0.s, .int .i64 x0.lo, .int .i64 x0.hi] 33) = W := ⟨_, rfl⟩
      rw [hW9] at S9
      have ak0 := S9.out.at_ (List.mem_cons_of_mem _ (List.mem_cons_of_mem _ (List.mem_cons_of_mem _ (List.mem_cons_self ..))))
      have a00 := ak0.cell 0
      have a01 := ak0.cell 1
      have a02 := ak0.cell 2
      have a03 := ak0.cell 3
      have ak1 := S9.out.at_ (List.mem_cons_of_mem _ (List.mem_cons_of_mem _ (List.mem_cons_self ..)))
      have a10 := ak1.cell 0
      have a11 := ak1.cell 1
      have a12 := ak1.cell 2
      have a13 := ak1.cell 3
      have ak2 := S9.out.at_ (List.mem_cons_of_mem _ (List.mem_cons_self ..))
      have a20 := ak2.cell 0
      have a21 := ak2.cell 1
      have a22 := ak2.cell 2
      have a23 := ak2.cell 3
      clear ak0 ak1 ak2
      go_wp2_with fail
      clear hW9 a00 a01 a02 a03 a10 a11 a12 a13 a20 a21 a22 a23
      refine (joins_four W9 HH.out.2.1 (by rw [HH.out.2.2.1]; omega) HH.out.2.2.2 HX.out.1 HX.out.2.1 HX.out.2.2.1 HX.out.2.2.2.1 HX.out.2.2.2.2.1 (HX.out.2.2.2.2.2.1.trans ZZ.out.1) (HX.out.2.2.2.2.2.2.1.trans ZZ.out.2.1) (HX.out.2.2.2.2.2.2.2.trans ZZ.out.2.2)).mono ?_
      rintro e w10 ⟨rfl, b1⟩
      have S10 := Lib.hid (((S9.out.step ((Below.refl _ _).alloc (Nat.le_refl _) _)).step b1).new #[.int .i64 x0.c, .int .i64 x0.s, .int .i64 x0.lo, .int .i64 x0.hi] 33)
      clear b1 S9
      obtain ⟨W10, hW10⟩ : ∃ W, w10.alloc (.cells #[.int .i64 x0.c, .int .i64 x0.s, .int .i64 x0.lo, .int .i64 x0.hi] 33) = W := ⟨_, rfl⟩
      rw [hW10] at S10
      have dk0 := S10.out.at_ (List.mem_cons_self ..)
      have d00 := dk0.cell 0
      have d01 := dk0.cell 1
      have d02 := dk0.cell 2
      have d03 := dk0.cell 3
      have dk1 := S10.out.at_ (List.mem_cons_of_mem _ (List.mem_cons_self ..))
      have d10 := dk1.cell 0
      have d11 := dk1.cell 1
      have d12 := dk1.cell 2
      have d13 := dk1.cell 3
      have dk2 := S10.out.at_ (List.mem_cons_of_mem _ (List.mem_cons_of_mem _ (List.mem_cons_of_mem _ (List.mem_cons_of_mem _ (List.mem_cons_of_mem _ (List.mem_cons_self ..))))))
      have d20 := dk2.cell 0
      have d21 := dk2.cell 1
      have d22 := dk2.cell 2
      have d23 := dk2.cell 3
      clear dk0 dk1 dk2
      have qs := fun W => pagg_self x0 W
      have gg := pagg_guard
      go_wp2_with fail
      go_meet
      exact S10.out.drop.drop.drop.drop.drop
  case rest =>
  clear S8 HBB RR RT
  rename World => WC
  have S11 := Lib.hid (hcut.new #[.int .i64 0, .int .i64 0, .int .i64 0, .int .i64 0] 33)
  have G1 : Hid (w.heap.size ≤ WC.heap.size ∧ w1.heap.size ≠ WC.heap.size) := Lib.hid ⟨hcut.1.size, by have := hcut.top.lt; omega⟩
  clear hcut
  go_wp2_with fail
  obtain ⟨W11, hW11⟩ : ∃ W, WC.alloc (.cells #[.int .i64 0, .int .i64 0, .int .i64 0, .int .i64 0] 33) = W := ⟨_, rfl⟩
  rw [hW11] at S11 ⊢
  clear hW11
  go_loopw [22] (fun i wr => ∃ j : Nat, j ≤ n ∧ i = .int .i64 (j : Int) ∧ fitB (l.take j).sum = true ∧ Held w wr [(WC.heap.size, 33, #[.int .i64 (Ag.of (l.take j)).c, .int .i64 (Ag.of (l.take j)).s, .int .i64 (Ag.of (l.take j)).lo, .int .i64 (Ag.of (l.take j)).hi]), (w1.heap.size, 33, #[.int .i64 x0.c, .int .i64 x0.s, .int .i64 x0.lo, .int .i64 x0.hi])]) (fun i _ => n - (intOf i).toNat)
  case atStart => exact ⟨0, by omega, rfl, rfl, S11.out⟩
  case round =>
    obtain ⟨j, hj, rfl, hf, hh⟩ := hrel
    have HF := Lib.hid hf
    clear hf S11
    by_cases hlt : j < n
    · have s1 : (j : Int) < n := by omega
      obtain ⟨b, off, rfl, hbB, hcl⟩ := HH.out.1.2.2 (by omega)
      obtain ⟨v, hv⟩ : ∃ v, l.getD j 0 = v := ⟨_, rfl⟩
      have hvk : i64ok v := by rw [← hv]; exact HH.out.1.at_ j
      have hcv := hcl j hlt
      rw [hv] at hcv
      obtain ⟨x, hx⟩ : ∃ x, Ag.of (l.take j) = x := ⟨_, rfl⟩
      obtain ⟨z, r, hzr, hput⟩ := put_out (by rw [HH.out.2.2.1]; exact hlt) (by rw [HH.out.2.2.1]; omega) HH.out.2.2.2 HF.out hv hvk hx
      rw [hx] at hh
      have SJ := Lib.hid hh
      have P : Hid (∀ W, Below wr.heap.size wr W → W.cell? ⟨b, off + j, none⟩ = some (.int .i64 v) ∧ W.cell? ⟨WC.heap.size, 0, none⟩ = some (.int .i64 x.c) ∧ W.cell? ⟨WC.heap.size, 1, none⟩ = some (.int .i64 x.s) ∧ W.cell? ⟨WC.heap.size, 2, none⟩ = some (.int .i64 x.lo) ∧ W.cell? ⟨WC.heap.size, 3, none⟩ = some (.int .i64 x.hi)) := Lib.hid fun W hW => by
        have hw := hh.step hW
        have hk := hw.top
        exact ⟨(hw.1.cell (p := ⟨b, off + j, none⟩) hbB).trans hcv, hk.cell 0, hk.cell 1, hk.cell 2, hk.cell 3⟩
      have HX2 := Lib.hid (And.intro hx hzr)
      have HPut := Lib.hid hput
      clear hh hcv hcl hvk hx hzr hput
      have D0 : Hid (Below wr.heap.size wr wr.drew) := Lib.hid (Below.refl _ _).drew
      have DD : Hid (Below wr.heap.size wr (wr.alloc (.cells #[.int .i64 0, .int .i64 0, .int .i64 0, .int .i64 0] 33)).drew) := Lib.hid ((Below.refl _ _).alloc (Nat.le_refl _) _).drew
      have BD : Hid (Blk (wr.alloc (.cells #[.int .i64 0, .int .i64 0, .int .i64 0, .int .i64 0] 33)).drew wr.heap.size 33 #[.int .i64 0, .int .i64 0, .int .i64 0, .int .i64 0]) := Lib.hid (Blk.new wr _ _)
      go_upto_region 20 with (fail)
      go_cut [23, 24] (fun p e wx => ∃ g, p = .pointer (some ⟨g, 0, none⟩) ∧ e = .int .i64 r ∧ Held w wx [(g, 33, #[.int .i64 z.c, .int .i64 z.s, .int .i64 z.lo, .int .i64 z.hi]), (WC.heap.size, 33, #[.int .i64 x.c, .int .i64 x.s, .int .i64 x.lo, .int .i64 x.hi]), (w1.heap.size, 33, #[.int .i64 x0.c, .int .i64 x0.s, .int .i64 x0.lo, .int .i64 x0.hi])])
      case first =>
        go_region_held3 (fun W => W.cell? ⟨b, off + j, none⟩ = some (.int .i64 v) ∧ W.cell? ⟨WC.heap.size, 0, none⟩ = some (.int .i64 x.c) ∧ W.cell? ⟨WC.heap.size, 1, none⟩ = some (.int .i64 x.s) ∧ W.cell? ⟨WC.heap.size, 2, none⟩ = some (.int .i64 x.lo) ∧ W.cell? ⟨WC.heap.size, 3, none⟩ = some (.int .i64 x.hi)) (first | with_reducible exact P.out _ D0.out | with_reducible exact P.out _ DD.out | with_reducible exact P.out _ D1.out | with_reducible exact P.out _ (D1.out.alloc D1.out.size _) | with_reducible exact P.out _ (below_four' D1.out (Nat.le_refl _) _ _ _ _) | fail) (first
          | (go_at_call 22; (with_reducible refine (HPut.out wr.drew).mono ?_); rintro e w12 ⟨rfl, b12⟩; have D1 := Lib.hid (below_next D0.out b12); clear b12)
          | (go_at_call 22; (with_reducible refine (HPut.out (wr.alloc (.cells #[.int .i64 0, .int .i64 0, .int .i64 0, .int .i64 0] 33)).drew).mono ?_); rintro e w12 ⟨rfl, b12⟩; have D1 := Lib.hid (below_next DD.out b12); have K2 := Lib.hid (BD.out.below b12 BD.out.lt); have kc0 := K2.out.cell 0; have kc1 := K2.out.cell 1; have kc2 := K2.out.cell 2; have kc3 := K2.out.cell 3; have kf0 := K2.out.frozen 0; have kf1 := K2.out.frozen 1; have kf2 := K2.out.frozen 2; have kf3 := K2.out.frozen 3; clear b12))
        all_goals (go_wp2_with fail)
        all_goals go_meet
        all_goals (first | exact ⟨_, rfl, rfl, (SJ.out.step D1.out).new _ _⟩ | exact ⟨_, rfl, rfl, SJ.out.four D1.out K2.out (Nat.le_refl _) _ _ _ _⟩)
      case rest =>
        obtain ⟨g, rfl, rfl, hh⟩ := hcut
        obtain ⟨hx, hzr⟩ := HX2.out
        have h1 := congrArg Ag.A.c hx
        have h2 : ((l.take j).length : Int) = j := by rw [List.length_take, HH.out.2.2.1]; omega
        obtain ⟨xc, xs, xlo, xhi⟩ := x
        obtain rfl : xc = (j : Int) := h1.symm.trans h2
        clear h1 h2 P HPut DD BD D0
        rcases hzr with ⟨rfl, hz, hf⟩ | ⟨rfl, rfl⟩
        · have h1 := congrArg Ag.A.c hz
          have h2 : ((l.take (j + 1)).length : Int) = (j : Int) + 1 := by rw [List.length_take, HH.out.2.2.1]; omega
          have tz : Ag.right z = true := by rw [← hz]; exact Ag.of_right _
          obtain ⟨zc, zs, zlo, zhi⟩ := z
          obtain rfl : zc = (j : Int) + 1 := h1.symm.trans h2
          have HZ := Lib.hid (And.intro hz (And.intro hf tz))
          have k0 := hh.at_ (List.mem_cons_self ..)
          have p0 := k0.cell 0
          have p1 := k0.cell 1
          have p2 := k0.cell 2
          have p3 := k0.cell 3
          have SK := Lib.hid hh
          clear h1 h2 hz hf tz hh hx k0 HX2 SJ
          go_wp2_with fail
          clear p0 p1 p2 p3
          refine (right_true ⟨(j : Int) + 1, zs, zlo, zhi⟩ _ HZ.out.2.2).mono ?_
          rintro e w13 ⟨rfl, b13⟩
          have SL := Lib.hid (SK.out.step b13)
          have k0 := SL.out.at_ (List.mem_cons_self ..)
          have k1 := SL.out.at_ (List.mem_cons_of_mem _ (List.mem_cons_self ..))
          have p0 := k0.cell 0
          have p1 := k0.cell 1
          have p2 := k0.cell 2
          have p3 := k0.cell 3
          have p4 := k1.cell 0
          have p5 := k1.cell 1
          have p6 := k1.cell 2
          have p7 := k1.cell 3
          have f4 := k1.frozen 0
          have f5 := k1.frozen 1
          have f6 := k1.frozen 2
          have f7 := k1.frozen 3
          have s2 : ((j : Int) + 1 == (j : Int) + 1) = true := by rw [beq_iff_eq]
          clear b13 SK k0 k1
          go_wp2_with fail
          go_roundw
          case measure => simp [intOf]; omega
          case rel => exact ⟨j + 1, by omega, by go_num, HZ.out.2.1, by rw [HZ.out.1]; exact SL.out.upd G1.out.1 (by simp; exact G1.out.2) _ _ _ _⟩
        · have k0 := hh.at_ (List.mem_cons_self ..)
          have k1 := hh.at_ (List.mem_cons_of_mem _ (List.mem_cons_self ..))
          have p0 := k0.cell 0
          have p1 := k0.cell 1
          have p2 := k0.cell 2
          have p3 := k0.cell 3
          have p4 := k1.cell 0
          have p5 := k1.cell 1
          have p6 := k1.cell 2
          have p7 := k1.cell 3
          have qs := fun W => pagg_self ⟨(j : Int), xs, xlo, xhi⟩ W
          have gg := pagg_guard
          have SK := Lib.hid hh
          clear hh hx k0 k1 HX2 SJ
          go_wp2_with fail
          refine (works_any _).mono ?_
          rintro e w13 ⟨rfl, b13⟩
          go_wp2_with fail
          go_ret
          exact ⟨rfl, SK.out.1.trans (b13.mono SK.out.1.size)⟩
    · obtain rfl : j = n := by omega
      have s1 : ¬ (j : Int) < j := by omega
      have e0 : l.take j = l := List.take_of_length_le (by rw [HH.out.2.2.1]; omega)
      rw [e0] at hh
      have hy : y0 = 0 ∧ x0 = Ag.of l := by
        have hf := HF.out
        rw [e0] at hf
        have h1 := HX.out.1
        have h2 := HX.out.2.2.2.2.1
        unfold outA at h1
        unfold outE at h2
        rw [hf] at h1 h2
        exact ⟨h2.symm, h1.symm⟩
      obtain ⟨rfl, hx⟩ := hy
      rw [← hx] at hh
      have SJ := Lib.hid hh
      have k0 := hh.at_ (List.mem_cons_self ..)
      have k1 := hh.at_ (List.mem_cons_of_mem _ (List.mem_cons_self ..))
      have p0 := k0.cell 0
      have p1 := k0.cell 1
      have p2 := k0.cell 2
      have p3 := k0.cell 3
      have p4 := k1.cell 0
      have p5 := k1.cell 1
      have p6 := k1.cell 2
      have p7 := k1.cell 3
      have qs := fun W => pagg_self x0 W
      have gg := pagg_guard
      clear hh k0 k1 hx e0
      go_wp2_with fail
      refine (works_any _).mono ?_
      rintro e w13 ⟨rfl, b13⟩
      go_wp2_with fail
      go_ret
      exact ⟨rfl, SJ.out.1.trans (b13.mono SJ.out.1.size)⟩
end Go.Proofs.Ytaahlepgmcgcfaa
